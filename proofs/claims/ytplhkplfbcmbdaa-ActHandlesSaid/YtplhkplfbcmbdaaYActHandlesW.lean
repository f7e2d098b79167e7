/- The walk of the law ActHandles, of the program itself. -/
import Derived.Test.YtplhkplfbcmbdaaYZ28
import Derived.Test.YtplhkplfbcmbdaaYActHandles
namespace Go.Proofs.Ytplhkplfbcmbdaa
open Go.RowKit
set_option linter.unusedVariables false
set_option maxRecDepth 100000

theorem actHandles_walk (m : Mdl) (vd vp vl vi : Value) (lp : Int) (s : Sta) (vI : Value) (e : Evn) (w : World) (hm : MdlAt m vd vp vl vi w) (hs : Sl 1 (gW s.w) s.nw vI w) (hb : ∀ p k, r64v (m.pr p k).b) (hbd : Bd (beginM (inpOf m lp s e))) :
    Calls Try.prog 4 #[cval m vd vp vl vi lp s vI e] w fun x w' => x = .returned (.bool true) ∧ Below w.heap.size w w' := actHandles_core haw8 (Lib.hid handleAny) m vd vp vl vi lp s vI e w hm hs hb hbd

end Go.Proofs.Ytplhkplfbcmbdaa
