/- The walk of the law ActAgain, of the program itself. -/
import Derived.Test.YtplhkplfbcmbdaaYZ28
import Derived.Test.YtplhkplfbcmbdaaYActAgain
namespace Go.Proofs.Ytplhkplfbcmbdaa
open Go.RowKit
set_option linter.unusedVariables false
set_option maxRecDepth 100000

theorem actAgain_walk (m : Mdl) (vd vp vl vi : Value) (lp : Int) (s : Sta) (vI : Value) (e : Evn) (m2 : Mdl) (vd2 vp2 vl2 vi2 : Value) (lp2 : Int) (s2 : Sta) (vI2 : Value) (e2 : Evn) (w : World) (hm : MdlAt m vd vp vl vi w) (hs : Sl 1 (gW s.w) s.nw vI w) (hb : ∀ p k, r64v (m.pr p k).b) (hbd : Bd (beginM (inpOf m lp s e))) (hm2 : MdlAt m2 vd2 vp2 vl2 vi2 w) (hs2 : Sl 1 (gW s2.w) s2.nw vI2 w) (hb2 : ∀ p k, r64v (m2.pr p k).b) (hbd2 : Bd (beginM (inpOf m2 lp2 s2 e2))) :
    Calls Try.prog 8 #[cval m vd vp vl vi lp s vI e, cval m2 vd2 vp2 vl2 vi2 lp2 s2 vI2 e2] w fun x w' => x = .returned (.bool true) ∧ Below w.heap.size w w' := actAgain_core haw8 (Lib.hid handleAny) m vd vp vl vi lp s vI e m2 vd2 vp2 vl2 vi2 lp2 s2 vI2 e2 w hm hs hb hbd hm2 hs2 hb2 hbd2

end Go.Proofs.Ytplhkplfbcmbdaa
