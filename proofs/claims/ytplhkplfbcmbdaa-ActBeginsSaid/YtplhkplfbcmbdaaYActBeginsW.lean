/- The walk of the law ActBegins, of the program itself. -/
import Derived.Test.YtplhkplfbcmbdaaYZ28
import Derived.Test.YtplhkplfbcmbdaaYActBegins
import Derived.Test.YtplhkplfbcmbdaaYZ11
namespace Go.Proofs.Ytplhkplfbcmbdaa
open Go.RowKit
set_option linter.unusedVariables false
set_option maxRecDepth 100000

theorem actBegins_walk (m : Mdl) (vd vp vl vi : Value) (lp : Int) (w : World) (hm : MdlAt m vd vp vl vi w) (hl : (Lit.int .i64 lp).wf = true) :
    Calls Try.prog 3 #[mval m vd vp vl vi, .int .i64 lp] w fun x w' => x = .returned (.bool true) ∧ Below w.heap.size w w' := actBegins_core haw8 (Lib.hid beginAny) (Lib.hid firstAny) (Lib.hid sameAny8) m vd vp vl vi lp w hm

end Go.Proofs.Ytplhkplfbcmbdaa
