/- The walk of the law ActSame, of the program itself. -/
import Derived.Test.YtplhkplfbcmbdaaYZ28
import Derived.Test.YtplhkplfbcmbdaaYActSame
import Derived.Test.YtplhkplfbcmbdaaYZ11
namespace Go.Proofs.Ytplhkplfbcmbdaa
open Go.RowKit
set_option linter.unusedVariables false
set_option maxRecDepth 100000

theorem actSame_walk (a : Sta) (va : Value) (b : Sta) (vb : Value) (w : World) (ha : Sl 1 (gW a.w) a.nw va w) (hb : Sl 1 (gW b.w) b.nw vb w) :
    Calls Try.prog 7 #[sval a va, sval b vb] w fun e w' => e = .returned (.bool true) ∧ Below w.heap.size w w' := actSame_core haw8 (Lib.hid sameAny8) (Lib.hid copyAny8) a b va vb w ha hb

end Go.Proofs.Ytplhkplfbcmbdaa
