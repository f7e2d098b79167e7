/- The walk of the law ActOrders, of the program itself. -/
import Derived.Test.YtplhkplfbcmbdaaYZ28
import Derived.Test.YtplhkplfbcmbdaaYActOrders
import Derived.Test.YtplhkplfbcmbdaaYActP1
namespace Go.Proofs.Ytplhkplfbcmbdaa
open Go.RowKit
set_option linter.unusedVariables false
set_option maxRecDepth 100000

theorem actOrders_walk (a b c : Evn) (w : World) :
    Calls Try.prog 6 #[eval8 a, eval8 b, eval8 c] w fun e w' => e = .returned (.bool true) ∧ Below w.heap.size w w' := actOrders_core haw8 (Lib.hid compareAny) a b c w

end Go.Proofs.Ytplhkplfbcmbdaa
