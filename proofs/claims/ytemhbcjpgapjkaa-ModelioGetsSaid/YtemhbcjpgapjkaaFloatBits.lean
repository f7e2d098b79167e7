/- math.Float64bits. -/
import Derived.Test.YtemhbcjpgapjkaaFloatOrd
import Derived.Test.YtemhbcjpgapjkaaBase
import Derived.Test.YtemhbcjpgapjkaaProg
import Derived.Laws.Externs
namespace Go.Proofs.Ytemhbcjpgapjkaa
open Go.RowKit

theorem floatbits_run (b : Nat) (w : World) : (callFunc 51 #[.float .f64 b]).run Try.prog w = .ok (.value (.int .u64 b)) w := by
  rw [run_callFunc_extern (e := Extern.MathFloatBits.float64bits) Try.func51 (by kernel_rfl) (by kernel_rfl) (by kernel_rfl) (by kernel_rfl)]
  rfl

theorem store_float (x : Nat) (a : Addr) (m : Mode) (w : World) : (store a (.float .f64 x) m).run Try.prog w = stored Try.prog w a (.float .f64 x) m := run_store _ w a _ m rfl

end Go.Proofs.Ytemhbcjpgapjkaa
