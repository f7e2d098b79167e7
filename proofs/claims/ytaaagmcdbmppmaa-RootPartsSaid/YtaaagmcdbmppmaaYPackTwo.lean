/- The contract of the document's Two: a number's two bytes. -/
import Derived.Laws.BytesArg
import Derived.Lib.Hide
import Derived.WalkSmall
import Derived.Test.YtaaagmcdbmppmaaYZ0
import Derived.Test.YtaaagmcdbmppmaaYBase
import Derived.Test.YtaaagmcdbmppmaaRows
namespace Go.Proofs.Ytaaagmcdbmppmaa
open Go.RowKit

theorem beI_two (n : Nat) (h : n ≤ 65535) : beI 2 (n : Int) = [(n : Int) / 256, (n : Int) % 256] := by
  simp only [beI]
  have e1 : (n : Int) / 256 ^ 1 % 256 = (n : Int) / 256 := by omega
  have e2 : (n : Int) / 256 ^ 0 % 256 = (n : Int) % 256 := by omega
  rw [e1, e2]

set_option maxHeartbeats 400000 in
theorem refTwo (n : Nat) (h : n ≤ 65535) (w : World) :
    Calls Try.prog 31 #[.int .i64 n] w fun e w' => e = .returned (.string (strOfNums (beI 2 n))) ∧ Below w.heap.size w w' := by
  have hcv := run_convert_bytes_arg (P := Try.prog) (w.alloc (.cells #[.int .u8 ((n : Int) / 256), .int .u8 ((n : Int) % 256)] 5)) 56 5 Try.underlying56 Try.underlying5 w.heap.size 0 2 2 [(n : Int) / 256, (n : Int) % 256] rfl
    (by intro i hi; rcases (by omega : i = 0 ∨ i = 1) with rfl | rfl <;> simp) 9 Try.underlying9
  have E := Lib.hid (beI_two n h)
  go_enter Try.func31, Try.ntmps31
  go_wp2_with fail
  go_ret
  exact ⟨by rw [E.out]; rfl, (Below.refl _ _).alloc (Nat.le_refl _) _⟩

end Go.Proofs.Ytaaagmcdbmppmaa
