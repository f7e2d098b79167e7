/- Floats held against each other, by their places in the order. -/
import Derived.Test.YtaaagmcdbmppmaaYFloatMath
namespace Go.Proofs.Ytaaagmcdbmppmaa

theorem ord_eq (x y : Nat) : (FloatKind.f64.format.order x y == some .eq) = decide (isNum x ∧ isNum y ∧ ford x = ford y) := by
  change (Ieee.double.order x y == some .eq) = _
  by_cases hx : isNum x
  · by_cases hy : isNum y
    · rw [order_num x y hx hy, compare_int]
      by_cases h1 : ford x < ford y
      · rw [if_pos h1]; simp [hx, hy]; omega
      · rw [if_neg h1]
        by_cases h2 : ford x = ford y
        · rw [if_pos h2]; simp [hx, hy, h2]
        · rw [if_neg h2]; simp [hx, hy, h2]
    · rw [order_nan_right x y hy]; simp [hy]
  · rw [order_nan_left x y hx]; simp [hx]
theorem ord_lt (x y : Nat) : (FloatKind.f64.format.order x y == some .lt) = decide (isNum x ∧ isNum y ∧ ford x < ford y) := by
  change (Ieee.double.order x y == some .lt) = _
  by_cases hx : isNum x
  · by_cases hy : isNum y
    · rw [order_num x y hx hy, compare_int]
      by_cases h1 : ford x < ford y
      · rw [if_pos h1]; simp [hx, hy, h1]
      · rw [if_neg h1]
        by_cases h2 : ford x = ford y
        · rw [if_pos h2]; simp [hx, hy, h2]
        · rw [if_neg h2]; simp [hx, hy]; omega
    · rw [order_nan_right x y hy]; simp [hy]
  · rw [order_nan_left x y hx]; simp [hx]
theorem ord_gt (x y : Nat) : (FloatKind.f64.format.order x y == some .gt) = decide (isNum x ∧ isNum y ∧ ford y < ford x) := by
  change (Ieee.double.order x y == some .gt) = _
  by_cases hx : isNum x
  · by_cases hy : isNum y
    · rw [order_num x y hx hy, compare_int]
      by_cases h1 : ford x < ford y
      · rw [if_pos h1]; simp [hx, hy]; omega
      · rw [if_neg h1]
        by_cases h2 : ford x = ford y
        · rw [if_pos h2]; simp [hx, hy, h2]
        · rw [if_neg h2]; simp [hx, hy]; omega
    · rw [order_nan_right x y hy]; simp [hy]
  · rw [order_nan_left x y hx]; simp [hx]

theorem isNum_zero : isNum 0 := by decide
theorem ford_zero : ford 0 = 0 := by decide

end Go.Proofs.Ytaaagmcdbmppmaa
