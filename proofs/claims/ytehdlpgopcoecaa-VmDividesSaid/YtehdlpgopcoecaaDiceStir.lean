/- The contracts of dice.Stir and of the document's Stir. -/
import Derived.Test.YtehdlpgopcoecaaRows
import Derived.Test.YtehdlpgopcoecaaDiceMath
import Derived.Test.YtehdlpgopcoecaaBase
import Derived.WalkKit
import Derived.WalkSpells
import Derived.WalkLawsBesides
import Derived.Lib.Hide
import Derived.WalkSmall
namespace Go.Proofs.Ytehdlpgopcoecaa
open Go.RowKit


theorem xs_step (k : Nat) (q : Int) (hq : q = ((2 ^ k : Nat) : Int)) (x : Nat) (hx : x < 18446744073709551616) : bits .xor .u64 (x : Int) ((x : Int) / q) = ((xsN k x : Nat) : Int) := by
  subst hq
  have e : ((x : Int) / ((2 ^ k : Nat) : Int)) = ((x / 2 ^ k : Nat) : Int) := (Int.natCast_ediv _ _).symm
  rw [e]
  exact bits_xor_u64 x (x / 2 ^ k) hx (Nat.lt_of_le_of_lt (Nat.div_le_self _ _) hx)
theorem xs_step2 (k : Nat) (q : Int) (hq : q = ((2 ^ k : Nat) : Int)) (x : Nat) (hx : x < 18446744073709551616) : bits .xor .u64 (x : Int) (IntKind.u64.wrap ((x : Int).tdiv q)) = ((xsN k x : Nat) : Int) := by
  have h1 : 1 ≤ q := by rw [hq]; have := Nat.two_pow_pos k; omega
  rw [IntWalk.u64_quo (x : Int) q ⟨by omega, by omega, h1⟩]
  exact xs_step k q hq x hx
theorem mul_step (m : Nat) (x : Nat) : IntKind.u64.wrap ((x : Int) * (m : Int)) = ((mulN m x : Nat) : Int) := by
  rw [IntKind.wrap_u64]
  unfold mulN
  rw [Int.natCast_emod, Int.natCast_mul]
  rfl

/-- what dice.Stir reckons -/
def stirI (z : Int) : Int :=
  bits .xor .u64 (IntKind.u64.wrap (bits .xor .u64 (IntKind.u64.wrap (bits .xor .u64 z (z / 1073741824) * 13787848793156543929)) (IntKind.u64.wrap (bits .xor .u64 z (z / 1073741824) * 13787848793156543929) / 134217728) * 10723151780598845931))
    (IntKind.u64.wrap (bits .xor .u64 (IntKind.u64.wrap (bits .xor .u64 z (z / 1073741824) * 13787848793156543929)) (IntKind.u64.wrap (bits .xor .u64 z (z / 1073741824) * 13787848793156543929) / 134217728) * 10723151780598845931) / 2147483648)
/-- what the document's Stir reckons -/
def stirR (z : Int) : Int :=
  bits .xor .u64 (IntKind.u64.wrap (bits .xor .u64 (IntKind.u64.wrap (bits .xor .u64 z (z / 1073741824) * 13787848793156543929)) (IntKind.u64.wrap ((IntKind.u64.wrap (bits .xor .u64 z (z / 1073741824) * 13787848793156543929)).tdiv 134217728)) * 10723151780598845931))
    (IntKind.u64.wrap ((IntKind.u64.wrap (bits .xor .u64 (IntKind.u64.wrap (bits .xor .u64 z (z / 1073741824) * 13787848793156543929)) (IntKind.u64.wrap ((IntKind.u64.wrap (bits .xor .u64 z (z / 1073741824) * 13787848793156543929)).tdiv 134217728)) * 10723151780598845931)).tdiv 2147483648))
theorem stirI_eq (z : Nat) (hz : z < 18446744073709551616) : stirI (z : Int) = ((stirN z : Nat) : Int) := by
  unfold stirI stirN
  rw [xs_step 30 1073741824 (by decide) z hz]
  have m1 := mul_step 13787848793156543929 (xsN 30 z)
  have l1 := mulN_lt 13787848793156543929 (xsN 30 z)
  rw [show ((13787848793156543929 : Nat) : Int) = (13787848793156543929 : Int) from rfl] at m1
  rw [m1]
  generalize mulN 13787848793156543929 (xsN 30 z) = b at l1
  rw [xs_step 27 134217728 (by decide) b l1]
  have m2 := mul_step 10723151780598845931 (xsN 27 b)
  have l2 := mulN_lt 10723151780598845931 (xsN 27 b)
  rw [show ((10723151780598845931 : Nat) : Int) = (10723151780598845931 : Int) from rfl] at m2
  rw [m2]
  generalize mulN 10723151780598845931 (xsN 27 b) = d at l2
  exact xs_step 31 2147483648 (by decide) d l2
theorem stirR_eq (z : Nat) (hz : z < 18446744073709551616) : stirR (z : Int) = ((stirN z : Nat) : Int) := by
  unfold stirR stirN
  rw [xs_step 30 1073741824 (by decide) z hz]
  have m1 := mul_step 13787848793156543929 (xsN 30 z)
  have l1 := mulN_lt 13787848793156543929 (xsN 30 z)
  rw [show ((13787848793156543929 : Nat) : Int) = (13787848793156543929 : Int) from rfl] at m1
  rw [m1]
  generalize mulN 13787848793156543929 (xsN 30 z) = b at l1
  rw [xs_step2 27 134217728 (by decide) b l1]
  have m2 := mul_step 10723151780598845931 (xsN 27 b)
  have l2 := mulN_lt 10723151780598845931 (xsN 27 b)
  rw [show ((10723151780598845931 : Nat) : Int) = (10723151780598845931 : Int) from rfl] at m2
  rw [m2]
  generalize mulN 10723151780598845931 (xsN 27 b) = d at l2
  exact xs_step2 31 2147483648 (by decide) d l2

theorem stir_any (z : Nat) (hz : z < 18446744073709551616) (w : World) :
    Calls Try.prog 49 #[.int .u64 z] w fun e w' => e = .returned (.int .u64 (stirN z)) ∧ w = w' := by
  have E := Lib.hid (stirI_eq z hz)
  go_enter Try.func49, Try.ntmps49
  go_wp2_with fail
  go_ret
  exact ⟨by rw [← E.out]; rfl, rfl⟩

theorem refStir_any (z : Nat) (hz : z < 18446744073709551616) (w : World) :
    Calls Try.prog 35 #[.int .u64 z] w fun e w' => e = .returned (.int .u64 (stirN z)) ∧ w = w' := by
  have E := Lib.hid (stirR_eq z hz)
  go_enter Try.func35, Try.ntmps35
  go_wp2_with fail
  go_ret
  exact ⟨by rw [← E.out]; rfl, rfl⟩

end Go.Proofs.Ytehdlpgopcoecaa
