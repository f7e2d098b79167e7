/- The plain mathematics of layer 4 (dice): 64 bits stirred, rolls; unlike words are stirred to unlike ones. No Go, no program. -/
import Derived.WalkKit
import Derived.WalkSpells
namespace Go.Proofs.Ytehdlpgopcoecaa
open Go.RowKit

/-- xored with itself shifted right by k -/
def xsN (k z : Nat) : Nat := z ^^^ z / 2 ^ k
/-- times m, wrap-round -/
def mulN (m z : Nat) : Nat := z * m % 18446744073709551616
/-- 64 bits stirred -/
def stirN (z : Nat) : Nat := xsN 31 (mulN 10723151780598845931 (xsN 27 (mulN 13787848793156543929 (xsN 30 z))))
/-- a number as 64 bits -/
def u64N (n : Int) : Nat := (n % 18446744073709551616).toNat
def addN (a c : Nat) : Nat := (a + mulN 11400714819323198485 (c + 1)) % 18446744073709551616
def wordN (seed process : Int) : Nat := stirN (addN (u64N seed) (u64N process))
def rollN (seed process count : Int) : Nat := stirN (addN (wordN seed process) (u64N count))
/-- what is left of a roll by n -/
def belowN (roll : Nat) (n : Int) : Int := if n < 1 then 0 else (roll : Int) % n

theorem xsN_inj (k : Nat) (hk : 0 < k) (x y : Nat) (h : xsN k x = xsN k y) : x = y := by
  unfold xsN at h
  have e : x ^^^ y = (x ^^^ y) / 2 ^ k := by
    rw [Nat.xor_div_two_pow]
    generalize x / 2 ^ k = p at h
    generalize y / 2 ^ k = q at h
    have e1 : x = (y ^^^ q) ^^^ p := by rw [← h, Nat.xor_assoc, Nat.xor_self, Nat.xor_zero]
    have e2 : x ^^^ y = (y ^^^ y) ^^^ (p ^^^ q) := by
      rw [e1, Nat.xor_assoc y q p, Nat.xor_comm (y ^^^ (q ^^^ p)) y, ← Nat.xor_assoc, Nat.xor_comm q p]
    rw [e2, Nat.xor_self, Nat.zero_xor]
  have h0 : x ^^^ y = 0 := by
    have h2 : 2 ≤ 2 ^ k := by
      have := Nat.pow_le_pow_right (n := 2) (by omega) hk
      simpa using this
    rcases Nat.eq_zero_or_pos (x ^^^ y) with h3 | h3
    · exact h3
    · have h4 := Nat.div_lt_self h3 (show 1 < 2 ^ k by omega)
      omega
  have h5 := congrArg (· ^^^ y) h0
  simpa [Nat.xor_assoc] using h5

theorem xsN_lt (k z : Nat) (h : z < 18446744073709551616) : xsN k z < 18446744073709551616 := by
  unfold xsN
  exact Nat.xor_lt_two_pow (n := 64) h (Nat.lt_of_le_of_lt (Nat.div_le_self _ _) h)
theorem mulN_lt (m z : Nat) : mulN m z < 18446744073709551616 := Nat.mod_lt _ (by omega)
theorem stirN_lt (z : Nat) : stirN z < 18446744073709551616 := xsN_lt _ _ (mulN_lt _ _)
theorem addN_lt (a c : Nat) : addN a c < 18446744073709551616 := Nat.mod_lt _ (by omega)
theorem u64N_lt (n : Int) : u64N n < 18446744073709551616 := by unfold u64N; omega

theorem mulN_inj (m i : Nat) (hm : m * i % 18446744073709551616 = 1) (x y : Nat) (hx : x < 18446744073709551616) (hy : y < 18446744073709551616) (h : mulN m x = mulN m y) : x = y := by
  have back : ∀ z, z < 18446744073709551616 → mulN m z * i % 18446744073709551616 = z := by
    intro z hz
    unfold mulN
    rw [Nat.mod_mul_mod, Nat.mul_assoc, ← Nat.mul_mod_mod, hm, Nat.mul_one, Nat.mod_eq_of_lt hz]
  rw [← back x hx, ← back y hy, h]

theorem stirN_inj (x y : Nat) (hx : x < 18446744073709551616) (hy : y < 18446744073709551616) (h : stirN x = stirN y) : x = y := by
  unfold stirN at h
  have h1 := xsN_inj 31 (by omega) _ _ h
  have h2 := mulN_inj 10723151780598845931 3573116690164977347 (by decide +kernel) _ _ (xsN_lt _ _ (mulN_lt _ _)) (xsN_lt _ _ (mulN_lt _ _)) h1
  have h3 := xsN_inj 27 (by omega) _ _ h2
  have h4 := mulN_inj 13787848793156543929 10871156337175269513 (by decide +kernel) _ _ (xsN_lt _ _ hx) (xsN_lt _ _ hy) h3
  exact xsN_inj 30 (by omega) _ _ h4

theorem addN_inj (a c d : Nat) (hc : c < 18446744073709551616) (hd : d < 18446744073709551616) (h : addN a c = addN a d) : c = d := by
  unfold addN at h
  have hp := mulN_lt 11400714819323198485 (c + 1)
  have hq := mulN_lt 11400714819323198485 (d + 1)
  have h1 : mulN 11400714819323198485 (c + 1) = mulN 11400714819323198485 (d + 1) := by
    generalize mulN 11400714819323198485 (c + 1) = p at h hp
    generalize mulN 11400714819323198485 (d + 1) = q at h hq
    omega
  have e : ∀ z, mulN 11400714819323198485 z = mulN 11400714819323198485 (z % 18446744073709551616) := by
    intro z
    unfold mulN
    rw [Nat.mod_mul_mod]
  rw [e (c + 1), e (d + 1)] at h1
  have h2 := mulN_inj 11400714819323198485 17428512612931826493 (by decide +kernel) _ _ (Nat.mod_lt _ (by omega)) (Nat.mod_lt _ (by omega)) h1
  omega

theorem u64N_inj (n m : Int) (hn : -9223372036854775808 ≤ n ∧ n ≤ 9223372036854775807) (hm : -9223372036854775808 ≤ m ∧ m ≤ 9223372036854775807) (h : u64N n = u64N m) : n = m := by
  unfold u64N at h; omega

/-- unlike counts have unlike rolls -/
theorem rollN_inj (s p n m : Int) (hn : -9223372036854775808 ≤ n ∧ n ≤ 9223372036854775807) (hm : -9223372036854775808 ≤ m ∧ m ≤ 9223372036854775807) (h : rollN s p n = rollN s p m) : n = m :=
  u64N_inj n m hn hm (addN_inj _ _ _ (u64N_lt n) (u64N_lt m) (stirN_inj _ _ (addN_lt _ _) (addN_lt _ _) h))

/-- a chance is from 0 to below the number -/
theorem belowN_within (r : Nat) (n : Int) : (n < 1 → belowN r n = 0) ∧ (1 ≤ n → 0 ≤ belowN r n ∧ belowN r n < n) := by
  refine ⟨fun h => by unfold belowN; rw [if_pos h], fun h => ?_⟩
  unfold belowN
  rw [if_neg (by omega)]
  exact ⟨Int.emod_nonneg _ (by omega), Int.emod_lt_of_pos _ (by omega)⟩

end Go.Proofs.Ytehdlpgopcoecaa
