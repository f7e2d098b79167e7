/- The plain mathematics of layer 1 (pack): the bytes of a number, highest first, as a list of integers. No Go, no program. -/
import Derived.WalkKit
import Derived.WalkSpells
import Derived.Laws.BytesArg
namespace Go.Proofs.Ytdmlmjmdpmmcgaa
open Go.RowKit

/-- the lowest k bytes of n, the highest first -/
def beI : Nat → Int → List Int
  | 0, _ => []
  | k + 1, n => (n / 256 ^ k % 256) :: beI k n

theorem beI_len (k : Nat) (n : Int) : (beI k n).length = k := by
  induction k with
  | zero => rfl
  | succ k ih => simp [beI, ih]

/-- what the row holds when i of k bytes have been laid -/
def layRow (k i : Nat) (n : Int) : List Int := List.replicate (k - i) 0 ++ beI i n

theorem layRow_len (k i : Nat) (n : Int) (h : i ≤ k) : (layRow k i n).length = k := by
  simp [layRow, beI_len]; omega

theorem layRow_step (k i : Nat) (n : Int) (h : i < k) :
    (layRow k i n).set (k - 1 - i) (n / 256 ^ i % 256) = layRow k (i + 1) n := by
  unfold layRow
  have e : k - i = (k - 1 - i) + 1 := by omega
  have e2 : k - (i + 1) = k - 1 - i := by omega
  rw [e2, e, List.replicate_succ', List.append_assoc, List.set_append_right _ _ (by simp)]
  simp [beI]

theorem layRow_full (k : Nat) (n : Int) : layRow k k n = beI k n := by simp [layRow]
theorem layRow_zero (k : Nat) (n : Int) : layRow k 0 n = List.replicate k 0 := by simp [layRow, beI]

theorem div_next (n : Int) (j : Nat) : n / 256 ^ j / 256 = n / 256 ^ (j + 1) := by
  rw [Int.pow_succ, Int.ediv_ediv_of_nonneg (Int.pow_nonneg (by omega))]

/-- a signed number as the unsigned one whose bytes are laid: plus 2^63, wrap-round -/
def flip63 (n : Int) : Int := IntKind.u64.wrap (IntKind.u64.wrap n + 9223372036854775808)

theorem flip63_lo (n : Int) : 0 ≤ flip63 n := by unfold flip63 IntKind.wrap; simp [IntKind.bits, IntKind.signed]; omega
theorem flip63_hi (n : Int) : flip63 n ≤ 18446744073709551615 := by unfold flip63 IntKind.wrap; simp [IntKind.bits, IntKind.signed]; omega

theorem bits_or_u64 (x y : Nat) (hx : x < 2 ^ 64) (hy : y < 2 ^ 64) : bits .or .u64 (x : Int) (y : Int) = ((x ||| y : Nat) : Int) := by
  have h := Nat.or_lt_two_pow hx hy
  show IntKind.u64.wrap (((BitVec.ofInt 64 (x : Int) ||| BitVec.ofInt 64 (y : Int)).toNat : Nat) : Int) = _
  rw [BitVec.toNat_or, BitVec.toNat_ofInt, BitVec.toNat_ofInt]
  have ex : ((x : Int) % ((2 ^ 64 : Nat) : Int)).toNat = x := by omega
  have ey : ((y : Int) % ((2 ^ 64 : Nat) : Int)).toNat = y := by omega
  rw [ex, ey]
  exact IntWalk.u64_in _ (by omega)

/-- 'n << 8 | b' on a uint64 -/
theorem shl8_or (x b : Int) (hx0 : 0 ≤ x) (hx : x < 72057594037927936) (hb0 : 0 ≤ b) (hb : b ≤ 255) :
    bits .or .u64 (IntKind.u64.wrap (x * 256)) (IntKind.u64.wrap b) = x * 256 + b := by
  obtain ⟨X, rfl⟩ := Int.eq_ofNat_of_zero_le hx0
  obtain ⟨B, rfl⟩ := Int.eq_ofNat_of_zero_le hb0
  rw [IntWalk.u64_in _ (by omega), IntWalk.u64_in _ (by omega)]
  have e : ((X : Int) * 256) = ((X * 256 : Nat) : Int) := by omega
  rw [e, bits_or_u64 _ _ (by omega) (by omega)]
  have hB : B < 2 ^ 8 := by omega
  have := Nat.shiftLeft_add_eq_or_of_lt hB X
  rw [Nat.shiftLeft_eq] at this
  have e2 : X * 256 ||| B = X * 256 + B := by rw [← this]
  rw [e2]
  omega

end Go.Proofs.Ytdmlmjmdpmmcgaa
