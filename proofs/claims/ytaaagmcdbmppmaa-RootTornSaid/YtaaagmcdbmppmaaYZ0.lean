/- Takes out of a drawn region, said shortly: an operation that is not wanted, one that only reads. The plain mathematics of layer 1 (pack): the bytes of a number, highest first, as a list of integers. No Go, no program. Numbers as they are read: bytes, places, errors. Plain mathematics. -/
import Derived.WalkKit
import Derived.Deep.RegionHeld3
import Derived.Maps.RangeWalk
import Derived.WalkSpells
import Derived.Laws.BytesArg
namespace Go.Proofs.Ytaaagmcdbmppmaa
open Go.RowKit
section
variable {P : Program} {ops : Array Oper} {Q : Exit → Act → World → Prop} {md : Region.Mode} {S : World → Prop}
theorem tq0 (i : Nat) {f1 f2 f3 f4 f5 f6} {fuel : Nat} {listed : Array Bool} {a : Act} {w : World} (hi : ops[i]? = some (Oper.mk f1 f2 f3 f4 f5 f6))
    (h : wpAnyH P md ops Q S fuel (listed.setIfInBounds i true) (a.put (Oper.mk f1 f2 f3 f4 f5 f6).dst undef) w)
    (hs : Region.noSelect ops = true := by kernel_rfl) (hf : Region.free md ops listed i = true := by kernel_rfl) (hr : (Region.ready md ops listed).contains i = true := by kernel_rfl)
    (hQ : ∀ c a w, Q (.panic c) (a.put (Oper.mk f1 f2 f3 f4 f5 f6).dst undef) w → Q (.panic c) a w := by exact fun _ _ _ h => h)
    (hw : Region.wanted (Oper.mk f1 f2 f3 f4 f5 f6) (yielded ops a.tmps) = false := by rfl) (hS : S w := by assumption) : wpAnyH P md ops Q S (fuel + 1) listed a w := wpAnyH_take hi hs hf hr hQ (.inr ⟨hw, rfl⟩) hS h
theorem tq1 (i : Nat) {f1 f2 f3 f4 f5 f6} {v : Value} {fuel : Nat} {listed : Array Bool} {a : Act} {w : World} (hi : ops[i]? = some (Oper.mk f1 f2 f3 f4 f5 f6))
    (h : wpAnyH P md ops Q S fuel (listed.setIfInBounds i true) (a.put (Oper.mk f1 f2 f3 f4 f5 f6).dst v) w)
    (hs : Region.noSelect ops = true := by kernel_rfl) (hf : Region.free md ops listed i = true := by kernel_rfl) (hr : (Region.ready md ops listed).contains i = true := by kernel_rfl)
    (hQ : ∀ c a w, Q (.panic c) (a.put (Oper.mk f1 f2 f3 f4 f5 f6).dst v) w → Q (.panic c) a w := by exact fun _ _ _ h => h)
    (hw : Region.wanted (Oper.mk f1 f2 f3 f4 f5 f6) (yielded ops a.tmps) = true := by rfl)
    (hy : ∀ w5, S w5 → (execOp a.eval (Oper.mk f1 f2 f3 f4 f5 f6)).run P w5 = .ok (.value v) w5 := by intro w5 hSw; (try dsimp only at hSw); go_simp; (try with_reducible rfl)) (hS : S w := by assumption) : wpAnyH P md ops Q S (fuel + 1) listed a w := wpAnyH_take hi hs hf hr hQ (.inl ⟨hw, hy⟩) hS h
end
end Go.Proofs.Ytaaagmcdbmppmaa
namespace Go.Proofs.Ytaaagmcdbmppmaa
open Go.RowKit

/-- the lowest k bytes of n, the highest first -/
def beI : Nat → Int → List Int
  | 0, _ => []
  | k + 1, n => (n / 256 ^ k % 256) :: beI k n

theorem beI_len (k : Nat) (n : Int) : (beI k n).length = k := by
  induction k with
  | zero => rfl
  | succ k ih => simp [beI, ih]

/-- what the row holds when i of k bytes have been laid -/
def layRow (k i : Nat) (n : Int) : List Int := List.replicate (k - i) 0 ++ beI i n

theorem layRow_len (k i : Nat) (n : Int) (h : i ≤ k) : (layRow k i n).length = k := by
  simp [layRow, beI_len]; omega

theorem layRow_step (k i : Nat) (n : Int) (h : i < k) :
    (layRow k i n).set (k - 1 - i) (n / 256 ^ i % 256) = layRow k (i + 1) n := by
  unfold layRow
  have e : k - i = (k - 1 - i) + 1 := by omega
  have e2 : k - (i + 1) = k - 1 - i := by omega
  rw [e2, e, List.replicate_succ', List.append_assoc, List.set_append_right _ _ (by simp)]
  simp [beI]

theorem layRow_full (k : Nat) (n : Int) : layRow k k n = beI k n := by simp [layRow]
theorem layRow_zero (k : Nat) (n : Int) : layRow k 0 n = List.replicate k 0 := by simp [layRow, beI]

theorem div_next (n : Int) (j : Nat) : n / 256 ^ j / 256 = n / 256 ^ (j + 1) := by
  rw [Int.pow_succ, Int.ediv_ediv_of_nonneg (Int.pow_nonneg (by omega))]

/-- a signed number as the unsigned one whose bytes are laid: plus 2^63, wrap-round -/
def flip63 (n : Int) : Int := IntKind.u64.wrap (IntKind.u64.wrap n + 9223372036854775808)

theorem flip63_lo (n : Int) : 0 ≤ flip63 n := by unfold flip63 IntKind.wrap; simp [IntKind.bits, IntKind.signed]; omega
theorem flip63_hi (n : Int) : flip63 n ≤ 18446744073709551615 := by unfold flip63 IntKind.wrap; simp [IntKind.bits, IntKind.signed]; omega

theorem bits_or_u64 (x y : Nat) (hx : x < 2 ^ 64) (hy : y < 2 ^ 64) : bits .or .u64 (x : Int) (y : Int) = ((x ||| y : Nat) : Int) := by
  have h := Nat.or_lt_two_pow hx hy
  show IntKind.u64.wrap (((BitVec.ofInt 64 (x : Int) ||| BitVec.ofInt 64 (y : Int)).toNat : Nat) : Int) = _
  rw [BitVec.toNat_or, BitVec.toNat_ofInt, BitVec.toNat_ofInt]
  have ex : ((x : Int) % ((2 ^ 64 : Nat) : Int)).toNat = x := by omega
  have ey : ((y : Int) % ((2 ^ 64 : Nat) : Int)).toNat = y := by omega
  rw [ex, ey]
  exact IntWalk.u64_in _ (by omega)

/-- 'n << 8 | b' on a uint64 -/
theorem shl8_or (x b : Int) (hx0 : 0 ≤ x) (hx : x < 72057594037927936) (hb0 : 0 ≤ b) (hb : b ≤ 255) :
    bits .or .u64 (IntKind.u64.wrap (x * 256)) (IntKind.u64.wrap b) = x * 256 + b := by
  obtain ⟨X, rfl⟩ := Int.eq_ofNat_of_zero_le hx0
  obtain ⟨B, rfl⟩ := Int.eq_ofNat_of_zero_le hb0
  rw [IntWalk.u64_in _ (by omega), IntWalk.u64_in _ (by omega)]
  have e : ((X : Int) * 256) = ((X * 256 : Nat) : Int) := by omega
  rw [e, bits_or_u64 _ _ (by omega) (by omega)]
  have hB : B < 2 ^ 8 := by omega
  have := Nat.shiftLeft_add_eq_or_of_lt hB X
  rw [Nat.shiftLeft_eq] at this
  have e2 : X * 256 ||| B = X * 256 + B := by rw [← this]
  rw [e2]
  omega

end Go.Proofs.Ytaaagmcdbmppmaa
namespace Go.Proofs.Ytaaagmcdbmppmaa
open Go.RowKit
set_option maxRecDepth 100000

/-- byte i of a string, as a number; 0 behind its end -/
def byteI (s : ByteArray) (i : Nat) : Int := ((s.data.toList.getD i 0).toNat : Int)
/-- k bytes from a place on, as one number -/
def rdI (s : ByteArray) (at0 : Nat) : Nat → Int
  | 0 => 0
  | k + 1 => rdI s at0 k * 256 + byteI s (at0 + k)

theorem byteI_bd (s : ByteArray) (i : Nat) : 0 ≤ byteI s i ∧ byteI s i ≤ 255 := by
  unfold byteI; have := (s.data.toList.getD i 0).toNat_lt; omega

theorem rdI_bd (s : ByteArray) (a k : Nat) : 0 ≤ rdI s a k ∧ rdI s a k < 256 ^ k := by
  induction k with
  | zero => simp [rdI]
  | succ k ih =>
    have hb := byteI_bd s (a + k)
    have e : (256 : Int) ^ (k + 1) = 256 ^ k * 256 := Int.pow_succ 256 k
    rw [e]
    simp only [rdI]
    omega

theorem rdI_56 (s : ByteArray) (a j : Nat) (h : j < 8) : rdI s a j < 72057594037927936 := by
  have := (rdI_bd s a j).2
  rcases (by omega : j = 0 ∨ j = 1 ∨ j = 2 ∨ j = 3 ∨ j = 4 ∨ j = 5 ∨ j = 6 ∨ j = 7) with rfl | rfl | rfl | rfl | rfl | rfl | rfl | rfl <;> omega

theorem byteI_at (s : ByteArray) (i : Nat) (h : i < s.size) : ((s[i].toNat : Nat) : Int) = byteI s i := by
  unfold byteI
  have h2 : i < s.data.toList.length := by simpa using h
  simp [List.getD, List.getElem?_eq_getElem h2]
  rfl

/-- what reading k bytes at a place gives: the number, the place behind it, the error -/
def rdSpec (s : ByteArray) (a : Int) (k : Nat) : Int × Int × Int :=
  if a < 0 ∨ (s.size : Int) < a then (0, 0, 3) else if (s.size : Int) - a < (k : Int) then (0, 0, 5) else (rdI s a.toNat k, a + k, 0)

/-- the three results, as the Go functions hand them back -/
def rdRet (x : Int × Int × Int) : Ending := .returned (.tuple #[.int .u64 x.1, .int .i64 x.2.1, .int .i64 x.2.2])

/-- from the number that was laid to the signed one -/
def unflip63 (n : Int) : Int := wrap64 (IntKind.u64.wrap (n - 9223372036854775808))
def rdISpec (x : Int × Int × Int) : Int × Int × Int := if x.2.2 = 0 then (unflip63 x.1, x.2.1, 0) else (0, 0, x.2.2)
def rdIRet (x : Int × Int × Int) : Ending := .returned (.tuple #[.int .i64 x.1, .int .i64 x.2.1, .int .i64 x.2.2])

end Go.Proofs.Ytaaagmcdbmppmaa
