/- The plain mathematics of layer 1 (pack): the bytes of a number, highest first, as a list of integers. No Go, no program. Numbers as they are read: bytes, places, errors. Plain mathematics. The order of bytes is the order of numbers. Plain mathematics. Bytes there and back: numbers. Plain mathematics. The plain mathematics of layer 3 (crc): the check's register as a number, bit by bit. No Go, no program. Small lemmas that every layer's walks share: Below, bounds of numbers, 64 bits. Sectors: 64 bytes as functions, texts filled up; a disk of them. Plain mathematics. What any crash may leave of a disk's sectors. Plain mathematics. -/
import Derived.WalkKit
import Derived.WalkSpells
import Derived.Laws.BytesArg
import Derived.WalkLawsBesides
namespace Go.Proofs.YtmflkkkbahghgaaGreat
open Go.RowKit

/-- the lowest k bytes of n, the highest first -/
def beI : Nat → Int → List Int
  | 0, _ => []
  | k + 1, n => (n / 256 ^ k % 256) :: beI k n

theorem beI_len (k : Nat) (n : Int) : (beI k n).length = k := by
  induction k with
  | zero => rfl
  | succ k ih => simp [beI, ih]

/-- what the row holds when i of k bytes have been laid -/
def layRow (k i : Nat) (n : Int) : List Int := List.replicate (k - i) 0 ++ beI i n

theorem layRow_len (k i : Nat) (n : Int) (h : i ≤ k) : (layRow k i n).length = k := by
  simp [layRow, beI_len]; omega

theorem layRow_step (k i : Nat) (n : Int) (h : i < k) :
    (layRow k i n).set (k - 1 - i) (n / 256 ^ i % 256) = layRow k (i + 1) n := by
  unfold layRow
  have e : k - i = (k - 1 - i) + 1 := by omega
  have e2 : k - (i + 1) = k - 1 - i := by omega
  rw [e2, e, List.replicate_succ', List.append_assoc, List.set_append_right _ _ (by simp)]
  simp [beI]

theorem layRow_full (k : Nat) (n : Int) : layRow k k n = beI k n := by simp [layRow]
theorem layRow_zero (k : Nat) (n : Int) : layRow k 0 n = List.replicate k 0 := by simp [layRow, beI]

theorem div_next (n : Int) (j : Nat) : n / 256 ^ j / 256 = n / 256 ^ (j + 1) := by
  rw [Int.pow_succ, Int.ediv_ediv_of_nonneg (Int.pow_nonneg (by omega))]

/-- a signed number as the unsigned one whose bytes are laid: plus 2^63, wrap-round -/
def flip63 (n : Int) : Int := IntKind.u64.wrap (IntKind.u64.wrap n + 9223372036854775808)

theorem flip63_lo (n : Int) : 0 ≤ flip63 n := by unfold flip63 IntKind.wrap; simp [IntKind.bits, IntKind.signed]; omega
theorem flip63_hi (n : Int) : flip63 n ≤ 18446744073709551615 := by unfold flip63 IntKind.wrap; simp [IntKind.bits, IntKind.signed]; omega

theorem bits_or_u64 (x y : Nat) (hx : x < 2 ^ 64) (hy : y < 2 ^ 64) : bits .or .u64 (x : Int) (y : Int) = ((x ||| y : Nat) : Int) := by
  have h := Nat.or_lt_two_pow hx hy
  show IntKind.u64.wrap (((BitVec.ofInt 64 (x : Int) ||| BitVec.ofInt 64 (y : Int)).toNat : Nat) : Int) = _
  rw [BitVec.toNat_or, BitVec.toNat_ofInt, BitVec.toNat_ofInt]
  have ex : ((x : Int) % ((2 ^ 64 : Nat) : Int)).toNat = x := by omega
  have ey : ((y : Int) % ((2 ^ 64 : Nat) : Int)).toNat = y := by omega
  rw [ex, ey]
  exact IntWalk.u64_in _ (by omega)

/-- 'n << 8 | b' on a uint64 -/
theorem shl8_or (x b : Int) (hx0 : 0 ≤ x) (hx : x < 72057594037927936) (hb0 : 0 ≤ b) (hb : b ≤ 255) :
    bits .or .u64 (IntKind.u64.wrap (x * 256)) (IntKind.u64.wrap b) = x * 256 + b := by
  obtain ⟨X, rfl⟩ := Int.eq_ofNat_of_zero_le hx0
  obtain ⟨B, rfl⟩ := Int.eq_ofNat_of_zero_le hb0
  rw [IntWalk.u64_in _ (by omega), IntWalk.u64_in _ (by omega)]
  have e : ((X : Int) * 256) = ((X * 256 : Nat) : Int) := by omega
  rw [e, bits_or_u64 _ _ (by omega) (by omega)]
  have hB : B < 2 ^ 8 := by omega
  have := Nat.shiftLeft_add_eq_or_of_lt hB X
  rw [Nat.shiftLeft_eq] at this
  have e2 : X * 256 ||| B = X * 256 + B := by rw [← this]
  rw [e2]
  omega

end Go.Proofs.YtmflkkkbahghgaaGreat
namespace Go.Proofs.YtmflkkkbahghgaaGreat
open Go.RowKit
set_option maxRecDepth 100000

/-- byte i of a string, as a number; 0 behind its end -/
def byteI (s : ByteArray) (i : Nat) : Int := ((s.data.toList.getD i 0).toNat : Int)
/-- k bytes from a place on, as one number -/
def rdI (s : ByteArray) (at0 : Nat) : Nat → Int
  | 0 => 0
  | k + 1 => rdI s at0 k * 256 + byteI s (at0 + k)

theorem byteI_bd (s : ByteArray) (i : Nat) : 0 ≤ byteI s i ∧ byteI s i ≤ 255 := by
  unfold byteI; have := (s.data.toList.getD i 0).toNat_lt; omega

theorem rdI_bd (s : ByteArray) (a k : Nat) : 0 ≤ rdI s a k ∧ rdI s a k < 256 ^ k := by
  induction k with
  | zero => simp [rdI]
  | succ k ih =>
    have hb := byteI_bd s (a + k)
    have e : (256 : Int) ^ (k + 1) = 256 ^ k * 256 := Int.pow_succ 256 k
    rw [e]
    simp only [rdI]
    omega

theorem rdI_56 (s : ByteArray) (a j : Nat) (h : j < 8) : rdI s a j < 72057594037927936 := by
  have := (rdI_bd s a j).2
  rcases (by omega : j = 0 ∨ j = 1 ∨ j = 2 ∨ j = 3 ∨ j = 4 ∨ j = 5 ∨ j = 6 ∨ j = 7) with rfl | rfl | rfl | rfl | rfl | rfl | rfl | rfl <;> omega

theorem byteI_at (s : ByteArray) (i : Nat) (h : i < s.size) : ((s[i].toNat : Nat) : Int) = byteI s i := by
  unfold byteI
  have h2 : i < s.data.toList.length := by simpa using h
  simp [List.getD, List.getElem?_eq_getElem h2]
  rfl

/-- what reading k bytes at a place gives: the number, the place behind it, the error -/
def rdSpec (s : ByteArray) (a : Int) (k : Nat) : Int × Int × Int :=
  if a < 0 ∨ (s.size : Int) < a then (0, 0, 3) else if (s.size : Int) - a < (k : Int) then (0, 0, 5) else (rdI s a.toNat k, a + k, 0)

/-- the three results, as the Go functions hand them back -/
def rdRet (x : Int × Int × Int) : Ending := .returned (.tuple #[.int .u64 x.1, .int .i64 x.2.1, .int .i64 x.2.2])

/-- from the number that was laid to the signed one -/
def unflip63 (n : Int) : Int := wrap64 (IntKind.u64.wrap (n - 9223372036854775808))
def rdISpec (x : Int × Int × Int) : Int × Int × Int := if x.2.2 = 0 then (unflip63 x.1, x.2.1, 0) else (0, 0, x.2.2)
def rdIRet (x : Int × Int × Int) : Ending := .returned (.tuple #[.int .i64 x.1, .int .i64 x.2.1, .int .i64 x.2.2])

end Go.Proofs.YtmflkkkbahghgaaGreat
namespace Go.Proofs.YtmflkkkbahghgaaGreat
open Go.RowKit

theorem emod_next (a : Int) (p : Int) (hp : 0 < p) : a % (p * 256) = p * (a / p % 256) + a % p := by
  have h1 := Int.mul_ediv_add_emod a p
  have h2 := Int.mul_ediv_add_emod (a / p) 256
  have h3 := Int.emod_nonneg a (show p ≠ 0 by omega)
  have h4 := Int.emod_lt_of_pos a hp
  have h5 := Int.emod_nonneg (a / p) (show (256 : Int) ≠ 0 by omega)
  have h6 := Int.emod_lt_of_pos (a / p) (show (0 : Int) < 256 by omega)
  generalize hd : a / p % 256 = d at *
  generalize hr : a % p = r at *
  generalize hq : a / p = q at *
  generalize q / 256 = c at *
  have e : a = (p * d + r) + (p * 256) * c := by
    have : p * q = p * (256 * c) + p * d := by rw [← h2, Int.mul_add]
    have e2 : p * 256 * c = p * (256 * c) := Int.mul_assoc p 256 c
    omega
  rw [e, Int.add_mul_emod_self_left]
  apply Int.emod_eq_of_lt
  · have := Int.mul_nonneg (Int.le_of_lt hp) h5; omega
  · have := Int.mul_le_mul_of_nonneg_left (show d ≤ 255 by omega) (Int.le_of_lt hp); omega

theorem lex (p da db ra rb : Int) (hp : 0 < p) (h1 : 0 ≤ ra) (h2 : ra < p) (h3 : 0 ≤ rb) (h4 : rb < p) :
    (p * da + ra < p * db + rb) ↔ (da < db ∨ (da = db ∧ ra < rb)) := by
  constructor
  · intro h
    by_cases hlt : da < db
    · exact .inl hlt
    by_cases heq : da = db
    · subst heq; exact .inr ⟨rfl, by omega⟩
    · exfalso
      have := Int.mul_le_mul_of_nonneg_left (show db + 1 ≤ da by omega) (Int.le_of_lt hp)
      rw [Int.mul_add] at this
      omega
  · rintro (h | ⟨rfl, h⟩)
    · have := Int.mul_le_mul_of_nonneg_left (show da + 1 ≤ db by omega) (Int.le_of_lt hp)
      rw [Int.mul_add] at this
      omega
    · omega

def toU8 (x : Int) : UInt8 := UInt8.ofNat x.toNat
theorem toU8_lt (x y : Int) (hx : 0 ≤ x) (hx2 : x < 256) (hy : 0 ≤ y) (hy2 : y < 256) : (toU8 x < toU8 y) ↔ x < y := by
  rw [UInt8.lt_iff_toNat_lt]; simp [toU8]; omega
theorem toU8_eq (x y : Int) (hx : 0 ≤ x) (hx2 : x < 256) (hy : 0 ≤ y) (hy2 : y < 256) : (toU8 x = toU8 y) ↔ x = y := by
  rw [← UInt8.toNat_inj]; simp [toU8]; omega

theorem less_beI (k : Nat) (a b : Int) : Op.bytesLess ((beI k a).map toU8) ((beI k b).map toU8) = decide (a % 256 ^ k < b % 256 ^ k) := by
  induction k with
  | zero => simp [beI, Op.bytesLess, Int.emod_one]
  | succ k ih =>
    have hp : (0 : Int) < 256 ^ k := Int.pow_pos (by omega)
    have ea := emod_next a (256 ^ k) hp
    have eb := emod_next b (256 ^ k) hp
    have e := Int.pow_succ 256 k
    rw [e, ea, eb]
    have a1 := Int.emod_nonneg a (show (256 : Int) ^ k ≠ 0 by omega)
    have a2 := Int.emod_lt_of_pos a hp
    have b1 := Int.emod_nonneg b (show (256 : Int) ^ k ≠ 0 by omega)
    have b2 := Int.emod_lt_of_pos b hp
    have hl := lex (256 ^ k) (a / 256 ^ k % 256) (b / 256 ^ k % 256) (a % 256 ^ k) (b % 256 ^ k) hp a1 a2 b1 b2
    simp only [beI, List.map_cons, Op.bytesLess, ih]
    generalize hda : a / 256 ^ k % 256 = da at *
    generalize hdb : b / 256 ^ k % 256 = db at *
    have c1 : 0 ≤ da := by omega
    have c2 : da < 256 := by omega
    have c3 : 0 ≤ db := by omega
    have c4 : db < 256 := by omega
    rw [Bool.eq_iff_iff]
    simp only [Bool.or_eq_true, decide_eq_true_eq, Bool.and_eq_true, beq_iff_eq, hl, toU8_lt da db c1 c2 c3 c4, toU8_eq da db c1 c2 c3 c4]

theorem flip63_eq (n : Int) (h1 : -9223372036854775808 ≤ n) (h2 : n ≤ 9223372036854775807) : flip63 n = n + 9223372036854775808 := by
  unfold flip63
  rw [IntKind.wrap_u64, IntKind.wrap_u64]
  omega

end Go.Proofs.YtmflkkkbahghgaaGreat
namespace Go.Proofs.YtmflkkkbahghgaaGreat
open Go.RowKit
set_option maxRecDepth 100000

/-- k bytes of s from a on, as numbers -/
def numsAt (s : ByteArray) (a k : Nat) : List Int := (List.range k).map fun i => byteI s (a + i)
theorem numsAt_len (s : ByteArray) (a k : Nat) : (numsAt s a k).length = k := by simp [numsAt]
theorem numsAt_succ (s : ByteArray) (a k : Nat) : numsAt s a (k + 1) = numsAt s a k ++ [byteI s (a + k)] := by simp [numsAt, List.range_succ]
theorem beI_snoc (k : Nat) (n : Int) : beI (k + 1) n = beI k (n / 256) ++ [n % 256] := by
  induction k with
  | zero => simp [beI]
  | succ k ih =>
    rw [show beI (k + 1 + 1) n = (n / 256 ^ (k + 1) % 256) :: beI (k + 1) n from rfl, ih]
    rw [show beI (k + 1) (n / 256) = (n / 256 / 256 ^ k % 256) :: beI k (n / 256) from rfl]
    have e : n / 256 ^ (k + 1) = n / 256 / 256 ^ k := by
      rw [Int.ediv_ediv_of_nonneg (by omega), Int.pow_succ, Int.mul_comm]
    rw [e]
    rfl

theorem beI_rdI (s : ByteArray) (a k : Nat) : beI k (rdI s a k) = numsAt s a k := by
  induction k with
  | zero => rfl
  | succ k ih =>
    have hb := byteI_bd s (a + k)
    rw [beI_snoc, numsAt_succ]
    simp only [rdI]
    rw [show (rdI s a k * 256 + byteI s (a + k)) / 256 = rdI s a k from by omega, show (rdI s a k * 256 + byteI s (a + k)) % 256 = byteI s (a + k) from by omega, ih]

theorem beI_inj (k : Nat) (a b : Int) (ha : 0 ≤ a) (ha2 : a < 256 ^ k) (hb : 0 ≤ b) (hb2 : b < 256 ^ k) (h : beI k a = beI k b) : a = b := by
  have h1 := less_beI k a b
  have h2 := less_beI k b a
  rw [h] at h1 h2
  rw [h2] at h1
  rw [Int.emod_eq_of_lt ha ha2, Int.emod_eq_of_lt hb hb2] at h1
  by_cases c1 : a < b
  · have : ¬ b < a := by omega
    simp [c1, this] at h1
  · by_cases c2 : b < a
    · simp [c1, c2] at h1
    · omega

/-- what stands as the bytes of n is read as n -/
theorem rdI_of (s : ByteArray) (a k : Nat) (n : Int) (hn : 0 ≤ n) (hn2 : n < 256 ^ k) (h : numsAt s a k = beI k n) : rdI s a k = n := by
  have hb := rdI_bd s a k
  exact beI_inj k _ _ hb.1 hb.2 hn hn2 ((beI_rdI s a k).trans h)

theorem strOfNums_append (xs ys : List Int) : strOfNums xs ++ strOfNums ys = strOfNums (xs ++ ys) := by
  apply Go.WideShapes.bytes_inj
  simp [strOfNums]

/-- the bytes of what was laid between two others -/
theorem numsAt_mid (A B : ByteArray) (xs : List Int) (hx : ∀ x ∈ xs, 0 ≤ x ∧ x ≤ 255) : numsAt (A ++ strOfNums xs ++ B) A.size xs.length = xs := by
  apply List.ext_getElem
  · simp [numsAt]
  · intro i h1 h2
    have hx2 := hx xs[i] (List.getElem_mem h2)
    simp only [numsAt, List.getElem_map, List.getElem_range, byteI]
    have e : (A ++ strOfNums xs ++ B).data.toList = A.data.toList ++ ((strOfNums xs).data.toList ++ B.data.toList) := by simp
    have hA : A.data.toList.length = A.size := by simp
    rw [e, List.getD_eq_getElem?_getD, List.getElem?_append_right (by omega), hA, Nat.add_sub_cancel_left, strOfNums_data, List.getElem?_append_left (by simpa using h2)]
    simp [List.getElem?_eq_getElem h2]
    omega

theorem beI_mem (k : Nat) (n : Int) : ∀ x ∈ beI k n, 0 ≤ x ∧ x ≤ 255 := by
  induction k with
  | zero => intro x hx; simp [beI] at hx
  | succ k ih =>
    intro x hx
    simp only [beI, List.mem_cons] at hx
    rcases hx with rfl | hx
    · omega
    · exact ih x hx

theorem unflip_flip (m : Int) (h1 : -9223372036854775808 ≤ m) (h2 : m ≤ 9223372036854775807) : unflip63 (flip63 m) = m := by
  rw [flip63_eq m h1 h2]
  unfold unflip63
  rw [show m + 9223372036854775808 - 9223372036854775808 = m from by omega, IntKind.wrap_u64]
  unfold wrap64
  omega

/-! ### there and back -/

end Go.Proofs.YtmflkkkbahghgaaGreat
namespace Go.Proofs.YtmflkkkbahghgaaGreat
open Go.RowKit

/-- the register behind one more bit -/
def stepN (r b : Nat) : Nat := if r % 2 = b then r / 2 else (r / 2) ^^^ 2197175160
/-- the register behind the lowest k bits of a byte -/
def regN (r c : Nat) : Nat → Nat
  | 0 => r
  | k + 1 => stepN (regN r c k) (c / 2 ^ k % 2)
/-- the register behind bytes -/
def regL (r : Nat) : List UInt8 → Nat
  | [] => r
  | c :: l => regL (regN r c.toNat 8) l
/-- the check of bytes, as Sum tells it -/
def crcN (l : List UInt8) : Nat := 4294967295 - regL 4294967295 l

theorem step_lt {r b : Nat} (h : r < 4294967296) : stepN r b < 4294967296 := by
  unfold stepN
  split
  · omega
  · exact Nat.xor_lt_two_pow (n := 32) (by omega) (by decide)
theorem reg_lt {r c : Nat} (h : r < 4294967296) (k : Nat) : regN r c k < 4294967296 := by
  induction k with
  | zero => exact h
  | succ k ih => exact step_lt ih
theorem regL_lt {r : Nat} (l : List UInt8) (h : r < 4294967296) : regL r l < 4294967296 := by
  induction l generalizing r with
  | nil => exact h
  | cons c l ih => exact ih (reg_lt h 8)
theorem crcN_lt (l : List UInt8) : crcN l < 4294967296 := by unfold crcN; omega

theorem regL_append (r : Nat) (a b : List UInt8) : regL r (a ++ b) = regL (regL r a) b := by
  induction a generalizing r with
  | nil => rfl
  | cons c l ih => exact ih _

/-- a number's four bytes, the lowest first -/
def le4 (n : Nat) : List UInt8 := [UInt8.ofNat (n % 256), UInt8.ofNat (n / 256 % 256), UInt8.ofNat (n / 65536 % 256), UInt8.ofNat (n / 16777216 % 256)]
theorem le4_len (n : Nat) : (le4 n).length = 4 := rfl
/-- bytes with their check ahead -/
def laidL (l : List UInt8) : List UInt8 := le4 (crcN l) ++ l

theorem regL_snoc (r : Nat) (l : List UInt8) (j : Nat) (h : j < l.length) : regL r (l.take (j + 1)) = regN (regL r (l.take j)) l[j].toNat 8 := by
  rw [List.take_succ_eq_append_getElem h, regL_append]; rfl
end Go.Proofs.YtmflkkkbahghgaaGreat
namespace Go.Proofs.YtmflkkkbahghgaaGreat
open Go.RowKit

theorem bthen {w b c : World} (h : Below w.heap.size w b) (k : Below b.heap.size b c) : Below w.heap.size w c := h.trans (k.mono h.size)
theorem balloc (w : World) (o : Obj) : Below w.heap.size w (w.alloc o) := (Below.refl _ _).alloc (Nat.le_refl _) o
theorem bdrewN {w b : World} (h : Below w.heap.size w b) (n : Nat) : Below w.heap.size w (b.drewN n) := below_drewN h n
theorem add_plain (b o i : Nat) : (⟨b, o, none⟩ : Addr).add i = ⟨b, o + i, none⟩ := by unfold Addr.add; split <;> simp_all

theorem bits_and_u64 (x y : Nat) (hx : x < 2 ^ 64) (hy : y < 2 ^ 64) : bits .and .u64 (x : Int) (y : Int) = ((x &&& y : Nat) : Int) := by
  have h := Nat.and_lt_two_pow x hy
  show IntKind.u64.wrap (((BitVec.ofInt 64 (x : Int) &&& BitVec.ofInt 64 (y : Int)).toNat : Nat) : Int) = _
  rw [BitVec.toNat_and, BitVec.toNat_ofInt, BitVec.toNat_ofInt]
  have ex : ((x : Int) % ((2 ^ 64 : Nat) : Int)).toNat = x := by omega
  have ey : ((y : Int) % ((2 ^ 64 : Nat) : Int)).toNat = y := by omega
  rw [ex, ey]
  exact IntWalk.u64_in _ (by omega)

end Go.Proofs.YtmflkkkbahghgaaGreat
namespace Go.Proofs.YtmflkkkbahghgaaGreat
open Go.RowKit
set_option maxRecDepth 100000

/-- a text's byte, 0 behind its end -/
def byD (s : ByteArray) (i : Nat) : Int := ((s.data.toList.getD i 0).toNat : Int)
theorem byD_bd (s : ByteArray) (i : Nat) : 0 ≤ byD s i ∧ byD s i ≤ 255 := by
  have := (s.data.toList.getD i 0).toNat_lt
  unfold byD; omega
theorem byD_out {s : ByteArray} {i : Nat} (h : s.size ≤ i) : byD s i = 0 := by
  have hs : s.data.toList.length = s.size := by simp
  unfold byD
  rw [List.getD_eq_getElem?_getD, List.getElem?_eq_none (by omega)]
  rfl
/-- 64 bytes as a text -/
def sec (f : Nat → Int) : ByteArray := strOfNums ((List.range 64).map f)
def SecF (f : Nat → Int) : Prop := ∀ j, j < 64 → 0 ≤ f j ∧ f j ≤ 255
theorem sec_size (f : Nat → Int) : (sec f).size = 64 := by unfold sec; rw [strOfNums_size]; simp
theorem sec_ext {f g : Nat → Int} (h : ∀ j, j < 64 → f j = g j) : sec f = sec g := by
  unfold sec
  congr 1
  apply List.map_congr_left
  intro j hj
  exact h j (List.mem_range.1 hj)
theorem byD_nums (l : List Int) (h : ∀ x ∈ l, 0 ≤ x ∧ x ≤ 255) (j : Nat) (hj : j < l.length) : byD (strOfNums l) j = l[j] := by
  unfold byD
  rw [strOfNums_data, List.getD_eq_getElem?_getD, List.getElem?_map, List.getElem?_eq_getElem hj]
  have := h l[j] (List.getElem_mem hj)
  simp only [Option.map_some, Option.getD_some, UInt8.toNat_ofNat']
  omega
theorem byD_sec {f : Nat → Int} (h : SecF f) {j : Nat} (hj : j < 64) : byD (sec f) j = f j := by
  unfold sec
  rw [byD_nums _ _ _ (by simpa using hj)]
  · simp
  · intro x hx
    obtain ⟨i, hi, rfl⟩ := List.mem_map.1 hx
    exact h i (List.mem_range.1 hi)
/-- two texts of one length with the same bytes are the same -/
theorem byD_ext {a b : ByteArray} (hs : a.size = b.size) (h : ∀ j, j < a.size → byD a j = byD b j) : a = b := by
  apply Go.WideShapes.bytes_inj
  have ha : a.data.toList.length = a.size := by simp
  have hb : b.data.toList.length = b.size := by simp
  apply List.ext_getElem (by omega)
  intro i h1 h2
  have := h i (by omega)
  unfold byD at this
  rw [List.getD_eq_getElem?_getD, List.getD_eq_getElem?_getD, List.getElem?_eq_getElem h1, List.getElem?_eq_getElem h2] at this
  simp only [Option.getD_some] at this
  exact UInt8.toNat_inj.1 (by omega)
theorem fill_sec (s : ByteArray) : SecF (byD s) := fun j _ => byD_bd s j
theorem byD_app (a b : ByteArray) (j : Nat) : byD (a ++ b) j = if j < a.size then byD a j else byD b (j - a.size) := by
  have ha : a.data.toList.length = a.size := by simp
  unfold byD
  have e : (a ++ b).data.toList = a.data.toList ++ b.data.toList := by simp [ByteArray.data_append]
  rw [e]
  simp only [List.getD_eq_getElem?_getD, List.getElem?_append, ha]
  split <;> rfl
theorem byD_cut (s : ByteArray) (a b : Nat) (j : Nat) (hj : a + j < b) : byD (s.extract a b) j = byD s (a + j) := by
  unfold byD
  have e : (s.extract a b).data.toList = (s.data.toList.drop a).take (b - a) := by
    simp [ByteArray.data_extract, Array.toList_extract, List.extract_eq_take_drop]
  rw [e]
  simp only [List.getD_eq_getElem?_getD]
  rw [List.getElem?_take, if_pos (by omega), List.getElem?_drop]
/-- the first k bytes of one, the rest of another -/
def tornF (k : Nat) (f g : Nat → Int) : Nat → Int := fun j => if j < k then f j else g j
theorem torn_sec {k : Nat} {f g : Nat → Int} (hf : SecF f) (hg : SecF g) : SecF (tornF k f g) := fun j hj => by
  unfold tornF; split
  · exact hf j hj
  · exact hg j hj
/-- a disk: how many sectors; what is safe, what was written since, whether it was; what counts -/
structure Dk where
  n : Nat
  sf : Nat → Nat → Int
  nw : Nat → Nat → Int
  is : Nat → Bool
  arm : Nat
  calls : Nat
  down : Bool
def nowD (d : Dk) (i : Nat) : Nat → Int := if d.is i then d.nw i else d.sf i
def upd {α : Type} (f : Nat → α) (i : Nat) (x : α) : Nat → α := fun k => if k = i then x else f k
theorem upd_at {α : Type} (f : Nat → α) (i : Nat) (x : α) : upd f i x i = x := by simp [upd]
theorem upd_else {α : Type} (f : Nat → α) (i k : Nat) (x : α) (h : k ≠ i) : upd f i x k = f k := by simp [upd, h]
def newD (n : Nat) : Dk := ⟨n, fun _ _ => 0, fun _ _ => 0, fun _ => false, 0, 0, false⟩
/-- a call that counts: it goes down at this one, or not -/
def countD (d : Dk) : Dk := if d.arm = 1 then { d with calls := d.calls + 1, down := true, arm := 0 } else { d with calls := d.calls + 1, arm := d.arm - 1 }
def countE (d : Dk) : Int := if d.arm = 1 then 13 else 0
def writeD (d : Dk) (i : Int) (s : ByteArray) : Dk := if d.down then d else if i < 0 ∨ (d.n : Int) ≤ i then d else countD { d with nw := upd d.nw i.toNat (byD s), is := upd d.is i.toNat true }
def writeE (d : Dk) (i : Int) : Int := if d.down then 13 else if i < 0 ∨ (d.n : Int) ≤ i then 3 else countE d
def safeD (d : Dk) : Dk := { d with sf := fun i => nowD d i, is := fun _ => false }
def syncD (d : Dk) : Dk := if d.down then d else if d.arm = 1 then countD d else safeD (countD d)
def syncE (d : Dk) : Int := if d.down then 13 else countE d
def readE (d : Dk) (i : Int) : Int := if d.down then 13 else if i < 0 ∨ (d.n : Int) ≤ i then 3 else 0
def readS (d : Dk) (i : Int) : ByteArray := if d.down then ByteArray.empty else if i < 0 ∨ (d.n : Int) ≤ i then ByteArray.empty else sec (nowD d i.toNat)
def armD (d : Dk) (n : Int) : Dk := if d.down then d else if n < 1 then d else { d with arm := n.toNat }
/-- how many of the first i sectors are loose -/
def looseN (is : Nat → Bool) : Nat → Nat
  | 0 => 0
  | i + 1 => looseN is i + (if is i then 1 else 0)
theorem looseN_le (is : Nat → Bool) (i : Nat) : looseN is i ≤ i := by
  induction i with
  | zero => exact Nat.le_refl _
  | succ i ih => simp only [looseN]; split <;> omega
theorem looseN_none {is : Nat → Bool} (h : ∀ i, is i = false) (n : Nat) : looseN is n = 0 := by
  induction n with
  | zero => rfl
  | succ n ih => simp [looseN, ih, h n]
theorem looseN_ext {a b : Nat → Bool} {n : Nat} (h : ∀ i, i < n → a i = b i) : looseN a n = looseN b n := by
  induction n with
  | zero => rfl
  | succ n ih => simp only [looseN]; rw [ih fun i hi => h i (by omega), h n (by omega)]
/-- how much of the j-th loose one stays -/
def keepN (keep : List Bool) (torn bytes : Int) (j : Nat) : Nat :=
  if (j : Int) = torn then (if 0 < bytes then (bytes % 65).toNat else 0) else (if keep.getD j false then 64 else 0)
theorem keepN_le (keep : List Bool) (torn bytes : Int) (j : Nat) : keepN keep torn bytes j ≤ 64 := by
  unfold keepN; split <;> split <;> omega
def crashF (d : Dk) (keep : List Bool) (torn bytes : Int) (i : Nat) : Nat → Int :=
  if d.is i then tornF (keepN keep torn bytes (looseN d.is i)) (d.nw i) (d.sf i) else d.sf i
def crashD (d : Dk) (keep : List Bool) (torn bytes : Int) : Dk :=
  { d with sf := crashF d keep torn bytes, is := fun _ => false, down := false, arm := 0 }

/-- a disk that may be -/
structure OkD (d : Dk) : Prop where
  n : 1 ≤ d.n ∧ d.n ≤ 4096
  sf : ∀ i, SecF (d.sf i)
  nw : ∀ i, SecF (d.nw i)
theorem OkD.now {d : Dk} (h : OkD d) (i : Nat) : SecF (nowD d i) := by
  unfold nowD; split
  · exact h.nw i
  · exact h.sf i
theorem OkD.new {n : Nat} (h : 1 ≤ n ∧ n ≤ 4096) : OkD (newD n) := ⟨h, fun _ _ _ => by simp [newD], fun _ _ _ => by simp [newD]⟩
theorem OkD.count {d : Dk} (h : OkD d) : OkD (countD d) := by unfold countD; split <;> exact ⟨h.n, h.sf, h.nw⟩
theorem OkD.write {d : Dk} (h : OkD d) (i : Int) (s : ByteArray) : OkD (writeD d i s) := by
  unfold writeD; split
  · exact h
  · split
    · exact h
    · refine OkD.count ⟨h.n, h.sf, fun k => ?_⟩
      show SecF (upd d.nw i.toNat (byD s) k)
      unfold upd; split
      · exact fill_sec s
      · exact h.nw k
theorem OkD.safe {d : Dk} (h : OkD d) : OkD (safeD d) := ⟨h.n, fun i => h.now i, h.nw⟩
theorem OkD.sync {d : Dk} (h : OkD d) : OkD (syncD d) := by
  unfold syncD; split
  · exact h
  · split
    · exact h.count
    · exact h.count.safe
theorem OkD.arm {d : Dk} (h : OkD d) (n : Int) : OkD (armD d n) := by
  unfold armD; split
  · exact h
  · split
    · exact h
    · exact ⟨h.n, h.sf, h.nw⟩
theorem OkD.crash {d : Dk} (h : OkD d) (keep : List Bool) (torn bytes : Int) : OkD (crashD d keep torn bytes) := by
  refine ⟨h.n, fun i => ?_, h.nw⟩
  show SecF (crashF d keep torn bytes i)
  unfold crashF; split
  · exact torn_sec (h.nw i) (h.sf i)
  · exact h.sf i
theorem count_n (d : Dk) : (countD d).n = d.n := by unfold countD; split <;> rfl
theorem write_n (d : Dk) (i : Int) (s : ByteArray) : (writeD d i s).n = d.n := by
  unfold writeD; split
  · rfl
  · split
    · rfl
    · rw [count_n]
theorem sync_n (d : Dk) : (syncD d).n = d.n := by
  unfold syncD; split
  · rfl
  · split
    · exact count_n d
    · exact count_n d
end Go.Proofs.YtmflkkkbahghgaaGreat
namespace Go.Proofs.YtmflkkkbahghgaaGreat
open Go.RowKit
set_option maxRecDepth 100000

/-- a sector that was safe is as it was -/
theorem crash_safe {d : Dk} {keep : List Bool} {t b : Int} {i : Nat} (h : d.is i = false) : crashF d keep t b i = d.sf i := by simp [crashF, h]
theorem crash_some {d : Dk} {keep : List Bool} {t b : Int} {i : Nat} (h : d.is i = true) : ∃ k, k ≤ 64 ∧ crashF d keep t b i = tornF k (d.nw i) (d.sf i) := by
  unfold crashF; rw [if_pos h]
  exact ⟨_, keepN_le keep t b _, rfl⟩
/-- an image's bytes as sectors -/
def imgF (s : ByteArray) (i : Nat) : Nat → Int := fun j => byD s (64 * i + j)
theorem img_sec (s : ByteArray) (i : Nat) : SecF (imgF s i) := fun _ _ => byD_bd s _
/-- the first k sectors, one behind the other -/
def allF (f : Nat → Nat → Int) : Nat → ByteArray
  | 0 => ByteArray.empty
  | k + 1 => allF f k ++ sec (f k)
theorem allF_size (f : Nat → Nat → Int) (k : Nat) : (allF f k).size = 64 * k := by
  induction k with
  | zero => rfl
  | succ k ih => simp only [allF]; rw [ByteArray.size_append, ih, sec_size]; omega
theorem byD_all {f : Nat → Nat → Int} (h : ∀ i, SecF (f i)) : ∀ (k j : Nat), j < 64 * k → byD (allF f k) j = f (j / 64) (j % 64)
  | 0, j, hj => by omega
  | k + 1, j, hj => by
    simp only [allF]
    rw [byD_app, allF_size]
    split
    · rename_i c; exact byD_all h k j c
    · rename_i c
      rw [byD_sec (h k) (by omega), show j / 64 = k by omega, show j % 64 = j - 64 * k by omega]
theorem all_img (s : ByteArray) (k : Nat) (h : s.size ≤ 64 * k) : (allF (imgF s) k).extract 0 s.size = s := by
  have e : ((allF (imgF s) k).extract 0 s.size).size = s.size := by rw [ByteArray.size_extract, allF_size]; omega
  apply byD_ext e
  intro j hj
  rw [e] at hj
  rw [byD_cut _ _ _ _ (by omega), Nat.zero_add, byD_all (img_sec s) k j (by omega)]
  unfold imgF
  congr 1; omega
end Go.Proofs.YtmflkkkbahghgaaGreat
