/- The order of bytes is the order of numbers. Plain mathematics. -/
import Derived.Test.YtaaagmcdbmppmaaYZ0
namespace Go.Proofs.Ytaaagmcdbmppmaa
open Go.RowKit

theorem emod_next (a : Int) (p : Int) (hp : 0 < p) : a % (p * 256) = p * (a / p % 256) + a % p := by
  have h1 := Int.mul_ediv_add_emod a p
  have h2 := Int.mul_ediv_add_emod (a / p) 256
  have h3 := Int.emod_nonneg a (show p ≠ 0 by omega)
  have h4 := Int.emod_lt_of_pos a hp
  have h5 := Int.emod_nonneg (a / p) (show (256 : Int) ≠ 0 by omega)
  have h6 := Int.emod_lt_of_pos (a / p) (show (0 : Int) < 256 by omega)
  generalize hd : a / p % 256 = d at *
  generalize hr : a % p = r at *
  generalize hq : a / p = q at *
  generalize q / 256 = c at *
  have e : a = (p * d + r) + (p * 256) * c := by
    have : p * q = p * (256 * c) + p * d := by rw [← h2, Int.mul_add]
    have e2 : p * 256 * c = p * (256 * c) := Int.mul_assoc p 256 c
    omega
  rw [e, Int.add_mul_emod_self_left]
  apply Int.emod_eq_of_lt
  · have := Int.mul_nonneg (Int.le_of_lt hp) h5; omega
  · have := Int.mul_le_mul_of_nonneg_left (show d ≤ 255 by omega) (Int.le_of_lt hp); omega

theorem lex (p da db ra rb : Int) (hp : 0 < p) (h1 : 0 ≤ ra) (h2 : ra < p) (h3 : 0 ≤ rb) (h4 : rb < p) :
    (p * da + ra < p * db + rb) ↔ (da < db ∨ (da = db ∧ ra < rb)) := by
  constructor
  · intro h
    by_cases hlt : da < db
    · exact .inl hlt
    by_cases heq : da = db
    · subst heq; exact .inr ⟨rfl, by omega⟩
    · exfalso
      have := Int.mul_le_mul_of_nonneg_left (show db + 1 ≤ da by omega) (Int.le_of_lt hp)
      rw [Int.mul_add] at this
      omega
  · rintro (h | ⟨rfl, h⟩)
    · have := Int.mul_le_mul_of_nonneg_left (show da + 1 ≤ db by omega) (Int.le_of_lt hp)
      rw [Int.mul_add] at this
      omega
    · omega

def toU8 (x : Int) : UInt8 := UInt8.ofNat x.toNat
theorem toU8_lt (x y : Int) (hx : 0 ≤ x) (hx2 : x < 256) (hy : 0 ≤ y) (hy2 : y < 256) : (toU8 x < toU8 y) ↔ x < y := by
  rw [UInt8.lt_iff_toNat_lt]; simp [toU8]; omega
theorem toU8_eq (x y : Int) (hx : 0 ≤ x) (hx2 : x < 256) (hy : 0 ≤ y) (hy2 : y < 256) : (toU8 x = toU8 y) ↔ x = y := by
  rw [← UInt8.toNat_inj]; simp [toU8]; omega

theorem less_beI (k : Nat) (a b : Int) : Op.bytesLess ((beI k a).map toU8) ((beI k b).map toU8) = decide (a % 256 ^ k < b % 256 ^ k) := by
  induction k with
  | zero => simp [beI, Op.bytesLess, Int.emod_one]
  | succ k ih =>
    have hp : (0 : Int) < 256 ^ k := Int.pow_pos (by omega)
    have ea := emod_next a (256 ^ k) hp
    have eb := emod_next b (256 ^ k) hp
    have e := Int.pow_succ 256 k
    rw [e, ea, eb]
    have a1 := Int.emod_nonneg a (show (256 : Int) ^ k ≠ 0 by omega)
    have a2 := Int.emod_lt_of_pos a hp
    have b1 := Int.emod_nonneg b (show (256 : Int) ^ k ≠ 0 by omega)
    have b2 := Int.emod_lt_of_pos b hp
    have hl := lex (256 ^ k) (a / 256 ^ k % 256) (b / 256 ^ k % 256) (a % 256 ^ k) (b % 256 ^ k) hp a1 a2 b1 b2
    simp only [beI, List.map_cons, Op.bytesLess, ih]
    generalize hda : a / 256 ^ k % 256 = da at *
    generalize hdb : b / 256 ^ k % 256 = db at *
    have c1 : 0 ≤ da := by omega
    have c2 : da < 256 := by omega
    have c3 : 0 ≤ db := by omega
    have c4 : db < 256 := by omega
    rw [Bool.eq_iff_iff]
    simp only [Bool.or_eq_true, decide_eq_true_eq, Bool.and_eq_true, beq_iff_eq, hl, toU8_lt da db c1 c2 c3 c4, toU8_eq da db c1 c2 c3 c4]

theorem strOfNums_toList (xs : List Int) : (strOfNums xs).toList = xs.map toU8 := by
  rw [ByteArray.toList_eq, strOfNums_data]; rfl

theorem less_8 (a b : Int) (ha : 0 ≤ a) (ha2 : a ≤ 18446744073709551615) (hb : 0 ≤ b) (hb2 : b ≤ 18446744073709551615) :
    Op.bytesLess (strOfNums (beI 8 a)).toList (strOfNums (beI 8 b)).toList = decide (a < b) := by
  rw [strOfNums_toList, strOfNums_toList, less_beI]
  have e1 : a % 256 ^ 8 = a := by omega
  have e2 : b % 256 ^ 8 = b := by omega
  rw [e1, e2]

theorem eq_8 (a b : Int) (ha : 0 ≤ a) (ha2 : a ≤ 18446744073709551615) (hb : 0 ≤ b) (hb2 : b ≤ 18446744073709551615) :
    ((strOfNums (beI 8 a)).toList == (strOfNums (beI 8 b)).toList) = (a == b) := by
  rw [Bool.eq_iff_iff, beq_iff_eq, beq_iff_eq]
  constructor
  · intro h
    have h1 := less_8 a b ha ha2 hb hb2
    have h2 := less_8 b a hb hb2 ha ha2
    rw [h] at h1 h2
    rw [h2] at h1
    by_cases c1 : a < b
    · have : ¬ b < a := by omega
      simp [c1, this] at h1
    · by_cases c2 : b < a
      · simp [c1, c2] at h1
      · omega
  · rintro rfl; rfl

theorem flip63_eq (n : Int) (h1 : -9223372036854775808 ≤ n) (h2 : n ≤ 9223372036854775807) : flip63 n = n + 9223372036854775808 := by
  unfold flip63
  rw [IntKind.wrap_u64, IntKind.wrap_u64]
  omega

theorem flip63_lt (c d : Int) (h1 : -9223372036854775808 ≤ c) (h2 : c ≤ 9223372036854775807) (h3 : -9223372036854775808 ≤ d) (h4 : d ≤ 9223372036854775807) :
    Op.bytesLess (strOfNums (beI 8 (flip63 c))).toList (strOfNums (beI 8 (flip63 d))).toList = decide (c < d) := by
  rw [less_8 _ _ (flip63_lo c) (flip63_hi c) (flip63_lo d) (flip63_hi d), flip63_eq c h1 h2, flip63_eq d h3 h4]
  rw [Bool.eq_iff_iff]; simp

end Go.Proofs.Ytaaagmcdbmppmaa
