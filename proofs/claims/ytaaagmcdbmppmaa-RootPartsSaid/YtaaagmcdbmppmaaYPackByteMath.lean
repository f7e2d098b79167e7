/- Bytes there and back: numbers. Plain mathematics. -/
import Derived.Test.YtaaagmcdbmppmaaYZ0
import Derived.Test.YtaaagmcdbmppmaaYPackOrdMath
namespace Go.Proofs.Ytaaagmcdbmppmaa
open Go.RowKit
set_option maxRecDepth 100000

/-- k bytes of s from a on, as numbers -/
def numsAt (s : ByteArray) (a k : Nat) : List Int := (List.range k).map fun i => byteI s (a + i)
theorem numsAt_len (s : ByteArray) (a k : Nat) : (numsAt s a k).length = k := by simp [numsAt]
theorem numsAt_succ (s : ByteArray) (a k : Nat) : numsAt s a (k + 1) = numsAt s a k ++ [byteI s (a + k)] := by simp [numsAt, List.range_succ]
theorem numsAt_add (s : ByteArray) (a j k : Nat) : numsAt s a (j + k) = numsAt s a j ++ numsAt s (a + j) k := by
  induction k with
  | zero => simp [numsAt]
  | succ k ih => rw [← Nat.add_assoc, numsAt_succ, ih, numsAt_succ, List.append_assoc, Nat.add_assoc]

theorem beI_snoc (k : Nat) (n : Int) : beI (k + 1) n = beI k (n / 256) ++ [n % 256] := by
  induction k with
  | zero => simp [beI]
  | succ k ih =>
    rw [show beI (k + 1 + 1) n = (n / 256 ^ (k + 1) % 256) :: beI (k + 1) n from rfl, ih]
    rw [show beI (k + 1) (n / 256) = (n / 256 / 256 ^ k % 256) :: beI k (n / 256) from rfl]
    have e : n / 256 ^ (k + 1) = n / 256 / 256 ^ k := by
      rw [Int.ediv_ediv_of_nonneg (by omega), Int.pow_succ, Int.mul_comm]
    rw [e]
    rfl

theorem beI_rdI (s : ByteArray) (a k : Nat) : beI k (rdI s a k) = numsAt s a k := by
  induction k with
  | zero => rfl
  | succ k ih =>
    have hb := byteI_bd s (a + k)
    rw [beI_snoc, numsAt_succ]
    simp only [rdI]
    rw [show (rdI s a k * 256 + byteI s (a + k)) / 256 = rdI s a k from by omega, show (rdI s a k * 256 + byteI s (a + k)) % 256 = byteI s (a + k) from by omega, ih]

theorem beI_inj (k : Nat) (a b : Int) (ha : 0 ≤ a) (ha2 : a < 256 ^ k) (hb : 0 ≤ b) (hb2 : b < 256 ^ k) (h : beI k a = beI k b) : a = b := by
  have h1 := less_beI k a b
  have h2 := less_beI k b a
  rw [h] at h1 h2
  rw [h2] at h1
  rw [Int.emod_eq_of_lt ha ha2, Int.emod_eq_of_lt hb hb2] at h1
  by_cases c1 : a < b
  · have : ¬ b < a := by omega
    simp [c1, this] at h1
  · by_cases c2 : b < a
    · simp [c1, c2] at h1
    · omega

/-- what stands as the bytes of n is read as n -/
theorem rdI_of (s : ByteArray) (a k : Nat) (n : Int) (hn : 0 ≤ n) (hn2 : n < 256 ^ k) (h : numsAt s a k = beI k n) : rdI s a k = n := by
  have hb := rdI_bd s a k
  exact beI_inj k _ _ hb.1 hb.2 hn hn2 ((beI_rdI s a k).trans h)

theorem strOfNums_append (xs ys : List Int) : strOfNums xs ++ strOfNums ys = strOfNums (xs ++ ys) := by
  apply Go.WideShapes.bytes_inj
  simp [strOfNums]

theorem toU8_byteI (s : ByteArray) (i : Nat) : toU8 (byteI s i) = s.data.toList.getD i 0 := by
  unfold toU8 byteI; simp

theorem extract_nums (s : ByteArray) (a k : Nat) (h : a + k ≤ s.size) : s.extract a (a + k) = strOfNums (numsAt s a k) := by
  apply Go.WideShapes.bytes_inj
  rw [strOfNums_data]
  have hs : s.data.toList.length = s.size := by simp
  have e : (s.extract a (a + k)).data.toList = (s.data.toList.drop a).take k := by
    simp [ByteArray.data_extract, Array.toList_extract, List.extract_eq_take_drop]
  rw [e]
  apply List.ext_getElem
  · simp [numsAt]; omega
  · intro i h1 h2
    have hi : i < k := by simp [numsAt] at h2; exact h2
    simp only [List.getElem_take, List.getElem_drop, numsAt, List.map_map, List.getElem_map, List.getElem_range, Function.comp]
    have := toU8_byteI s (a + i)
    unfold toU8 at this
    rw [this]
    simp [List.getD, List.getElem?_eq_getElem (show a + i < s.data.toList.length by omega)]

theorem nums_self (s : ByteArray) : strOfNums (numsAt s 0 s.size) = s := by
  have h := extract_nums s 0 s.size (by omega)
  rw [← h]
  simp

/-- the bytes of what was laid between two others -/
theorem numsAt_mid (A B : ByteArray) (xs : List Int) (hx : ∀ x ∈ xs, 0 ≤ x ∧ x ≤ 255) : numsAt (A ++ strOfNums xs ++ B) A.size xs.length = xs := by
  apply List.ext_getElem
  · simp [numsAt]
  · intro i h1 h2
    have hx2 := hx xs[i] (List.getElem_mem h2)
    simp only [numsAt, List.getElem_map, List.getElem_range, byteI]
    have e : (A ++ strOfNums xs ++ B).data.toList = A.data.toList ++ ((strOfNums xs).data.toList ++ B.data.toList) := by simp
    have hA : A.data.toList.length = A.size := by simp
    rw [e, List.getD_eq_getElem?_getD, List.getElem?_append_right (by omega), hA, Nat.add_sub_cancel_left, strOfNums_data, List.getElem?_append_left (by simpa using h2)]
    simp [List.getElem?_eq_getElem h2]
    omega

theorem beI_mem (k : Nat) (n : Int) : ∀ x ∈ beI k n, 0 ≤ x ∧ x ≤ 255 := by
  induction k with
  | zero => intro x hx; simp [beI] at hx
  | succ k ih =>
    intro x hx
    simp only [beI, List.mem_cons] at hx
    rcases hx with rfl | hx
    · omega
    · exact ih x hx

theorem numsAt_mem (s : ByteArray) (a k : Nat) : ∀ x ∈ numsAt s a k, 0 ≤ x ∧ x ≤ 255 := by
  intro x hx
  simp only [numsAt, List.mem_map] at hx
  obtain ⟨i, _, rfl⟩ := hx
  exact byteI_bd s _

theorem unflip_flip (m : Int) (h1 : -9223372036854775808 ≤ m) (h2 : m ≤ 9223372036854775807) : unflip63 (flip63 m) = m := by
  rw [flip63_eq m h1 h2]
  unfold unflip63
  rw [show m + 9223372036854775808 - 9223372036854775808 = m from by omega, IntKind.wrap_u64]
  unfold wrap64
  omega

theorem flip_unflip (x : Int) (h1 : 0 ≤ x) (h2 : x ≤ 18446744073709551615) : flip63 (unflip63 x) = x := by
  have e : unflip63 x = x - 9223372036854775808 := by
    unfold unflip63
    rw [IntKind.wrap_u64]
    unfold wrap64
    omega
  rw [e, flip63_eq _ (by omega) (by omega)]
  omega

theorem rdI8_bd (s : ByteArray) (a : Nat) : rdI s a 8 ≤ 18446744073709551615 := by
  have := (rdI_bd s a 8).2
  omega

/-! ### there and back -/

theorem size_mid (A B : ByteArray) (xs : List Int) : (A ++ strOfNums xs ++ B).size = A.size + xs.length + B.size := by
  rw [ByteArray.size_append, ByteArray.size_append, strOfNums_size]

theorem back_u (A B : ByteArray) (n : Int) (h1 : 0 ≤ n) (h2 : n ≤ 18446744073709551615) : rdSpec (A ++ strOfNums (beI 8 n) ++ B) A.size 8 = (n, (A.size : Int) + 8, 0) := by
  have hm := numsAt_mid A B (beI 8 n) (beI_mem 8 n)
  rw [beI_len] at hm
  have hz := size_mid A B (beI 8 n)
  rw [beI_len] at hz
  unfold rdSpec
  rw [if_neg (by omega), if_neg (by omega), Int.toNat_natCast, rdI_of _ _ 8 n h1 (by omega) hm]
  rfl

theorem back_i (A B : ByteArray) (m : Int) (h1 : -9223372036854775808 ≤ m) (h2 : m ≤ 9223372036854775807) : rdISpec (rdSpec (A ++ strOfNums (beI 8 (flip63 m)) ++ B) A.size 8) = (m, (A.size : Int) + 8, 0) := by
  rw [back_u A B _ (flip63_lo m) (flip63_hi m)]
  unfold rdISpec
  rw [if_pos rfl]
  simp only
  rw [unflip_flip m h1 h2]

theorem once_u (s : ByteArray) (a : Nat) (h : a + 8 ≤ s.size) : strOfNums (beI 8 (rdI s a 8)) = s.extract a (a + 8) := by
  rw [beI_rdI, extract_nums s a 8 h]


end Go.Proofs.Ytaaagmcdbmppmaa
