/- There and back: numbers, texts and lists as bytes. Plain mathematics on pack's readings and layings. -/
import Derived.Test.YtcbpekliijbhoaaPackListW
namespace Go.Proofs.Ytcbpekliijbhoaa
open Go.RowKit

/-- k bytes of s from a on, as numbers -/
def numsAt (s : ByteArray) (a k : Nat) : List Int := (List.range k).map fun i => byteI s (a + i)
theorem numsAt_len (s : ByteArray) (a k : Nat) : (numsAt s a k).length = k := by simp [numsAt]
theorem numsAt_succ (s : ByteArray) (a k : Nat) : numsAt s a (k + 1) = numsAt s a k ++ [byteI s (a + k)] := by simp [numsAt, List.range_succ]
theorem numsAt_add (s : ByteArray) (a j k : Nat) : numsAt s a (j + k) = numsAt s a j ++ numsAt s (a + j) k := by
  induction k with
  | zero => simp [numsAt]
  | succ k ih => rw [← Nat.add_assoc, numsAt_succ, ih, numsAt_succ, List.append_assoc, Nat.add_assoc]

theorem beI_snoc (k : Nat) (n : Int) : beI (k + 1) n = beI k (n / 256) ++ [n % 256] := by
  induction k with
  | zero => simp [beI]
  | succ k ih =>
    rw [show beI (k + 1 + 1) n = (n / 256 ^ (k + 1) % 256) :: beI (k + 1) n from rfl, ih]
    rw [show beI (k + 1) (n / 256) = (n / 256 / 256 ^ k % 256) :: beI k (n / 256) from rfl]
    have e : n / 256 ^ (k + 1) = n / 256 / 256 ^ k := by
      rw [Int.ediv_ediv_of_nonneg (by omega), Int.pow_succ, Int.mul_comm]
    rw [e]
    rfl

theorem beI_rdI (s : ByteArray) (a k : Nat) : beI k (rdI s a k) = numsAt s a k := by
  induction k with
  | zero => rfl
  | succ k ih =>
    have hb := byteI_bd s (a + k)
    rw [beI_snoc, numsAt_succ]
    simp only [rdI]
    rw [show (rdI s a k * 256 + byteI s (a + k)) / 256 = rdI s a k from by omega, show (rdI s a k * 256 + byteI s (a + k)) % 256 = byteI s (a + k) from by omega, ih]

theorem beI_inj (k : Nat) (a b : Int) (ha : 0 ≤ a) (ha2 : a < 256 ^ k) (hb : 0 ≤ b) (hb2 : b < 256 ^ k) (h : beI k a = beI k b) : a = b := by
  have h1 := less_beI k a b
  have h2 := less_beI k b a
  rw [h] at h1 h2
  rw [h2] at h1
  rw [Int.emod_eq_of_lt ha ha2, Int.emod_eq_of_lt hb hb2] at h1
  by_cases c1 : a < b
  · have : ¬ b < a := by omega
    simp [c1, this] at h1
  · by_cases c2 : b < a
    · simp [c1, c2] at h1
    · omega

/-- what stands as the bytes of n is read as n -/
theorem rdI_of (s : ByteArray) (a k : Nat) (n : Int) (hn : 0 ≤ n) (hn2 : n < 256 ^ k) (h : numsAt s a k = beI k n) : rdI s a k = n := by
  have hb := rdI_bd s a k
  exact beI_inj k _ _ hb.1 hb.2 hn hn2 ((beI_rdI s a k).trans h)

theorem strOfNums_append (xs ys : List Int) : strOfNums xs ++ strOfNums ys = strOfNums (xs ++ ys) := by
  apply Go.WideShapes.bytes_inj
  simp [strOfNums]

theorem toU8_byteI (s : ByteArray) (i : Nat) : toU8 (byteI s i) = s.data.toList.getD i 0 := by
  unfold toU8 byteI; simp

theorem extract_nums (s : ByteArray) (a k : Nat) (h : a + k ≤ s.size) : s.extract a (a + k) = strOfNums (numsAt s a k) := by
  apply Go.WideShapes.bytes_inj
  rw [strOfNums_data]
  have hs : s.data.toList.length = s.size := by simp
  have e : (s.extract a (a + k)).data.toList = (s.data.toList.drop a).take k := by
    simp [ByteArray.data_extract, Array.toList_extract, List.extract_eq_take_drop]
  rw [e]
  apply List.ext_getElem
  · simp [numsAt]; omega
  · intro i h1 h2
    have hi : i < k := by simp [numsAt] at h2; exact h2
    simp only [List.getElem_take, List.getElem_drop, numsAt, List.map_map, List.getElem_map, List.getElem_range, Function.comp]
    have := toU8_byteI s (a + i)
    unfold toU8 at this
    rw [this]
    simp [List.getD, List.getElem?_eq_getElem (show a + i < s.data.toList.length by omega)]

theorem nums_self (s : ByteArray) : strOfNums (numsAt s 0 s.size) = s := by
  have h := extract_nums s 0 s.size (by omega)
  rw [← h]
  simp

/-- the bytes of what was laid between two others -/
theorem numsAt_mid (A B : ByteArray) (xs : List Int) (hx : ∀ x ∈ xs, 0 ≤ x ∧ x ≤ 255) : numsAt (A ++ strOfNums xs ++ B) A.size xs.length = xs := by
  apply List.ext_getElem
  · simp [numsAt]
  · intro i h1 h2
    have hx2 := hx xs[i] (List.getElem_mem h2)
    simp only [numsAt, List.getElem_map, List.getElem_range, byteI]
    have e : (A ++ strOfNums xs ++ B).data.toList = A.data.toList ++ ((strOfNums xs).data.toList ++ B.data.toList) := by simp
    have hA : A.data.toList.length = A.size := by simp
    rw [e, List.getD_eq_getElem?_getD, List.getElem?_append_right (by omega), hA, Nat.add_sub_cancel_left, strOfNums_data, List.getElem?_append_left (by simpa using h2)]
    simp [List.getElem?_eq_getElem h2]
    omega

theorem beI_mem (k : Nat) (n : Int) : ∀ x ∈ beI k n, 0 ≤ x ∧ x ≤ 255 := by
  induction k with
  | zero => intro x hx; simp [beI] at hx
  | succ k ih =>
    intro x hx
    simp only [beI, List.mem_cons] at hx
    rcases hx with rfl | hx
    · omega
    · exact ih x hx

theorem numsAt_mem (s : ByteArray) (a k : Nat) : ∀ x ∈ numsAt s a k, 0 ≤ x ∧ x ≤ 255 := by
  intro x hx
  simp only [numsAt, List.mem_map] at hx
  obtain ⟨i, _, rfl⟩ := hx
  exact byteI_bd s _

theorem unflip_flip (m : Int) (h1 : -9223372036854775808 ≤ m) (h2 : m ≤ 9223372036854775807) : unflip63 (flip63 m) = m := by
  rw [flip63_eq m h1 h2]
  unfold unflip63
  rw [show m + 9223372036854775808 - 9223372036854775808 = m from by omega, IntKind.wrap_u64]
  unfold wrap64
  omega

theorem flip_unflip (x : Int) (h1 : 0 ≤ x) (h2 : x ≤ 18446744073709551615) : flip63 (unflip63 x) = x := by
  have e : unflip63 x = x - 9223372036854775808 := by
    unfold unflip63
    rw [IntKind.wrap_u64]
    unfold wrap64
    omega
  rw [e, flip63_eq _ (by omega) (by omega)]
  omega

theorem rdI8_bd (s : ByteArray) (a : Nat) : rdI s a 8 ≤ 18446744073709551615 := by
  have := (rdI_bd s a 8).2
  omega

/-! ### there and back -/

theorem size_mid (A B : ByteArray) (xs : List Int) : (A ++ strOfNums xs ++ B).size = A.size + xs.length + B.size := by
  rw [ByteArray.size_append, ByteArray.size_append, strOfNums_size]

theorem back_u (A B : ByteArray) (n : Int) (h1 : 0 ≤ n) (h2 : n ≤ 18446744073709551615) : rdSpec (A ++ strOfNums (beI 8 n) ++ B) A.size 8 = (n, (A.size : Int) + 8, 0) := by
  have hm := numsAt_mid A B (beI 8 n) (beI_mem 8 n)
  rw [beI_len] at hm
  have hz := size_mid A B (beI 8 n)
  rw [beI_len] at hz
  unfold rdSpec
  rw [if_neg (by omega), if_neg (by omega), Int.toNat_natCast, rdI_of _ _ 8 n h1 (by omega) hm]
  rfl

theorem back_i (A B : ByteArray) (m : Int) (h1 : -9223372036854775808 ≤ m) (h2 : m ≤ 9223372036854775807) : rdISpec (rdSpec (A ++ strOfNums (beI 8 (flip63 m)) ++ B) A.size 8) = (m, (A.size : Int) + 8, 0) := by
  rw [back_u A B _ (flip63_lo m) (flip63_hi m)]
  unfold rdISpec
  rw [if_pos rfl]
  simp only
  rw [unflip_flip m h1 h2]

/-- two bytes that say n, and what is behind them -/
theorem back_count (S : ByteArray) (a n : Nat) (most sz : Nat) (hn : n ≤ 65535) (hm : n ≤ most) (hz : a + 2 + n * sz ≤ S.size) (h : numsAt S a 2 = beI 2 n) :
    rcSpec S a most sz = ((n : Int), (a : Int) + 2, 0) := by
  have hr := rdI_of S a 2 n (by omega) (by omega) h
  unfold rcSpec rdSpec
  have h0 : 0 ≤ n * sz := Nat.zero_le _
  rw [if_neg (by omega), if_neg (by omega), Int.toNat_natCast, hr]
  unfold rcOf
  have hz' : (a : Int) + 2 + (n : Int) * (sz : Int) ≤ (S.size : Int) := by
    have : ((a + 2 + n * sz : Nat) : Int) ≤ (S.size : Int) := by omega
    simpa using this
  have e2 : ((2 : Nat) : Int) = 2 := rfl
  rw [if_neg (by simp), if_neg (by simp only; omega), if_neg (by simp only; omega)]
  rfl

theorem back_text (A B T : ByteArray) (h : T.size ≤ 4096) : rtSpec (A ++ (strOfNums (beI 2 T.size) ++ T) ++ B) A.size = (T, (A.size : Int) + 2 + (T.size : Int), 0) := by
  have e : strOfNums (beI 2 T.size) ++ T = strOfNums (beI 2 T.size ++ numsAt T 0 T.size) := by rw [← strOfNums_append, nums_self]
  rw [e]
  have hm := numsAt_mid A B (beI 2 T.size ++ numsAt T 0 T.size) (by
    intro x hx
    rcases List.mem_append.1 hx with hx | hx
    · exact beI_mem _ _ x hx
    · exact numsAt_mem _ _ _ x hx)
  have hz := size_mid A B (beI 2 T.size ++ numsAt T 0 T.size)
  rw [List.length_append, beI_len, numsAt_len] at hm hz
  generalize A ++ strOfNums (beI 2 T.size ++ numsAt T 0 T.size) ++ B = S at hm hz ⊢
  rw [numsAt_add] at hm
  obtain ⟨m1, m2⟩ := List.append_inj hm (by rw [numsAt_len, beI_len])
  have hc := back_count S A.size T.size 4096 1 (by omega) h (by omega) m1
  unfold rtSpec
  rw [show ((4096 : Nat) : Int) = 4096 from rfl, show ((1 : Nat) : Int) = 1 from rfl] at hc
  rw [hc]
  unfold rtOf
  rw [if_neg (by simp)]
  simp only
  rw [show ((A.size : Int) + 2).toNat = A.size + 2 from by omega, show ((A.size : Int) + 2 + (T.size : Int)).toNat = A.size + 2 + T.size from by omega, extract_nums S (A.size + 2) T.size (by omega), m2, nums_self]

theorem ls_mem (zs : List Int) (j : Nat) : ∀ x ∈ lsNums zs j, 0 ≤ x ∧ x ≤ 255 := by
  intro x hx
  unfold lsNums at hx
  rcases List.mem_append.1 hx with hx | hx
  · exact beI_mem _ _ x hx
  · obtain ⟨z, _, hz⟩ := List.mem_flatMap.1 hx
    exact beI_mem _ _ x hz

theorem ls_down (S : ByteArray) (a : Nat) (zs : List Int) (j : Nat) (hj : j < zs.length) (h : numsAt S a (2 + 8 * (j + 1)) = lsNums zs (j + 1)) :
    numsAt S a (2 + 8 * j) = lsNums zs j ∧ numsAt S (a + (2 + 8 * j)) 8 = beI 8 (flip63 (zs.getD j 0)) := by
  rw [lsNums_succ zs j hj, show 2 + 8 * (j + 1) = (2 + 8 * j) + 8 from by omega, numsAt_add] at h
  exact List.append_inj h (by rw [numsAt_len, lsNums_len zs j (by omega)])

theorem ls_all (S : ByteArray) (a : Nat) (zs : List Int) (n : Nat) (hn : n ≤ zs.length) (h : numsAt S a (2 + 8 * n) = lsNums zs n) :
    numsAt S a 2 = beI 2 zs.length ∧ ∀ j, j < n → numsAt S (a + (2 + 8 * j)) 8 = beI 8 (flip63 (zs.getD j 0)) := by
  induction n with
  | zero => exact ⟨by rw [← lsNums_zero]; exact h, fun j hj => by omega⟩
  | succ n ih =>
    obtain ⟨h1, h2⟩ := ls_down S a zs n (by omega) h
    obtain ⟨h3, h4⟩ := ih (by omega) h1
    refine ⟨h3, fun j hj => ?_⟩
    by_cases e : j = n
    · subst e; exact h2
    · exact h4 j (by omega)

theorem back_list (A B : ByteArray) (zs : List Int) (h : zs.length ≤ 512) (hw : ∀ z ∈ zs, -9223372036854775808 ≤ z ∧ z ≤ 9223372036854775807) :
    rlSpec (A ++ strOfNums (lsNums zs zs.length) ++ B) A.size = (zs, (A.size : Int) + 2 + 8 * (zs.length : Int), 0) := by
  have hm := numsAt_mid A B (lsNums zs zs.length) (ls_mem _ _)
  have hz := size_mid A B (lsNums zs zs.length)
  rw [lsNums_len zs _ (Nat.le_refl _)] at hm hz
  generalize A ++ strOfNums (lsNums zs zs.length) ++ B = S at hm hz ⊢
  obtain ⟨m1, m2⟩ := ls_all S A.size zs zs.length (Nat.le_refl _) hm
  have hc := back_count S A.size zs.length 512 8 (by omega) h (by omega) m1
  unfold rlSpec
  rw [show ((512 : Nat) : Int) = 512 from rfl, show ((8 : Nat) : Int) = 8 from rfl] at hc
  rw [hc]
  unfold rlOf
  rw [if_neg (by simp)]
  simp only
  rw [show ((A.size : Int) + 2).toNat = A.size + 2 from by omega, Int.toNat_natCast]
  have e : rlNums S (A.size + 2) zs.length = zs := by
    apply List.ext_getElem
    · simp [rlNums]
    · intro i h1 h2
      simp only [rlNums, List.getElem_map, List.getElem_range, rlNum]
      have hi := m2 i h2
      rw [← Nat.add_assoc] at hi
      rw [rdI_of S _ 8 _ (flip63_lo _) (by have := flip63_hi (zs.getD i 0); omega) hi]
      have hg : zs.getD i 0 = zs[i] := by simp [List.getD, List.getElem?_eq_getElem h2]
      rw [hg]
      have := hw zs[i] (List.getElem_mem h2)
      exact unflip_flip _ this.1 this.2
  rw [e]

/-! ### what is read is laid as it was -/

theorem once_u (s : ByteArray) (a : Nat) (h : a + 8 ≤ s.size) : strOfNums (beI 8 (rdI s a 8)) = s.extract a (a + 8) := by
  rw [beI_rdI, extract_nums s a 8 h]

theorem once_text (s : ByteArray) (a n : Nat) (h : a + 2 + n ≤ s.size) (hn : (n : Int) = rdI s a 2) : strOfNums (beI 2 n) ++ s.extract (a + 2) (a + 2 + n) = s.extract a (a + 2 + n) := by
  rw [hn, beI_rdI, extract_nums s (a + 2) n h, strOfNums_append, ← numsAt_add, Nat.add_assoc, extract_nums s a (2 + n) (by omega)]

theorem once_ls (s : ByteArray) (a n : Nat) (hn : (n : Int) = rdI s a 2) (j : Nat) (hj : j ≤ n) : lsNums (rlNums s (a + 2) n) j = numsAt s a (2 + 8 * j) := by
  induction j with
  | zero => rw [lsNums_zero, rlNums_len, hn, beI_rdI]
  | succ j ih =>
    rw [lsNums_succ _ j (by rw [rlNums_len]; omega), ih (by omega), show 2 + 8 * (j + 1) = (2 + 8 * j) + 8 from by omega, numsAt_add s a (2 + 8 * j) 8]
    have e : (rlNums s (a + 2) n).getD j 0 = rlNum s (a + 2) j := by
      simp [rlNums, List.getD, show j < n by omega]
    rw [e]
    unfold rlNum
    rw [flip_unflip _ (rdI_bd s _ 8).1 (rdI8_bd s _), beI_rdI, Nat.add_assoc]

theorem once_list (s : ByteArray) (a n : Nat) (h : a + 2 + 8 * n ≤ s.size) (hn : (n : Int) = rdI s a 2) : strOfNums (lsNums (rlNums s (a + 2) n) n) = s.extract a (a + 2 + 8 * n) := by
  rw [once_ls s a n hn n (Nat.le_refl _), Nat.add_assoc, extract_nums s a (2 + 8 * n) (by omega)]

end Go.Proofs.Ytcbpekliijbhoaa
