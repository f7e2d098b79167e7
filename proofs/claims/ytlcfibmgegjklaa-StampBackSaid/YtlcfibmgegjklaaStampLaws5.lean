/- The walk of the law StampBack: the cases put together. -/
import Derived.Test.YtlcfibmgegjklaaStampBackCore
namespace Go.Proofs.Ytlcfibmgegjklaa
open Go.RowKit

/-- the three readings of a key's own bytes -/
theorem rd_key (t : Nat) (src n : Int) (ht : t < 18446744073709551616) (h1 : -9223372036854775808 ≤ src ∧ src ≤ 9223372036854775807) (h2 : -9223372036854775808 ≤ n ∧ n ≤ 9223372036854775807) :
    timeN (rdI (strOfNums (keyNums t src n)) 0 8) = t ∧ unflip63 (rdI (strOfNums (keyNums t src n)) (0 + 8) 8) = src ∧ unflip63 (rdI (strOfNums (keyNums t src n)) (0 + 16) 8) = n := by
  have p : (256 : Int) ^ 8 = 18446744073709551616 := by decide
  have e := nums_self (strOfNums (keyNums t src n))
  have e2 := strOfNums_inj (numsAt_mem _ _ _) (keyNums_mem t src n) e
  rw [key_size, show (24 : Nat) = 8 + 8 + 8 from rfl, numsAt_add, numsAt_add] at e2
  unfold keyNums at e2
  have l1 := List.append_inj e2 (by simp [numsAt_len, beI_len])
  have l2 := List.append_inj l1.1 (by simp [numsAt_len, beI_len])
  have b0 := bitsI_bd t ht
  have f1 := flip63_lo src
  have f2 := flip63_hi src
  have f3 := flip63_lo n
  have f4 := flip63_hi n
  have r0 := rdI_of _ 0 8 (bitsI t) b0.1 (by rw [p]; omega) l2.1
  have r1 := rdI_of _ (0 + 8) 8 (flip63 src) f1 (by rw [p]; omega) l2.2
  have r2 := rdI_of _ (0 + (8 + 8)) 8 (flip63 n) f3 (by rw [p]; omega) l1.2
  unfold keyNums
  refine ⟨?_, ?_, ?_⟩
  · rw [r0, time_bits t ht]
  · rw [r1, unflip_flip _ h1.1 h1.2]
  · rw [show (0 + 16 : Nat) = 0 + (8 + 8) from rfl, r2, unflip_flip _ h2.1 h2.2]

theorem normT_kept (x : Nat) (h : x < 18446744073709551616) (hn : isNum x) : isKept (normT x) := by
  refine (kept_iff _ (normT_bd x h) (normT_num x hn)).2 ?_
  have e := normT_ford x
  unfold normT at e ⊢
  split
  · rename_i c; rw [if_pos ford_zero]
  · rfl

theorem read_key (t : Nat) (src n : Int) (ht : t < 18446744073709551616) (hn : isNum t) (h1 : -9223372036854775808 ≤ src ∧ src ≤ 9223372036854775807) (h2 : -9223372036854775808 ≤ n ∧ n ≤ 9223372036854775807) :
    readSpec (strOfNums (keyNums (normT t) src n)) 0 = (⟨normT t, src, n⟩, 24, 0) := by
  obtain ⟨r0, r1, r2⟩ := rd_key (normT t) src n (normT_bd t ht) h1 h2
  unfold readSpec
  rw [key_size, if_neg (by omega), if_neg (by omega), show (0 : Int).toNat = 0 from rfl, r0, r1, r2, if_pos (normT_kept t ht hn)]
  rfl

theorem cmpI_self (x : Int) : cmpI x x = 0 := by unfold cmpI; simp
theorem cmp_norm (t : Nat) (src n : Int) (hn : isNum t) : cmpS ⟨normT t, src, n⟩ ⟨t, src, n⟩ = 0 := by
  unfold cmpS cmpT
  simp only
  rw [(frank_num (normT_num t hn)).1, (frank_num hn).1, normT_ford, cmpI_self, cmpI_self, cmpI_self]
  rfl

/-- what is read anywhere: an error, or a stamp whose key stands there -/
theorem read_cases (s : ByteArray) (a : Int) : (∃ e, readSpec s a = (⟨0, 0, 0⟩, 0, e) ∧ (e != 0) = true) ∨
    ∃ (A : Nat) (t : Nat) (y z : Int), a = A ∧ A + 24 ≤ s.size ∧ readSpec s a = (⟨t, y, z⟩, ((A + 24 : Nat) : Int), 0) ∧ t < 18446744073709551616 ∧ keySpec ⟨t, y, z⟩ = (s.extract A (A + 24), 0) := by
  unfold readSpec
  by_cases h1 : a < 0 ∨ (s.size : Int) < a
  · rw [if_pos h1]; exact .inl ⟨3, rfl, rfl⟩
  rw [if_neg h1]
  by_cases h2 : (s.size : Int) - a < 24
  · rw [if_pos h2]; exact .inl ⟨5, rfl, rfl⟩
  rw [if_neg h2]
  by_cases h3 : isKept (timeN (rdI s a.toNat 8))
  · rw [if_pos h3]
    obtain ⟨A, rfl⟩ := Int.eq_ofNat_of_zero_le (show 0 ≤ a by omega)
    rw [Int.toNat_natCast] at h3
    rw [Int.toNat_natCast]
    have bt := timeN_bd _ (rdI8_nonneg s A) (rdI8_bd s A)
    refine .inr ⟨A, _, _, _, rfl, by omega, rfl, bt, ?_⟩
    have hn := h3.1
    have e5 := (kept_iff _ bt hn).1 h3
    unfold keySpec
    simp only [hn, if_true]
    rw [e5, key_there s A (by omega)]
  · rw [if_neg h3]; exact .inl ⟨7, rfl, rfl⟩

theorem compare_parts (t u : Nat) (a b c d : Int) (w : World) :
    Calls Try.prog 19 #[.agg #[.float .f64 t, .int .i64 a, .int .i64 b], .agg #[.float .f64 u, .int .i64 c, .int .i64 d]] w fun e w' => e = .returned (.int .i64 (cmpS ⟨t, a, b⟩ ⟨u, c, d⟩)) ∧ Below w.heap.size w w' := compare_any ⟨t, a, b⟩ ⟨u, c, d⟩ w

theorem stampBack_walk (a0 : Nat) (a1 a2 : Int) (b : ByteArray) (at0 : Int) (w : World) (h0 : (Lit.float .f64 a0).wf = true) (h1 : (Lit.int .i64 a1).wf = true) (h2 : (Lit.int .i64 a2).wf = true) (hb : b.size ≤ maxLen) (hat : (Lit.int .i64 at0).wf = true) :
    Calls Try.prog 7 #[.agg #[.float .f64 a0, .int .i64 a1, .int .i64 a2], .string b, .int .i64 at0] w fun e w' => e = .returned (.bool true) ∧ Below w.heap.size w w' := by
  have l0 := wf_lt h0
  have K := key_parts a0 a1 a2 l0
  have R5 := read2_any b at0 hb (i64_bd2 hat)
  unfold keySpec at K
  by_cases hn : isNum a0
  · simp only [hn, if_true] at K
    have R := read2_any (strOfNums (keyNums (normT a0) a1 a2)) 0 (by rw [key_size]; unfold maxLen; omega) (by omega)
    rw [read_key a0 a1 a2 l0 hn (i64_bd2 h1) (i64_bd2 h2)] at R
    have C := compare_parts (normT a0) a0 a1 a2 a1 a2
    rw [cmp_norm a0 a1 a2 hn] at C
    have S := signbit_any (normT a0) (normT_bd a0 l0)
    have kp := normT_kept a0 l0 hn
    by_cases hs : sgn (normT a0) = false
    · rw [hs] at S
      by_cases hl : 3000 < b.size
      · exact back_fl a0 a1 a2 b at0 _ _ w K R C S hl
      · rcases read_cases b at0 with ⟨e, he, he2⟩ | ⟨A, t, y, z, rfl, hA, he, ht, hk⟩
        · rw [he] at R5
          exact back_fe a0 a1 a2 b at0 _ _ _ _ _ _ _ w K R C S (by omega) he2 R5
        · rw [he] at R5
          have K6 := key_parts t y z ht
          rw [hk] at K6
          exact back_fo a0 a1 a2 b A _ _ _ _ _ (A + 24) w K R C S (by omega) R5 (by omega) (by omega) K6
    · have hs' : sgn (normT a0) = true := by cases h : sgn (normT a0); exact absurd h hs; rfl
      rw [hs'] at S
      have hz : (FloatKind.f64.format.order (normT a0) 0 == some Ordering.eq) = false := by
        rw [ord_eq]
        rcases kp.2 with k | k
        · simp [k, ford_zero]
        · exact absurd k hs
      by_cases hl : 3000 < b.size
      · exact back_tl a0 a1 a2 b at0 _ _ w K R C S hz hl
      · rcases read_cases b at0 with ⟨e, he, he2⟩ | ⟨A, t, y, z, rfl, hA, he, ht, hk⟩
        · rw [he] at R5
          exact back_te a0 a1 a2 b at0 _ _ _ _ _ _ _ w K R C S hz (by omega) he2 R5
        · rw [he] at R5
          have K6 := key_parts t y z ht
          rw [hk] at K6
          exact back_to a0 a1 a2 b A _ _ _ _ _ (A + 24) w K R C S hz (by omega) R5 (by omega) (by omega) K6
  · simp only [hn, if_false] at K
    by_cases hl : 3000 < b.size
    · exact back_bl a0 a1 a2 b at0 _ w K hl
    · rcases read_cases b at0 with ⟨e, he, he2⟩ | ⟨A, t, y, z, rfl, hA, he, ht, hk⟩
      · rw [he] at R5
        exact back_be a0 a1 a2 b at0 _ _ _ _ _ _ w K (by omega) he2 R5
      · rw [he] at R5
        have K6 := key_parts t y z ht
        rw [hk] at K6
        exact back_bo a0 a1 a2 b A _ _ _ _ (A + 24) w K (by omega) R5 (by omega) (by omega) K6

end Go.Proofs.Ytlcfibmgegjklaa
