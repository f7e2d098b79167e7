/- The walk of the law PackBack, all cases together. -/
import Derived.Test.YtcbpekliijbhoaaPackBackCore
namespace Go.Proofs.Ytcbpekliijbhoaa
open Go.RowKit

set_option maxHeartbeats 400000 in
set_option maxRecDepth 100000 in
theorem back_out (A C T : ByteArray) (n m : Int) (ao : Option Addr) (len cap : Nat) (w : World) (hA : A.size ≤ maxLen) (hC : C.size ≤ maxLen) (hl : len ≤ maxLen) (h : 5000 < A.size ∨ (A.size ≤ 5000 ∧ 5000 < C.size) ∨ (A.size ≤ 5000 ∧ C.size ≤ 5000 ∧ 600 < len)) :
    Calls Try.prog 6 #[.agg #[.string A, .string C, .int .u64 n, .int .i64 m, .string T, .slice ao len cap]] w fun e w' => e = .returned (.bool true) ∧ Below w.heap.size w w' := by
  unfold maxLen at hA hC hl
  rcases h with h | ⟨h1, h⟩ | ⟨h1, h2, h⟩
  · have d1 : decide ((5000 : Int) < (A.size : Int)) = true := by simp; omega
    go_enter Try.func6, Try.ntmps6
    go_wp2_with fail
    refine (awake_any _).mono ?_
    rintro e w1 ⟨rfl, hb1⟩
    go_wp2_with fail
    go_ret
    exact ⟨rfl, bthen (balloc _ _) hb1⟩
  · have d1 : decide ((5000 : Int) < (A.size : Int)) = false := by simp; omega
    have d2 : decide ((5000 : Int) < (C.size : Int)) = true := by simp; omega
    go_enter Try.func6, Try.ntmps6
    go_wp2_with fail
    refine (awake_any _).mono ?_
    rintro e w1 ⟨rfl, hb1⟩
    go_wp2_with fail
    go_ret
    exact ⟨rfl, bthen (balloc _ _) hb1⟩
  · have d1 : decide ((5000 : Int) < (A.size : Int)) = false := by simp; omega
    have d2 : decide ((5000 : Int) < (C.size : Int)) = false := by simp; omega
    have d3 : decide ((600 : Int) < (len : Int)) = true := by simp; omega
    go_enter Try.func6, Try.ntmps6
    go_wp2_with fail
    refine (awake_any _).mono ?_
    rintro e w1 ⟨rfl, hb1⟩
    go_wp2_with fail
    go_ret
    exact ⟨rfl, bthen (balloc _ _) hb1⟩

theorem packBack_walk (A C : ByteArray) (n m : Int) (T : ByteArray) (ao : Option Addr) (len cap : Nat) (ys : List Int) (w : World) (hA : A.size ≤ maxLen) (hC : C.size ≤ maxLen) (hn : (Lit.int .u64 n).wf = true) (hm : (Lit.int .i64 m).wf = true) (hT : T.size ≤ maxLen) (hL : IsRow .i64 w ao len cap ys) :
    Calls Try.prog 6 #[.agg #[.string A, .string C, .int .u64 n, .int .i64 m, .string T, .slice ao len cap]] w fun e w' => e = .returned (.bool true) ∧ Below w.heap.size w w' := by
  have bn := u64_bd hn
  have bm := i64_bd hm
  have hS := sliceHas_of_row hL
  have hz : (ys.take len).length = len ∧ len ≤ maxLen ∧ ∀ z ∈ ys.take len, -9223372036854775808 ≤ z ∧ z ≤ 9223372036854775807 := by
    rcases hL with ⟨rfl, rfl, rfl, rfl⟩ | ⟨x, rfl, h1, h2, h3, _, h4⟩
    · exact ⟨rfl, by omega, fun z hz => by simp at hz⟩
    · exact ⟨by rw [List.length_take]; omega, by omega, fun z hz => i64_bd (h4 z (List.mem_of_mem_take hz))⟩
  obtain ⟨hzl, hlm, hzw⟩ := hz
  generalize ys.take len = zs at hS hzl hzw
  by_cases g1 : 5000 < A.size
  · exact back_out A C T n m ao len cap w hA hC hlm (.inl g1)
  by_cases g2 : 5000 < C.size
  · exact back_out A C T n m ao len cap w hA hC hlm (.inr (.inl ⟨by omega, g2⟩))
  by_cases g3 : 600 < len
  · exact back_out A C T n m ao len cap w hA hC hlm (.inr (.inr ⟨by omega, by omega, g3⟩))
  have szm : ∀ x : ByteArray, x.size ≤ 5000 → (A ++ x ++ C).size ≤ maxLen := by
    intro x hx; rw [ByteArray.size_append, ByteArray.size_append]; unfold maxLen; omega
  have hk : -9223372036854775808 ≤ (A.size : Int) ∧ (A.size : Int) ≤ 9223372036854775807 := by omega
  have zu : (strOfNums (beI 8 n)).size ≤ 8 := by rw [strOfNums_size, beI_len]; omega
  have zi : (strOfNums (beI 8 (flip63 m))).size ≤ 8 := by rw [strOfNums_size, beI_len]; omega
  have H2 := readU_any (A ++ strOfNums (beI 8 n) ++ C) A.size (szm _ (by omega)) hk
  rw [back_u A C n bn.1 bn.2] at H2
  have H4 := readI_any (A ++ strOfNums (beI 8 (flip63 m)) ++ C) A.size (szm _ (by omega)) hk
  rw [back_i A C m bm.1 bm.2] at H4
  have H5 := packText T hT
  have tail : (512 < zs.length ∧ listSpec zs = (⟨#[]⟩, 4)) ∨ ∃ xl : ByteArray, xl.size ≤ 5000 ∧ listSpec zs = (xl, 0) ∧ ∀ w, Calls Try.prog 24 #[.string (A ++ xl ++ C), .int .i64 A.size] w (ListRet w (zs, (A.size : Int) + (xl.size : Int), 0)) := by
    unfold listSpec
    by_cases h : 512 < zs.length
    · rw [if_pos h]; exact .inl ⟨h, rfl⟩
    · rw [if_neg h]
      have e : (strOfNums (lsNums zs zs.length)).size = 2 + 8 * zs.length := by rw [strOfNums_size, lsNums_len zs _ (Nat.le_refl _)]
      refine .inr ⟨_, by omega, rfl, fun w => ?_⟩
      have K := readList_any (A ++ strOfNums (lsNums zs zs.length) ++ C) A.size (szm _ (by omega)) hk w
      rw [back_list A C zs (by omega) hzw] at K
      rw [e, show (A.size : Int) + ((2 + 8 * zs.length : Nat) : Int) = (A.size : Int) + 2 + 8 * (zs.length : Int) from by omega]
      exact K
  by_cases ht : 4096 < T.size
  · have E : textSpec T = (⟨#[]⟩, 4) := by unfold textSpec; rw [if_pos ht]
    rw [E] at H5
    rcases tail with ⟨_, h7⟩ | ⟨xl, zl, h7, H8⟩
    · exact back_ee A C T n m ao len cap zs w _ _ ⟨#[]⟩ ⟨#[]⟩ (by omega) (by omega) (by omega) zu zi hS (packU n) H2 (packI m) H4 H5 h7
    · exact back_eo A C T n m ao len cap zs w _ _ ⟨#[]⟩ xl (by omega) (by omega) (by omega) zu zi hS (packU n) H2 (packI m) H4 H5 zl h7 H8
  · have E : textSpec T = (strOfNums (beI 2 T.size) ++ T, 0) := by unfold textSpec; rw [if_neg ht]
    rw [E] at H5
    have e : (strOfNums (beI 2 T.size) ++ T).size = 2 + T.size := by rw [ByteArray.size_append, strOfNums_size, beI_len]
    have H6 := readText_any (A ++ (strOfNums (beI 2 T.size) ++ T) ++ C) A.size (szm _ (by omega)) hk
    rw [back_text A C T (by omega), show (A.size : Int) + 2 + (T.size : Int) = (A.size : Int) + ((strOfNums (beI 2 T.size) ++ T).size : Int) from by rw [e]; omega] at H6
    rcases tail with ⟨_, h7⟩ | ⟨xl, zl, h7, H8⟩
    · exact back_oe A C T n m ao len cap zs w _ _ (strOfNums (beI 2 T.size) ++ T) ⟨#[]⟩ (by omega) (by omega) (by omega) zu zi hS (packU n) H2 (packI m) H4 (by omega) H5 H6 h7
    · exact back_oo A C T n m ao len cap zs w _ _ (strOfNums (beI 2 T.size) ++ T) xl (by omega) (by omega) (by omega) zu zi hS (packU n) H2 (packI m) H4 (by omega) H5 H6 zl h7 H8

end Go.Proofs.Ytcbpekliijbhoaa
