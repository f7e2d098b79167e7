/- The program's GetPart. -/
import Derived.Test.YtaaagmcdbmppmaaYRtP6
import Derived.Test.YtaaagmcdbmppmaaYRtR1
namespace Go.Proofs.Ytaaagmcdbmppmaa
open Go.RowKit Go.Deep
set_option linter.unusedVariables false
set_option linter.unusedSimpArgs false
set_option maxRecDepth 100000

theorem pgetpart_bad (s : ByteArray) (m e : Int) (hs : s.size ≤ 1000) (h : (m < 0 ∨ 116 < m) ∧ e = 2 ∨ ¬ (m < 0 ∨ 116 < m) ∧ (s.size : Int) < 2 * m ∧ e = 5) (w : World) :
    Calls Try.prog 14 #[.string s, .int .i64 m] w fun r w' => r = .returned (.tuple #[.slice none 0 0, .int .i64 e]) ∧ w' = w := by
  rcases h with ⟨h | h, rfl⟩ | ⟨h, h2, rfl⟩
  · have d : decide (m < 0) = true := by simp [h]
    go_enter Try.func14, Try.ntmps14
    go_wp2_with fail
    go_ret2
    exact ⟨rfl, rfl⟩
  · have d : decide (m < 0) = false := by simp; omega
    have d2 : decide (116 < m) = true := by simp [h]
    go_enter Try.func14, Try.ntmps14
    go_wp2_with fail
    go_ret2
    exact ⟨rfl, rfl⟩
  · have d : decide (m < 0) = false := by simp; omega
    have d2 : decide (116 < m) = false := by simp; omega
    have d3 : decide ((s.size : Int) < 2 * m) = true := by simp [h2]
    have h3 : -9223372036854775808 ≤ 2 * m ∧ 2 * m ≤ 9223372036854775807 := by omega
    clear h
    go_enter Try.func14, Try.ntmps14
    go_wp2_with fail
    go_ret2
    exact ⟨rfl, rfl⟩
/-- the row as it is filled: m cells, the first j of them known -/
def gpV (s : ByteArray) (m j : Nat) : List Value := (List.range m).map fun i => .int .i64 (if i < j then numP s i - 1 else 0)
theorem gpV_set (s : ByteArray) {m j : Nat} (h : j < m) : (gpV s m j).set j (.int .i64 (numP s j - 1)) = gpV s m (j + 1) := by
  apply List.ext_getElem
  · simp [gpV]
  · intro i h1 h2
    have hi : i < m := by simpa [gpV] using h2
    rw [List.getElem_set]
    split
    · rename_i e
      subst e
      simp [gpV]
    · rename_i e
      have : (i < j) = (i < j + 1) := by apply propext; omega
      simp [gpV, this]
theorem gpV_at (s : ByteArray) (m j : Nat) {i : Nat} (h : i < m) : (gpV s m j)[i]? = some (.int .i64 (if i < j then numP s i - 1 else 0)) := by
  have hl : i < (gpV s m j).length := by simpa [gpV] using h
  rw [List.getElem?_eq_getElem hl]
  simp [gpV]
theorem gpV_zero (s : ByteArray) (m : Nat) : gpV s m 0 = List.replicate m (.int .i64 0) := by
  apply List.ext_getElem
  · simp [gpV]
  · intro i h1 h2
    simp [gpV]
theorem gpV_lst {s : ByteArray} {m g : Nat} (hm : m ≤ 116) {w : World} (h : w.heap[g]? = some (.cells (gpV s m m).toArray 3 (0, 0))) : LstI (tellL s m) (.slice (some ⟨g, 0, none⟩) m m) w := by
  have hl : (tellL s m).length = m := tellL_len s m
  refine ⟨_, _, by rw [hl], by rw [hl]; exact Nat.le_refl _, by omega, fun _ => ⟨g, 0, rfl, (Array.getElem?_eq_some_iff.1 h).1, fun i hi j hj => ?_⟩⟩
  rw [hl] at hi
  obtain rfl : j = 0 := by omega
  rw [Lib.cell_of_heap h, Nat.mul_one, Nat.add_zero, Nat.zero_add]
  have := gpV_at s m m (i := i) hi
  rw [if_pos hi] at this
  have e : (tellL s m).getD i 0 = numP s i - 1 := by
    unfold tellL
    rw [List.getD_eq_getElem?_getD, List.getElem?_map, List.getElem?_range hi]; rfl
  show _ = some (Value.int .i64 ((tellL s m).getD i 0))
  rw [e]
  simpa using this
theorem made_row13 {w : World} {base g n : Nat} {e : TypeId} (h : w.ownsRow base e 1 (.slice (some ⟨g, 0, none⟩) n n) n (madeCells #[Value.int .i64 0] n).toList) :
    w.heap[g]? = some (.cells (List.replicate n (Value.int .i64 0)).toArray e (0, 0)) := by
  rcases h.2 with ⟨h1, _⟩ | ⟨g', cap, cur, h1, _, h2, h3, _, h4, h5⟩
  · simp at h1
  · simp only [Value.slice.injEq, Option.some.injEq, Addr.mk.injEq, and_true, true_and] at h1
    obtain ⟨rfl, rfl⟩ := h1
    rw [h2]
    rw [toList_madeCells_one] at h5
    have e : cur.toList = List.replicate n (Value.int .i64 0) := by
      rw [← h5]
      exact (List.take_of_length_le (by simp; omega)).symm
    rw [← e]
/-- what GetPart has in memory -/
structure G13 (w : World) (q1 q2 g : Nat) (s : ByteArray) (m j a : Nat) (wr : World) : Prop where
  rd : RdAt q1 q2 s a wr
  row : wr.heap[g]? = some (.cells (gpV s m j).toArray 3 (0, 0))
  lo : Below w.heap.size w wr
  g1 : q1 ≠ g
  g2 : q2 ≠ g
  b2 : w.heap.size ≤ q2
  bg : w.heap.size ≤ g
theorem G13.read {w : World} {q1 q2 g : Nat} {s : ByteArray} {m j a : Nat} {wr w2 : World} (h : G13 w q1 q2 g s m j a wr) (hw : w2 = wr.setCell ⟨q2, 0, none⟩ (.int .i64 ((a + 2 : Nat) : Int))) : G13 w q1 q2 g s m j (a + 2) w2 :=
  ⟨hw ▸ h.rd.set (a + 2), heap_off13 hw (fun e => h.g2 e.symm) h.row, hw ▸ h.lo.setCell (p := ⟨q2, 0, none⟩) h.b2 _, h.g1, h.g2, h.b2, h.bg⟩
theorem G13.fill {w : World} {q1 q2 g : Nat} {s : ByteArray} {m j a : Nat} {wr : World} (hj : j < m) (h : G13 w q1 q2 g s m j a wr) : G13 w q1 q2 g s m (j + 1) a (wr.setCell ⟨g, j, none⟩ (.int .i64 (numP s j - 1))) := by
  refine ⟨⟨?_, ?_⟩, ?_, h.lo.setCell (p := ⟨g, j, none⟩) h.bg _, h.g1, h.g2, h.b2, h.bg⟩
  · rw [Below.heap_setCell _ _ _ _ h.g1]; exact h.rd.tx
  · rw [Below.heap_setCell _ _ _ _ h.g2]; exact h.rd.pl
  · have := Joins.block_setCell h.row (.int .i64 (numP s j - 1)) (i := j)
    rw [this, ← gpV_set s hj]
    simp
set_option maxHeartbeats 3200000 in
theorem pgetpart_go (s : ByteArray) (m : Nat) (hs : s.size ≤ 1000) (hm : m ≤ 116) (h2 : 2 * m ≤ s.size) (w : World) :
    Calls Try.prog 14 #[.string s, .int .i64 (m : Int)] w fun r w' => ∃ v, r = .returned (.tuple #[v, .int .i64 (tellE s m)]) ∧ LstI (getL s m) v w' ∧ Below w.heap.size w w' := by
  obtain ⟨i0, hi0, hz0, hz1, hz2⟩ := info_parts infoInt13
  have E : Hid (tellE s (m : Int) = if ∃ i, i < m ∧ 1024 < numP s i then 14 else 0) := Lib.hid (by
    unfold tellE
    rw [if_neg (by omega), if_neg (by omega), Int.toNat_natCast])
  have EL : Hid (getL s (m : Int) = if ∃ i, i < m ∧ 1024 < numP s i then [] else tellL s m) := Lib.hid (by
    unfold getL
    rw [E.out, Int.toNat_natCast]
    split <;> simp)
  have d : decide ((m : Int) < 0) = false := by simp
  have d2 : decide ((116 : Int) < (m : Int)) = false := by simp; omega
  have d3 : decide ((s.size : Int) < 2 * (m : Int)) = false := by simp; omega
  have d4 : decide (s.size < 2 * m) = false := by simp; omega
  have H2 := Lib.hid h2
  have HM := Lib.hid hm
  have HRD := Lib.hid (preader_any s w)
  go_enter Try.func14, Try.ntmps14
  go_wp2_with fail
  refine (HRD.out).mono ?_
  rintro e w1 ⟨rfl, hr, hs1, hb⟩
  have R1 := Lib.hid hr
  have S1 := Lib.hid hs1
  have B1 := Lib.hid hb
  clear hr hs1 hb HRD
  unfold rdrV
  go_wp2_with (at_make; refine wpList_make_full _ rfl _ _ _ rfl w1.heap.size 3 i0 (.int .i64 0) 1 Try.underlying22 hi0 hz0 hz1 .i64 .i64 _ _ m rfl rfl (by omega) (by omega) (by rw [hz2]; omega) (by unfold maxLen; omega) (Nat.le_refl _) ?_)
  intro w2 hown hgr
  have G2 : Hid (G13 w w.heap.size (w.heap.size + 1) w1.heap.size s m 0 0 w2) := Lib.hid (by
    have hr := R1.out
    have hs1 := S1.out
    have st : ∀ k, k < w1.heap.size → w2.heap[k]? = w1.heap[k]? := fun k hk => hgr.block k hk (by simp)
    exact ⟨⟨(st _ (by omega)).trans hr.tx, (st _ (by omega)).trans hr.pl⟩, by rw [gpV_zero]; exact made_row13 hown, B1.out.grown hgr (by omega) (by simp), by omega, by omega, by omega, by omega⟩)
  clear hown hgr hi0 hz0 hz1 hz2 R1 S1 B1
  generalize hg : w1.heap.size = g at *
  generalize hq1 : w.heap.size = q1 at *
  generalize hq2 : q1 + 1 = q2 at *
  have HQ1 := Lib.hid hq1
  clear hg hq1 hq2
  go_wp2_with fail
  go_loopw [26] (fun i wr => ∃ j : Nat, j ≤ m ∧ i = .int .i64 j ∧ Hid (∀ i, i < j → numP s i ≤ 1024) ∧ Hid (G13 w q1 q2 g s m j (2 * j) wr)) (fun i _ => m - (intOf i).toNat)
  case atStart => exact ⟨0, Nat.zero_le _, rfl, Lib.hid (fun i hi => absurd hi (Nat.not_lt_zero i)), G2⟩
  case round =>
    clear G2
    obtain ⟨j, hj, rfl, HG, HO⟩ := hrel
    by_cases hlt : j < m
    · have e1 : decide ((j : Int) < (m : Int)) = true := by simp [hlt]
      have hj2 : (j : Int) < (m : Int) := by omega
      have hj3 : (0 : Int) ≤ (j : Int) := by omega
      have HR : Hid (Calls Try.prog 43 #[.pointer (some ⟨q1, 0, none⟩), .pointer (some ⟨q2, 0, none⟩)] wr fun e w' => e = .returned (.int .i64 (numP s j)) ∧ w' = wr.setCell ⟨q2, 0, none⟩ (.int .i64 ((2 * j + 2 : Nat) : Int))) := Lib.hid (pread2_any q1 q2 s (2 * j) wr HO.out.rd (by omega) (by omega))
      have hqb := numP_bd s j
      have HLT := Lib.hid hlt
      obtain ⟨q, hq⟩ : ∃ q, q = numP s j := ⟨_, rfl⟩
      have HQ := Lib.hid hq
      rw [← hq] at HR hqb
      have hq3 : -9223372036854775808 ≤ q - 1 ∧ q - 1 ≤ 9223372036854775807 := by omega
      clear hq
      go_wp2_with fail
      refine (HR.out).mono ?_
      rintro e w6 ⟨rfl, hw⟩
      have T6 := Lib.hid (HO.out.read hw)
      clear hw HR HO
      have fz : w6.frozen? ⟨g, j, none⟩ = false := Lib.frozen_of_heap T6.out.row j
      have cx : w6.cell? ⟨g, j, none⟩ = some (.int .i64 (if j < j then numP s j - 1 else 0)) := by rw [Lib.cell_of_heap T6.out.row]; simpa using gpV_at s m j hlt
      have T7 : Hid (G13 w q1 q2 g s m (j + 1) (2 * j + 2) (w6.setCell ⟨g, j, none⟩ (.int .i64 (q - 1)))) := Lib.hid (by rw [HQ.out]; exact T6.out.fill hlt)
      clear T6
      go_upto_region 11 with fail
      clear cx fz
      generalize w6.setCell ⟨g, j, none⟩ (.int .i64 (q - 1)) = w7 at *
      have cx : w7.cell? ⟨g, j, none⟩ = some (.int .i64 (q - 1)) := by
        rw [Lib.cell_of_heap T7.out.row]
        have := gpV_at s m (j + 1) hlt
        rw [if_pos (by omega), ← HQ.out] at this
        simpa using this
      clear hlt
      by_cases hbig : 1024 < q
      · have d5 : decide (1023 < q - 1) = true := by simp; omega
        have X : ∃ i, i < m ∧ 1024 < numP s i := ⟨j, HLT.out, by rw [← HQ.out]; exact hbig⟩
        have E2 : Hid (tellE s (m : Int) = 14) := Lib.hid (by rw [E.out, if_pos X])
        have E3 : Hid (getL s (m : Int) = []) := Lib.hid (by rw [EL.out, if_pos X])
        clear X hbig
        go_wp2_with fail
        go_ret2
        exact ⟨_, by rw [E2.out]; rfl, by rw [E3.out]; exact LstI.nil _, by rw [HQ1.out]; exact HQ1.out ▸ T7.out.lo⟩
      · have d5 : decide (1023 < q - 1) = false := by simp; omega
        have HG2 : Hid (∀ i, i < j + 1 → numP s i ≤ 1024) := Lib.hid (fun i hi => by
          rcases Nat.lt_succ_iff_lt_or_eq.1 hi with h | rfl
          · exact HG.out i h
          · rw [← HQ.out]; omega)
        clear hbig
        go_wp2_with fail
        go_roundw
        case rel => have := HLT.out; exact ⟨j + 1, by omega, by go_num, HG2, T7⟩
        case measure => have := HLT.out; simp [intOf]; omega
    · obtain rfl : j = m := by omega
      have d9 : decide ((j : Int) < (j : Int)) = false := by simp
      have X : ¬ ∃ i, i < j ∧ 1024 < numP s i := fun ⟨i, hi, hb⟩ => by have := HG.out i hi; omega
      have E2 : Hid (tellE s (j : Int) = 0) := Lib.hid (by rw [E.out, if_neg X])
      have E3 : Hid (getL s (j : Int) = tellL s j) := Lib.hid (by rw [EL.out, if_neg X])
      have LL := Lib.hid (gpV_lst hm HO.out.row)
      clear X
      go_wp2_with fail
      go_ret2
      exact ⟨_, by rw [E2.out]; rfl, by rw [E3.out]; exact LL.out, by rw [HQ1.out]; exact HQ1.out ▸ HO.out.lo⟩
theorem pgetpart_any (s : ByteArray) (m : Int) (w : World) (hs : s.size ≤ 1000) (hm : -9223372036854775808 ≤ m ∧ m ≤ 9223372036854775807) :
    Calls Try.prog 14 #[.string s, .int .i64 m] w fun r w' => ∃ v, r = .returned (.tuple #[v, .int .i64 (tellE s m)]) ∧ LstI (getL s m) v w' ∧ Below w.heap.size w w' := by
  by_cases h : m < 0 ∨ 116 < m
  · have E : tellE s m = 2 := by unfold tellE; rw [if_pos h]
    refine (pgetpart_bad s m 2 hs (.inl ⟨h, rfl⟩) w).mono fun r w' hr => ?_
    obtain ⟨hr, rfl⟩ := hr
    exact ⟨_, by rw [hr, E], by unfold getL; rw [E, if_neg (by decide)]; exact LstI.nil _, Below.refl _ _⟩
  · by_cases h2 : (s.size : Int) < 2 * m
    · have E : tellE s m = 5 := by unfold tellE; rw [if_neg h, if_pos h2]
      refine (pgetpart_bad s m 5 hs (.inr ⟨h, h2, rfl⟩) w).mono fun r w' hr => ?_
      obtain ⟨hr, rfl⟩ := hr
      exact ⟨_, by rw [hr, E], by unfold getL; rw [E, if_neg (by decide)]; exact LstI.nil _, Below.refl _ _⟩
    · obtain ⟨k, rfl⟩ : ∃ k : Nat, m = (k : Int) := ⟨m.toNat, by omega⟩
      exact pgetpart_go s k hs (by omega) (by omega) w

end Go.Proofs.Ytaaagmcdbmppmaa
