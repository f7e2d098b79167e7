/- The contracts of the program's of, New, Of. -/
import Derived.Test.YtdmlmjmdpmmcgaaDkP5
import Derived.Test.YtdmlmjmdpmmcgaaSecLaws
import Derived.OwnWalk
namespace Go.Proofs.Ytdmlmjmdpmmcgaa
open Go.RowKit Go.Deep Go.Maps
set_option linter.unusedVariables false
set_option linter.unusedSimpArgs false
set_option maxRecDepth 100000

theorem info_sec : (Try.prog.info? 85).map (fun i => (i.zero, i.size, i.bytes)) = some (some (.agg (secV fun _ => 0).toArray), 64, 64) := by kernel_rfl
theorem made_rows (n : Nat) : (madeCells (secV fun _ => 0).toArray (n * 64)).toList = rowCells 64 (gB fun _ _ => 0) n := by
  unfold madeCells rowCells
  rw [Array.toList_map, Array.toList_range]
  apply List.map_congr_left
  intro k hk
  rw [secV_size]
  have h := secV_at? (fun _ => 0) (j := k % 64) (Nat.mod_lt _ (by omega))
  simp only [gB]
  rw [getElem!_def]
  simp only [List.getElem?_toArray, h]
theorem not_empty9 (s : ByteArray) (h : 0 < s.size) : s.toList.isEmpty = false := by
  have : ∀ (k i : Nat) (r : List UInt8), s.size - i = k → (i < s.size ∨ r ≠ []) → ByteArray.toList.loop s i r ≠ [] := by
    intro k
    induction k with
    | zero =>
      intro i r hk hr
      unfold ByteArray.toList.loop
      rw [if_neg (by omega)]
      rcases hr with hr | hr
      · omega
      · simpa using hr
    | succ k ih =>
      intro i r hk hr
      unfold ByteArray.toList.loop
      rw [if_pos (by omega)]
      exact ih (i + 1) _ (by omega) (.inr (by simp))
  cases e : s.toList with
  | nil => exact absurd e (this _ 0 [] rfl (.inl h))
  | cons a l => rfl
variable {base P bS bm cS : Nat} {d : Dk} {u : World}
theorem nowD_new (n : Nat) : nowD (newD n) = fun _ _ => 0 := by funext i j; simp [nowD, newD]
set_option maxHeartbeats 1600000 in
theorem pof_any (n : Nat) (hn : 1 ≤ n) (hn2 : n ≤ 4096) (u : World) : Calls Try.prog 41 #[.int .i64 (n : Int)] u fun r u' => ∃ P bS bm cS, r = .returned (.pointer (some ⟨P, 0, none⟩)) ∧ PDk u.heap.size P bS bm cS (newD n) u' ∧ Below u.heap.size u u' := by
  obtain ⟨i0, hi, hz0, hz1, hz2⟩ := info_parts info_sec
  have hmm := @run_makeMap Try.prog
  go_enter Try.func41, Try.ntmps41
  go_wp2_with (at_make; refine wpList_make_full _ rfl _ _ _ rfl u.heap.size 85 i0 (.agg (secV fun _ => 0).toArray) 64 Try.underlying79 hi hz0 hz1 .i64 .i64 _ _ n rfl rfl (by omega) (by omega) (by rw [hz2]; omega) (by unfold maxLen; omega) (Nat.le_refl _) ?_)
  intro w2 hown hgr
  rw [made_rows] at hown
  obtain ⟨b, q1, q2, q3⟩ := RowB.of hown (by omega)
  simp only [Value.ownBlock, Option.some.injEq] at q2
  subst q2
  have HB := Lib.hid ((Below.refl u.heap.size u).grown hgr (Nat.le_refl _) (by simp))
  have HR := Lib.hid q3
  have X1 := Lib.hid (heap_alloc_new w2 (.map #[] 0))
  have B1 := Lib.hid (balloc w2 (.map #[] 0))
  have S1 := Lib.hid (show (w2.alloc (.map #[] 0)).heap.size = w2.heap.size + 1 from World.size_alloc _ _)
  have X2 := Lib.hid (heap_alloc_new (w2.alloc (.map #[] 0)) (.cells #[.slice (some ⟨u.heap.size, 0, none⟩) n n, .map (some w2.heap.size), .int .i64 0, .int .i64 0, .bool false] 82))
  have B2 := Lib.hid (balloc (w2.alloc (.map #[] 0)) (.cells #[.slice (some ⟨u.heap.size, 0, none⟩) n n, .map (some w2.heap.size), .int .i64 0, .int .i64 0, .bool false] 82))
  clear hown hgr q1 q3
  go_wp2_with fail
  go_ret
  refine ⟨w2.heap.size + 1, u.heap.size, w2.heap.size, n, rfl, ?_, HB.out.trans ((B1.out.mono HB.out.size).trans (B2.out.mono (Nat.le_trans HB.out.size B1.out.size)))⟩
  have X2' := X2.out
  have B2' := B2.out
  rw [S1.out] at X2' B2'
  refine ⟨X2', ?_, MpD.none ((B2'.block _ (by omega)).trans X1.out) fun _ => rfl, by have := HB.out.size; omega, Nat.le_refl _, HB.out.size⟩
  rw [nowD_new]
  have hl := HR.out.lt
  exact (HR.out.kept (B1.out.block _ hl)).kept (B2'.block _ (by omega))
theorem pnew_bad (n : Int) (h : n < 1 ∨ 4096 < n) (u : World) : Calls Try.prog 15 #[.int .i64 n] u fun r u' => r = .returned (.tuple #[.pointer none, .int .i64 2]) ∧ u' = u := by
  go_enter Try.func15, Try.ntmps15
  by_cases h1 : n < 1
  · have d1 : decide (n < 1) = true := by simp [h1]
    go_wp2_with fail
    go_ret2
    exact ⟨rfl, rfl⟩
  · have d1 : decide (n < 1) = false := by simp; omega
    have d2 : decide (4096 < n) = true := by simp; omega
    go_wp2_with fail
    go_ret2
    exact ⟨rfl, rfl⟩
theorem pnew_any (n : Nat) (hn : 1 ≤ n) (hn2 : n ≤ 4096) (u : World) : Calls Try.prog 15 #[.int .i64 (n : Int)] u fun r u' => ∃ P bS bm cS, r = .returned (.tuple #[.pointer (some ⟨P, 0, none⟩), .int .i64 0]) ∧ PDk u.heap.size P bS bm cS (newD n) u' ∧ Below u.heap.size u u' := by
  have H := Lib.hid (pof_any n hn hn2 u)
  have d1 : decide ((n : Int) < 1) = false := by simp; omega
  have d2 : decide (4096 < (n : Int)) = false := by simp; omega
  go_enter Try.func15, Try.ntmps15
  go_wp2_with fail
  refine (H.out).mono ?_
  rintro e w1 ⟨P, bS, bm, cS, rfl, r1, k1⟩
  have R1 := Lib.hid r1
  have K1 := Lib.hid k1
  clear r1 k1
  go_wp2_with fail
  go_ret2
  exact ⟨P, bS, bm, cS, rfl, R1.out, K1.out⟩

/-- a disk of an image, of which the first j sectors are laid -/
def imgD (s : ByteArray) (n j : Nat) : Dk := { newD n with sf := fun i => if i < j then imgF s i else fun _ => 0 }
theorem img_now (s : ByteArray) (n j i : Nat) : nowD (imgD s n j) i = if i < j then imgF s i else fun _ => 0 := rfl
theorem img_step {s : ByteArray} {n j : Nat} (h : PDk base P bS bm cS (imgD s n j) u) (hj : j < n) : PDk base P bS bm cS (imgD s n (j + 1)) (u.setCells bS (j * 64) ((Lib.byteCells (s.extract (j * 64) s.size).data.toList).take (Nat.min (s.extract (j * 64) s.size).size 64))) := by
  obtain ⟨n1, n2, n3⟩ := h.ne
  have r0 : RowB 85 64 bS (gB (fillG (imgD s n j) j fun _ => 0)) n (.slice (some ⟨bS, 0, none⟩) n cS) u := h.row.congr fun i hi q hq => by
    unfold gB fillG
    by_cases e : i = j
    · subst e; rw [if_pos rfl, img_now, if_neg (Nat.lt_irrefl _)]
    · rw [if_neg e]
  have r1 := text_at (s.extract (j * 64) s.size) r0 hj
  refine ⟨(setCells_else n1 _ _ _).trans h.box, ?_, (h.mp.kept (setCells_else n3.symm _ _ _)).congr (fun _ _ => rfl) (fun i hi hs => by cases hs), h.lo⟩
  refine r1.congr fun i hi q hq => ?_
  unfold gB fillG
  rw [img_now]
  by_cases e : i = j
  · subst e
    rw [if_pos (Nat.lt_succ_self _), if_pos rfl]
    congr 1
    unfold imgF
    by_cases c : i * 64 + q < s.size
    · rw [byD_cut _ _ _ _ c, Nat.mul_comm]
    · rw [byD_out (s := s) (by omega), byD_out (by rw [ByteArray.size_extract]; omega)]
  · rw [if_neg e, img_now]
    by_cases e2 : i < j
    · rw [if_pos e2, if_pos (by omega)]
    · rw [if_neg e2, if_neg (by omega)]

end Go.Proofs.Ytdmlmjmdpmmcgaa
