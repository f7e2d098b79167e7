/- The contracts of copyOf at its six types: a row of new memory. What Copy makes, and what stays when it stores. -/
import Derived.Laws.CopyOwn
import Derived.Laws.CopyRow
import Derived.Laws.OwnMore
import Derived.Test.YthkfaeplmmlnlaaGreatRZ14
import Derived.Test.YthkfaeplmmlnlaaGreatRZ1
namespace Go.Proofs.YthkfaeplmmlnlaaGreat
open Go.RowKit
set_option linter.unusedVariables false

/-- a slice in new memory: nil, or a block of its own -/
def Fresh (C : Nat) (E : TypeId) (g : Nat → Nat → Value) (n : Nat) (v : Value) (base : Nat) (W : World) : Prop :=
  (n = 0 ∧ v = .slice none 0 0) ∨ (0 < n ∧ ∃ b, base ≤ b ∧ v = .slice (some ⟨b, 0, none⟩) n n ∧ W.heap[b]? = some (.cells (rowCells C g n).toArray E (0, 0)))
theorem Fresh.below {C : Nat} {E : TypeId} {g : Nat → Nat → Value} {n base : Nat} {v : Value} {W W2 : World} (h : Fresh C E g n v base W) (k : Below W.heap.size W W2) : Fresh C E g n v base W2 := by
  rcases h with h | ⟨h0, b, h1, h2, h3⟩
  · exact .inl h
  · exact .inr ⟨h0, b, h1, h2, by rw [k.block b (lt_of_block h3)]; exact h3⟩
theorem Fresh.sl {C : Nat} {E : TypeId} {g : Nat → Nat → Value} {n base : Nat} {v : Value} {W : World} (h : Fresh C E g n v base W) (hn : n ≤ 1000) : Sl C g n v W := by
  rcases h with ⟨rfl, rfl⟩ | ⟨h0, b, h1, rfl, h3⟩
  · exact ⟨none, 0, rfl, Nat.le_refl _, by omega, fun h => absurd h (Nat.lt_irrefl 0)⟩
  · refine ⟨_, n, rfl, Nat.le_refl _, by omega, fun _ => ⟨b, 0, rfl, lt_of_block h3, fun i hi j hj => ?_⟩⟩
    rw [Lib.cell_of_heap h3, Nat.zero_add, List.getElem?_toArray]
    exact rowCells_at g hi hj

/-- 'copy' over rows of C cells, from the head of a block of that length -/
theorem run_copyC {P : Program} (w : World) (dT sT ty elem : TypeId) (g n C : Nat) (hC : 0 < C) (a : Addr) (sCap : Nat) (cur : Array Value) (t : TypeId) (cs : List Value) (hu : P.underlying dT = some (.slice elem)) (hs : (P.info? elem).map (·.size) = some C)
    (hg : w.heap[g]? = some (.cells cur t (0, 0))) (hn : cs.length = n * C) (hsrc : ∀ j v, cs[j]? = some v → w.cell? (a.add j) = some v) (hfit : cur.size = n * C) (h1 : ∀ v ∈ cs, v.oneCell' = true) :
    (Builtin.copy_ #[dT, sT] ty #[.slice (some ⟨g, 0, none⟩) n n, .slice (some a) n sCap]).run P w = .ok (goInt n) (w.setRow g cs.toArray) := by
  have hl := run_loadCells_list (P := P) w a cs hsrc
  have hst := run_storeCells_at P g 0 t cs 0 cur w hg (by omega) h1
  have e : (cur.toList.take (0 + 0) ++ cs ++ cur.toList.drop (0 + 0 + cs.length)).toArray = cs.toArray := by
    rw [List.drop_of_length_le (by simp; omega)]
    simp
  rw [e] at hst
  cases hq : P.info? elem with
  | none => simp [hq] at hs
  | some i =>
    have hi : i.size = C := by simpa [hq] using hs
    have hm : Nat.min n n = n := Nat.min_self n
    simp [Builtin.copy_, run_underlying hu, Builtin.lenOf, Builtin.firstCells, sizeOf, typeInfo, hq, hi, hm, ← hn, hl, hst]

/-- the row that make gives -/
theorem made_cells {w : World} {base g n C : Nat} {e : TypeId} {l : List Value} (h : w.ownsRow base e C (.slice (some ⟨g, 0, none⟩) n n) n l) : ∃ cur : Array Value, w.heap[g]? = some (.cells cur e (0, 0)) ∧ cur.size = n * C := by
  rcases h.2 with ⟨h1, _⟩ | ⟨g', cap, cur, h1, _, h2, h3, h4, h5, h6⟩
  · simp at h1
  · simp only [Value.slice.injEq, Option.some.injEq, Addr.mk.injEq, and_true, true_and] at h1
    obtain ⟨rfl, rfl⟩ := h1
    exact ⟨cur, h2, by first | exact h5 | omega⟩

theorem info_copyP_any : (Tryz.prog.info? 61).map (fun i => (i.zero, i.size, i.bytes)) = some (some (.slice none 0 0), 1, 24) := by kernel_rfl
theorem size_copyP_any : (Tryz.prog.info? 61).map (·.size) = some 1 := by kernel_rfl
set_option maxHeartbeats 800000 in
theorem copyP_any (g : Nat → Nat → Value) (n : Nat) (hn : n ≤ 1000) (v : Value) (w : World) (h : Sl 1 g n v w) (h1 : ∀ i, i < n → ∀ j, j < 1 → (g i j).oneCell' = true) :
    Calls Tryz.prog 48 #[v] w fun e w' => ∃ v', e = .returned v' ∧ Fresh 1 61 g n v' w.heap.size w' ∧ Below w.heap.size w w' := by
  obtain ⟨i0, hi, hz0, hz1, hz2⟩ := info_parts info_copyP_any
  obtain ⟨ao, cap, rfl, l1, l2, k1⟩ := h
  by_cases hz : n = 0
  · subst hz
    clear k1 h1 hi hz0 hz1 hz2
    go_enter Tryz.func48, Tryz.ntmps48
    go_wp2_with fail
    go_ret
    exact ⟨_, rfl, .inl ⟨rfl, rfl⟩, Below.refl _ _⟩
  · obtain ⟨b, o, rfl, hA⟩ := k1 (by omega)
    have hne : ((n : Int) == 0) = false := by simp; omega
    have HA := Lib.hid hA
    have H1 := Lib.hid h1
    clear k1 h1 hA
    go_enter Tryz.func48, Tryz.ntmps48
    go_wp2_with (at_make; refine wpList_make_full _ rfl _ _ _ rfl w.heap.size 61 i0 (.slice none 0 0) 1 Tryz.underlying24 hi hz0 hz1 .i64 .i64 _ _ n rfl rfl (by omega) (by omega) (by rw [hz2]; omega) (by unfold maxLen; omega) (by omega) ?_)
    intro w2 hown hgr
    obtain ⟨cur, K, hsz⟩ := made_cells hown
    have hB2 : Below w.heap.size w w2 := (Below.refl _ _).grown hgr (Nat.le_refl _) (by simp)
    have hcp := run_copyC (P := Tryz.prog) w2 24 24 3 61 w.heap.size n 1 (by omega) ⟨b, o, none⟩ cap cur 61 (rowCells 1 g n) Tryz.underlying24 size_copyP_any K (rowCells_len _ _ _)
      (fun j u hj => by
        obtain ⟨q1, q2, q3, rfl⟩ := rowCells_of (by omega) g hj
        rw [add_plain]
        have := (HA.out.below hB2).2 _ q2 _ q3
        have e : o + j / 1 * 1 + j % 1 = o + j := by have := Nat.div_add_mod j 1; rw [Nat.mul_comm] at this; omega
        rw [e] at this
        exact this) hsz
      (fun u hu => by
        obtain ⟨j, hj, rfl⟩ := List.mem_iff_getElem.1 hu
        obtain ⟨q1, q2, q3, e⟩ := rowCells_of (by omega) g (List.getElem?_eq_getElem hj)
        rw [e]
        exact H1.out _ q2 _ q3)
    have HF : Hid ((w2.setRow w.heap.size (rowCells 1 g n).toArray).heap[w.heap.size]? = some (.cells (rowCells 1 g n).toArray 61 (0, 0))) := setRow_heap w2 _ _ _ _ _ K
    have HB := Lib.hid (below_setRow hB2 (Nat.le_refl w.heap.size) (rowCells 1 g n).toArray)
    generalize w2.setRow w.heap.size (rowCells 1 g n).toArray = w3 at *
    clear hown hgr K hsz hB2 hi hz0 hz1 hz2
    go_wp2_with fail
    go_ret
    exact ⟨_, rfl, .inr ⟨by omega, _, Nat.le_refl _, rfl, HF.out⟩, HB.out⟩

theorem info_copyI_any : (Tryz.prog.info? 99).map (fun i => (i.zero, i.size, i.bytes)) = some (some (.agg #[.int .i64 0, .int .i64 0, .int .i64 0, .int .i64 0]), 4, 32) := by kernel_rfl
theorem size_copyI_any : (Tryz.prog.info? 99).map (·.size) = some 4 := by kernel_rfl
set_option maxHeartbeats 800000 in
theorem copyI_any (g : Nat → Nat → Value) (n : Nat) (hn : n ≤ 1000) (v : Value) (w : World) (h : Sl 4 g n v w) (h1 : ∀ i, i < n → ∀ j, j < 4 → (g i j).oneCell' = true) :
    Calls Tryz.prog 49 #[v] w fun e w' => ∃ v', e = .returned v' ∧ Fresh 4 99 g n v' w.heap.size w' ∧ Below w.heap.size w w' := by
  obtain ⟨i0, hi, hz0, hz1, hz2⟩ := info_parts info_copyI_any
  obtain ⟨ao, cap, rfl, l1, l2, k1⟩ := h
  by_cases hz : n = 0
  · subst hz
    clear k1 h1 hi hz0 hz1 hz2
    go_enter Tryz.func49, Tryz.ntmps49
    go_wp2_with fail
    go_ret
    exact ⟨_, rfl, .inl ⟨rfl, rfl⟩, Below.refl _ _⟩
  · obtain ⟨b, o, rfl, hA⟩ := k1 (by omega)
    have hne : ((n : Int) == 0) = false := by simp; omega
    have HA := Lib.hid hA
    have H1 := Lib.hid h1
    clear k1 h1 hA
    go_enter Tryz.func49, Tryz.ntmps49
    go_wp2_with (at_make; refine wpList_make_full _ rfl _ _ _ rfl w.heap.size 99 i0 (.agg #[.int .i64 0, .int .i64 0, .int .i64 0, .int .i64 0]) 4 Tryz.underlying61 hi hz0 hz1 .i64 .i64 _ _ n rfl rfl (by omega) (by omega) (by rw [hz2]; omega) (by unfold maxLen; omega) (by omega) ?_)
    intro w2 hown hgr
    obtain ⟨cur, K, hsz⟩ := made_cells hown
    have hB2 : Below w.heap.size w w2 := (Below.refl _ _).grown hgr (Nat.le_refl _) (by simp)
    have hcp := run_copyC (P := Tryz.prog) w2 61 61 3 99 w.heap.size n 4 (by omega) ⟨b, o, none⟩ cap cur 99 (rowCells 4 g n) Tryz.underlying61 size_copyI_any K (rowCells_len _ _ _)
      (fun j u hj => by
        obtain ⟨q1, q2, q3, rfl⟩ := rowCells_of (by omega) g hj
        rw [add_plain]
        have := (HA.out.below hB2).2 _ q2 _ q3
        have e : o + j / 4 * 4 + j % 4 = o + j := by have := Nat.div_add_mod j 4; rw [Nat.mul_comm] at this; omega
        rw [e] at this
        exact this) hsz
      (fun u hu => by
        obtain ⟨j, hj, rfl⟩ := List.mem_iff_getElem.1 hu
        obtain ⟨q1, q2, q3, e⟩ := rowCells_of (by omega) g (List.getElem?_eq_getElem hj)
        rw [e]
        exact H1.out _ q2 _ q3)
    have HF : Hid ((w2.setRow w.heap.size (rowCells 4 g n).toArray).heap[w.heap.size]? = some (.cells (rowCells 4 g n).toArray 99 (0, 0))) := setRow_heap w2 _ _ _ _ _ K
    have HB := Lib.hid (below_setRow hB2 (Nat.le_refl w.heap.size) (rowCells 4 g n).toArray)
    generalize w2.setRow w.heap.size (rowCells 4 g n).toArray = w3 at *
    clear hown hgr K hsz hB2 hi hz0 hz1 hz2
    go_wp2_with fail
    go_ret
    exact ⟨_, rfl, .inr ⟨by omega, _, Nat.le_refl _, rfl, HF.out⟩, HB.out⟩

theorem info_copyL_any : (Tryz.prog.info? 63).map (fun i => (i.zero, i.size, i.bytes)) = some (some (.agg #[.int .i64 0, .slice none 0 0]), 2, 32) := by kernel_rfl
theorem size_copyL_any : (Tryz.prog.info? 63).map (·.size) = some 2 := by kernel_rfl
set_option maxHeartbeats 800000 in
theorem copyL_any (g : Nat → Nat → Value) (n : Nat) (hn : n ≤ 1000) (v : Value) (w : World) (h : Sl 2 g n v w) (h1 : ∀ i, i < n → ∀ j, j < 2 → (g i j).oneCell' = true) :
    Calls Tryz.prog 50 #[v] w fun e w' => ∃ v', e = .returned v' ∧ Fresh 2 63 g n v' w.heap.size w' ∧ Below w.heap.size w w' := by
  obtain ⟨i0, hi, hz0, hz1, hz2⟩ := info_parts info_copyL_any
  obtain ⟨ao, cap, rfl, l1, l2, k1⟩ := h
  by_cases hz : n = 0
  · subst hz
    clear k1 h1 hi hz0 hz1 hz2
    go_enter Tryz.func50, Tryz.ntmps50
    go_wp2_with fail
    go_ret
    exact ⟨_, rfl, .inl ⟨rfl, rfl⟩, Below.refl _ _⟩
  · obtain ⟨b, o, rfl, hA⟩ := k1 (by omega)
    have hne : ((n : Int) == 0) = false := by simp; omega
    have HA := Lib.hid hA
    have H1 := Lib.hid h1
    clear k1 h1 hA
    go_enter Tryz.func50, Tryz.ntmps50
    go_wp2_with (at_make; refine wpList_make_full _ rfl _ _ _ rfl w.heap.size 63 i0 (.agg #[.int .i64 0, .slice none 0 0]) 2 Tryz.underlying25 hi hz0 hz1 .i64 .i64 _ _ n rfl rfl (by omega) (by omega) (by rw [hz2]; omega) (by unfold maxLen; omega) (by omega) ?_)
    intro w2 hown hgr
    obtain ⟨cur, K, hsz⟩ := made_cells hown
    have hB2 : Below w.heap.size w w2 := (Below.refl _ _).grown hgr (Nat.le_refl _) (by simp)
    have hcp := run_copyC (P := Tryz.prog) w2 25 25 3 63 w.heap.size n 2 (by omega) ⟨b, o, none⟩ cap cur 63 (rowCells 2 g n) Tryz.underlying25 size_copyL_any K (rowCells_len _ _ _)
      (fun j u hj => by
        obtain ⟨q1, q2, q3, rfl⟩ := rowCells_of (by omega) g hj
        rw [add_plain]
        have := (HA.out.below hB2).2 _ q2 _ q3
        have e : o + j / 2 * 2 + j % 2 = o + j := by have := Nat.div_add_mod j 2; rw [Nat.mul_comm] at this; omega
        rw [e] at this
        exact this) hsz
      (fun u hu => by
        obtain ⟨j, hj, rfl⟩ := List.mem_iff_getElem.1 hu
        obtain ⟨q1, q2, q3, e⟩ := rowCells_of (by omega) g (List.getElem?_eq_getElem hj)
        rw [e]
        exact H1.out _ q2 _ q3)
    have HF : Hid ((w2.setRow w.heap.size (rowCells 2 g n).toArray).heap[w.heap.size]? = some (.cells (rowCells 2 g n).toArray 63 (0, 0))) := setRow_heap w2 _ _ _ _ _ K
    have HB := Lib.hid (below_setRow hB2 (Nat.le_refl w.heap.size) (rowCells 2 g n).toArray)
    generalize w2.setRow w.heap.size (rowCells 2 g n).toArray = w3 at *
    clear hown hgr K hsz hB2 hi hz0 hz1 hz2
    go_wp2_with fail
    go_ret
    exact ⟨_, rfl, .inr ⟨by omega, _, Nat.le_refl _, rfl, HF.out⟩, HB.out⟩

theorem info_copyW_any : (Tryz.prog.info? 3).map (fun i => (i.zero, i.size, i.bytes)) = some (some (.int .i64 0), 1, 8) := by kernel_rfl
theorem size_copyW_any : (Tryz.prog.info? 3).map (·.size) = some 1 := by kernel_rfl
set_option maxHeartbeats 800000 in
theorem copyW_any (g : Nat → Nat → Value) (n : Nat) (hn : n ≤ 1000) (v : Value) (w : World) (h : Sl 1 g n v w) (h1 : ∀ i, i < n → ∀ j, j < 1 → (g i j).oneCell' = true) :
    Calls Tryz.prog 51 #[v] w fun e w' => ∃ v', e = .returned v' ∧ Fresh 1 3 g n v' w.heap.size w' ∧ Below w.heap.size w w' := by
  obtain ⟨i0, hi, hz0, hz1, hz2⟩ := info_parts info_copyW_any
  obtain ⟨ao, cap, rfl, l1, l2, k1⟩ := h
  by_cases hz : n = 0
  · subst hz
    clear k1 h1 hi hz0 hz1 hz2
    go_enter Tryz.func51, Tryz.ntmps51
    go_wp2_with fail
    go_ret
    exact ⟨_, rfl, .inl ⟨rfl, rfl⟩, Below.refl _ _⟩
  · obtain ⟨b, o, rfl, hA⟩ := k1 (by omega)
    have hne : ((n : Int) == 0) = false := by simp; omega
    have HA := Lib.hid hA
    have H1 := Lib.hid h1
    clear k1 h1 hA
    go_enter Tryz.func51, Tryz.ntmps51
    go_wp2_with (at_make; refine wpList_make_full _ rfl _ _ _ rfl w.heap.size 3 i0 (.int .i64 0) 1 Tryz.underlying53 hi hz0 hz1 .i64 .i64 _ _ n rfl rfl (by omega) (by omega) (by rw [hz2]; omega) (by unfold maxLen; omega) (by omega) ?_)
    intro w2 hown hgr
    obtain ⟨cur, K, hsz⟩ := made_cells hown
    have hB2 : Below w.heap.size w w2 := (Below.refl _ _).grown hgr (Nat.le_refl _) (by simp)
    have hcp := run_copyC (P := Tryz.prog) w2 53 53 3 3 w.heap.size n 1 (by omega) ⟨b, o, none⟩ cap cur 3 (rowCells 1 g n) Tryz.underlying53 size_copyW_any K (rowCells_len _ _ _)
      (fun j u hj => by
        obtain ⟨q1, q2, q3, rfl⟩ := rowCells_of (by omega) g hj
        rw [add_plain]
        have := (HA.out.below hB2).2 _ q2 _ q3
        have e : o + j / 1 * 1 + j % 1 = o + j := by have := Nat.div_add_mod j 1; rw [Nat.mul_comm] at this; omega
        rw [e] at this
        exact this) hsz
      (fun u hu => by
        obtain ⟨j, hj, rfl⟩ := List.mem_iff_getElem.1 hu
        obtain ⟨q1, q2, q3, e⟩ := rowCells_of (by omega) g (List.getElem?_eq_getElem hj)
        rw [e]
        exact H1.out _ q2 _ q3)
    have HF : Hid ((w2.setRow w.heap.size (rowCells 1 g n).toArray).heap[w.heap.size]? = some (.cells (rowCells 1 g n).toArray 3 (0, 0))) := setRow_heap w2 _ _ _ _ _ K
    have HB := Lib.hid (below_setRow hB2 (Nat.le_refl w.heap.size) (rowCells 1 g n).toArray)
    generalize w2.setRow w.heap.size (rowCells 1 g n).toArray = w3 at *
    clear hown hgr K hsz hB2 hi hz0 hz1 hz2
    go_wp2_with fail
    go_ret
    exact ⟨_, rfl, .inr ⟨by omega, _, Nat.le_refl _, rfl, HF.out⟩, HB.out⟩

theorem info_copyF_any : (Tryz.prog.info? 22).map (fun i => (i.zero, i.size, i.bytes)) = some (some (.float .f64 0), 1, 8) := by kernel_rfl
theorem size_copyF_any : (Tryz.prog.info? 22).map (·.size) = some 1 := by kernel_rfl
set_option maxHeartbeats 800000 in
theorem copyF_any (g : Nat → Nat → Value) (n : Nat) (hn : n ≤ 1000) (v : Value) (w : World) (h : Sl 1 g n v w) (h1 : ∀ i, i < n → ∀ j, j < 1 → (g i j).oneCell' = true) :
    Calls Tryz.prog 52 #[v] w fun e w' => ∃ v', e = .returned v' ∧ Fresh 1 22 g n v' w.heap.size w' ∧ Below w.heap.size w w' := by
  obtain ⟨i0, hi, hz0, hz1, hz2⟩ := info_parts info_copyF_any
  obtain ⟨ao, cap, rfl, l1, l2, k1⟩ := h
  by_cases hz : n = 0
  · subst hz
    clear k1 h1 hi hz0 hz1 hz2
    go_enter Tryz.func52, Tryz.ntmps52
    go_wp2_with fail
    go_ret
    exact ⟨_, rfl, .inl ⟨rfl, rfl⟩, Below.refl _ _⟩
  · obtain ⟨b, o, rfl, hA⟩ := k1 (by omega)
    have hne : ((n : Int) == 0) = false := by simp; omega
    have HA := Lib.hid hA
    have H1 := Lib.hid h1
    clear k1 h1 hA
    go_enter Tryz.func52, Tryz.ntmps52
    go_wp2_with (at_make; refine wpList_make_full _ rfl _ _ _ rfl w.heap.size 22 i0 (.float .f64 0) 1 Tryz.underlying23 hi hz0 hz1 .i64 .i64 _ _ n rfl rfl (by omega) (by omega) (by rw [hz2]; omega) (by unfold maxLen; omega) (by omega) ?_)
    intro w2 hown hgr
    obtain ⟨cur, K, hsz⟩ := made_cells hown
    have hB2 : Below w.heap.size w w2 := (Below.refl _ _).grown hgr (Nat.le_refl _) (by simp)
    have hcp := run_copyC (P := Tryz.prog) w2 23 23 3 22 w.heap.size n 1 (by omega) ⟨b, o, none⟩ cap cur 22 (rowCells 1 g n) Tryz.underlying23 size_copyF_any K (rowCells_len _ _ _)
      (fun j u hj => by
        obtain ⟨q1, q2, q3, rfl⟩ := rowCells_of (by omega) g hj
        rw [add_plain]
        have := (HA.out.below hB2).2 _ q2 _ q3
        have e : o + j / 1 * 1 + j % 1 = o + j := by have := Nat.div_add_mod j 1; rw [Nat.mul_comm] at this; omega
        rw [e] at this
        exact this) hsz
      (fun u hu => by
        obtain ⟨j, hj, rfl⟩ := List.mem_iff_getElem.1 hu
        obtain ⟨q1, q2, q3, e⟩ := rowCells_of (by omega) g (List.getElem?_eq_getElem hj)
        rw [e]
        exact H1.out _ q2 _ q3)
    have HF : Hid ((w2.setRow w.heap.size (rowCells 1 g n).toArray).heap[w.heap.size]? = some (.cells (rowCells 1 g n).toArray 22 (0, 0))) := setRow_heap w2 _ _ _ _ _ K
    have HB := Lib.hid (below_setRow hB2 (Nat.le_refl w.heap.size) (rowCells 1 g n).toArray)
    generalize w2.setRow w.heap.size (rowCells 1 g n).toArray = w3 at *
    clear hown hgr K hsz hB2 hi hz0 hz1 hz2
    go_wp2_with fail
    go_ret
    exact ⟨_, rfl, .inr ⟨by omega, _, Nat.le_refl _, rfl, HF.out⟩, HB.out⟩

theorem info_copyE_any : (Tryz.prog.info? 78).map (fun i => (i.zero, i.size, i.bytes)) = some (some (.agg #[.float .f64 0, .int .i64 0, .int .i64 0]), 3, 24) := by kernel_rfl
theorem size_copyE_any : (Tryz.prog.info? 78).map (·.size) = some 3 := by kernel_rfl
set_option maxHeartbeats 800000 in
theorem copyE_any (g : Nat → Nat → Value) (n : Nat) (hn : n ≤ 1000) (v : Value) (w : World) (h : Sl 3 g n v w) (h1 : ∀ i, i < n → ∀ j, j < 3 → (g i j).oneCell' = true) :
    Calls Tryz.prog 53 #[v] w fun e w' => ∃ v', e = .returned v' ∧ Fresh 3 78 g n v' w.heap.size w' ∧ Below w.heap.size w w' := by
  obtain ⟨i0, hi, hz0, hz1, hz2⟩ := info_parts info_copyE_any
  obtain ⟨ao, cap, rfl, l1, l2, k1⟩ := h
  by_cases hz : n = 0
  · subst hz
    clear k1 h1 hi hz0 hz1 hz2
    go_enter Tryz.func53, Tryz.ntmps53
    go_wp2_with fail
    go_ret
    exact ⟨_, rfl, .inl ⟨rfl, rfl⟩, Below.refl _ _⟩
  · obtain ⟨b, o, rfl, hA⟩ := k1 (by omega)
    have hne : ((n : Int) == 0) = false := by simp; omega
    have HA := Lib.hid hA
    have H1 := Lib.hid h1
    clear k1 h1 hA
    go_enter Tryz.func53, Tryz.ntmps53
    go_wp2_with (at_make; refine wpList_make_full _ rfl _ _ _ rfl w.heap.size 78 i0 (.agg #[.float .f64 0, .int .i64 0, .int .i64 0]) 3 Tryz.underlying26 hi hz0 hz1 .i64 .i64 _ _ n rfl rfl (by omega) (by omega) (by rw [hz2]; omega) (by unfold maxLen; omega) (by omega) ?_)
    intro w2 hown hgr
    obtain ⟨cur, K, hsz⟩ := made_cells hown
    have hB2 : Below w.heap.size w w2 := (Below.refl _ _).grown hgr (Nat.le_refl _) (by simp)
    have hcp := run_copyC (P := Tryz.prog) w2 26 26 3 78 w.heap.size n 3 (by omega) ⟨b, o, none⟩ cap cur 78 (rowCells 3 g n) Tryz.underlying26 size_copyE_any K (rowCells_len _ _ _)
      (fun j u hj => by
        obtain ⟨q1, q2, q3, rfl⟩ := rowCells_of (by omega) g hj
        rw [add_plain]
        have := (HA.out.below hB2).2 _ q2 _ q3
        have e : o + j / 3 * 3 + j % 3 = o + j := by have := Nat.div_add_mod j 3; rw [Nat.mul_comm] at this; omega
        rw [e] at this
        exact this) hsz
      (fun u hu => by
        obtain ⟨j, hj, rfl⟩ := List.mem_iff_getElem.1 hu
        obtain ⟨q1, q2, q3, e⟩ := rowCells_of (by omega) g (List.getElem?_eq_getElem hj)
        rw [e]
        exact H1.out _ q2 _ q3)
    have HF : Hid ((w2.setRow w.heap.size (rowCells 3 g n).toArray).heap[w.heap.size]? = some (.cells (rowCells 3 g n).toArray 78 (0, 0))) := setRow_heap w2 _ _ _ _ _ K
    have HB := Lib.hid (below_setRow hB2 (Nat.le_refl w.heap.size) (rowCells 3 g n).toArray)
    generalize w2.setRow w.heap.size (rowCells 3 g n).toArray = w3 at *
    clear hown hgr K hsz hB2 hi hz0 hz1 hz2
    go_wp2_with fail
    go_ret
    exact ⟨_, rfl, .inr ⟨by omega, _, Nat.le_refl _, rfl, HF.out⟩, HB.out⟩

end Go.Proofs.YthkfaeplmmlnlaaGreat
namespace Go.Proofs.YthkfaeplmmlnlaaGreat
open Go.RowKit
set_option linter.unusedVariables false

theorem Fresh.mono {C : Nat} {E : TypeId} {g : Nat → Nat → Value} {n base base2 : Nat} {v : Value} {W : World} (h : Fresh C E g n v base W) (k : base2 ≤ base) : Fresh C E g n v base2 W := by
  rcases h with h | ⟨h0, b, h1, h2⟩
  · exact .inl h
  · exact .inr ⟨h0, b, Nat.le_trans k h1, h2⟩
/-- the slice as a value, and where it lies -/
theorem Fresh.form {C : Nat} {E : TypeId} {g : Nat → Nat → Value} {n base : Nat} {v : Value} {W : World} (h : Fresh C E g n v base W) :
    ∃ a B, v = .slice a n n ∧ (n = 0 → a = none) ∧ (0 < n → a = some ⟨B, 0, none⟩ ∧ base ≤ B ∧ W.heap[B]? = some (.cells (rowCells C g n).toArray E (0, 0))) := by
  rcases h with ⟨rfl, rfl⟩ | ⟨h0, b, h1, h2, h3⟩
  · exact ⟨none, 0, rfl, fun _ => rfl, fun h => absurd h (Nat.lt_irrefl 0)⟩
  · exact ⟨_, b, h2, fun h => absurd h (by omega), fun _ => ⟨rfl, h1, h3⟩⟩
theorem Fresh.of {C : Nat} {E : TypeId} {g : Nat → Nat → Value} {n base B : Nat} {a : Option Addr} {W : World} (h0 : n = 0 → a = none) (h : 0 < n → a = some ⟨B, 0, none⟩ ∧ base ≤ B ∧ W.heap[B]? = some (.cells (rowCells C g n).toArray E (0, 0))) : Fresh C E g n (.slice a n n) base W := by
  rcases Nat.eq_zero_or_pos n with e | e
  · subst e; rw [h0 rfl]; exact .inl ⟨rfl, rfl⟩
  · obtain ⟨e1, e2, e3⟩ := h e
    exact .inr ⟨e, B, e2, by rw [e1], e3⟩
theorem Fresh.set {C : Nat} {E T : TypeId} {g : Nat → Nat → Value} {n base B : Nat} {v : Value} {W : World} {cs : Array Value} {fr : Nat × Nat} (h : Fresh C E g n v base W) (hB : W.heap[B]? = some (.cells cs T fr)) (hT : T ≠ E) (i : Nat) (u : Value) :
    Fresh C E g n v base (W.setCell ⟨B, i, none⟩ u) := by
  rcases h with h | ⟨h0, b, h1, h2, h3⟩
  · exact .inl h
  · refine .inr ⟨h0, b, h1, h2, ?_⟩
    rw [Below.heap_setCell _ _ _ _ (by rintro (rfl : b = B); rw [hB] at h3; simp at h3; exact hT h3.2.1), h3]

theorem rowCells_set {C : Nat} (hC : 0 < C) (g g2 : Nat → Nat → Value) (n k : Nat) (u : Value) (h : ∀ i, i < n → ∀ j, j < C → g2 i j = if i * C + j = k then u else g i j) :
    (rowCells C g n).toArray.setIfInBounds k u = (rowCells C g2 n).toArray := by
  apply Array.ext'
  rw [Array.toList_setIfInBounds]
  apply List.ext_getElem?
  intro q
  rw [List.getElem?_set]
  simp only
  by_cases hq : q < n * C
  · have e : q / C * C + q % C = q := by have := Nat.div_add_mod q C; rw [Nat.mul_comm] at this; exact this
    have a1 := rowCells_at (n := n) g ((Nat.div_lt_iff_lt_mul hC).2 hq) (Nat.mod_lt q hC)
    have a2 := rowCells_at (n := n) g2 ((Nat.div_lt_iff_lt_mul hC).2 hq) (Nat.mod_lt q hC)
    have e2 := h _ ((Nat.div_lt_iff_lt_mul hC).2 hq) _ (Nat.mod_lt q hC)
    rw [e] at a1 a2 e2
    rw [a2, e2]
    by_cases hk : k = q
    · subst hk; rw [if_pos rfl, if_pos (by rw [rowCells_len]; exact hq), if_pos rfl]
    · rw [if_neg hk, if_neg (fun h => hk h.symm), a1]
  · have b1 : (rowCells C g n)[q]? = none := List.getElem?_eq_none (by rw [rowCells_len]; omega)
    have b2 : (rowCells C g2 n)[q]? = none := List.getElem?_eq_none (by rw [rowCells_len]; omega)
    rw [b2, b1]
    split
    · rw [if_neg (by rw [rowCells_len]; omega)]
    · rfl

/-- new programs -/
def NewP (n : Nat) (pl : Nat → Nat) (pr : Nat → Nat → I4) (v : Value) (base : Nat) (W : World) : Prop :=
  ∃ g, Fresh 1 61 (gV g) n v base W ∧ ∀ i, i < n → Fresh 4 99 (gI (pr i)) (pl i) (g i) base W
/-- new processes -/
def NewL (n : Nat) (lp : Nat → Int) (wl : Nat → Nat) (wd : Nat → Nat → Int) (v : Value) (base : Nat) (W : World) : Prop :=
  ∃ g, Fresh 2 63 (gL lp g) n v base W ∧ ∀ i, i < n → Fresh 1 3 (gW (wd i)) (wl i) (g i) base W
theorem NewP.below {n base : Nat} {pl : Nat → Nat} {pr : Nat → Nat → I4} {v : Value} {W W2 : World} (h : NewP n pl pr v base W) (k : Below W.heap.size W W2) : NewP n pl pr v base W2 := by
  obtain ⟨g, h1, h2⟩ := h
  exact ⟨g, h1.below k, fun i hi => (h2 i hi).below k⟩
theorem NewL.below {n base : Nat} {lp : Nat → Int} {wl : Nat → Nat} {wd : Nat → Nat → Int} {v : Value} {W W2 : World} (h : NewL n lp wl wd v base W) (k : Below W.heap.size W W2) : NewL n lp wl wd v base W2 := by
  obtain ⟨g, h1, h2⟩ := h
  exact ⟨g, h1.below k, fun i hi => (h2 i hi).below k⟩
theorem NewP.set {n base B : Nat} {pl : Nat → Nat} {pr : Nat → Nat → I4} {v : Value} {W : World} {cs : Array Value} {T : TypeId} {fr : Nat × Nat} (h : NewP n pl pr v base W) (hB : W.heap[B]? = some (.cells cs T fr)) (h1 : T ≠ 61) (h2 : T ≠ 99) (i : Nat) (u : Value) : NewP n pl pr v base (W.setCell ⟨B, i, none⟩ u) := by
  obtain ⟨g, k1, k2⟩ := h
  exact ⟨g, k1.set hB h1 i u, fun q hq => (k2 q hq).set hB h2 i u⟩
theorem NewL.set {n base B : Nat} {lp : Nat → Int} {wl : Nat → Nat} {wd : Nat → Nat → Int} {v : Value} {W : World} {cs : Array Value} {T : TypeId} {fr : Nat × Nat} (h : NewL n lp wl wd v base W) (hB : W.heap[B]? = some (.cells cs T fr)) (h1 : T ≠ 63) (h2 : T ≠ 3) (i : Nat) (u : Value) : NewL n lp wl wd v base (W.setCell ⟨B, i, none⟩ u) := by
  obtain ⟨g, k1, k2⟩ := h
  exact ⟨g, k1.set hB h1 i u, fun q hq => (k2 q hq).set hB h2 i u⟩

/-- what is no greater than a light model -/
structure Small (m : Mdl) : Prop where
  d : m.nd ≤ 1000
  p : m.np ≤ 1000
  l : m.nl ≤ 1000
  i : m.ni ≤ 1000
  pl : ∀ i, i < m.np → m.pl i ≤ 1000
  wl : ∀ i, i < m.nl → m.wl i ≤ 1000
/-- a model in new memory -/
structure NewM (m : Mdl) (vd vp vl vi : Value) (base : Nat) (W : World) : Prop where
  d : Fresh 1 22 (gF m.d) m.nd vd base W
  p : NewP m.np m.pl m.pr vp base W
  l : NewL m.nl m.lp m.wl m.wd vl base W
  i : Fresh 3 78 (gE m.ev) m.ni vi base W
theorem NewM.mdl {m : Mdl} {vd vp vl vi : Value} {base : Nat} {W : World} (h : NewM m vd vp vl vi base W) (s : Small m) : MdlAt m vd vp vl vi W := by
  obtain ⟨gp, p1, p2⟩ := h.p
  obtain ⟨gl, l1, l2⟩ := h.l
  exact ⟨h.d.sl s.d, ⟨gp, p1.sl s.p, fun i hi => (p2 i hi).sl (s.pl i hi)⟩, ⟨gl, l1.sl s.l, fun i hi => (l2 i hi).sl (s.wl i hi)⟩, h.i.sl s.i⟩
theorem NewM.below {m : Mdl} {vd vp vl vi : Value} {base : Nat} {W W2 : World} (h : NewM m vd vp vl vi base W) (k : Below W.heap.size W W2) : NewM m vd vp vl vi base W2 := ⟨h.d.below k, h.p.below k, h.l.below k, h.i.below k⟩

/-- while Copy runs: what lay ahead is as it was; its box and its result's block -/
structure Keep (w : World) (cs : Array Value) (W : World) : Prop where
  bel : Below w.heap.size w W
  box : W.heap[w.heap.size]? = some (.cells cs 28 (0, 0))
  res : W.heap[w.heap.size + 1]? = some (.cells #[.int .i64 0, .float .f64 0, .slice none 0 0, .slice none 0 0, .slice none 0 0, .slice none 0 0] 28 (0, 0))
theorem Keep.on {w W W2 : World} {cs : Array Value} (h : Keep w cs W) (k : Below W.heap.size W W2) : Keep w cs W2 :=
  ⟨bthen h.bel k, by rw [k.block _ (lt_of_block h.box)]; exact h.box, by rw [k.block _ (lt_of_block h.res)]; exact h.res⟩
theorem Keep.set {w W : World} {cs cs2 : Array Value} {B : Nat} {T : TypeId} {fr : Nat × Nat} (h : Keep w cs W) (hB : W.heap[B]? = some (.cells cs2 T fr)) (hT : T ≠ 28) (hb : w.heap.size ≤ B) (i : Nat) (u : Value) : Keep w cs (W.setCell ⟨B, i, none⟩ u) := by
  have n1 : w.heap.size ≠ B := by rintro rfl; have := h.box; rw [hB] at this; simp at this; exact hT this.2.1
  have n2 : w.heap.size + 1 ≠ B := by rintro rfl; have := h.res; rw [hB] at this; simp at this; exact hT this.2.1
  exact ⟨h.bel.setCell hb u, by rw [Below.heap_setCell _ _ _ _ n1]; exact h.box, by rw [Below.heap_setCell _ _ _ _ n2]; exact h.res⟩
theorem Keep.new (w : World) (c0 c1 c2 c3 c4 c5 : Value) : Keep w #[c0, c1, c2, c3, c4, c5] ((w.alloc (.cells #[c0, c1, c2, c3, c4, c5] 28)).alloc (.cells #[.int .i64 0, .float .f64 0, .slice none 0 0, .slice none 0 0, .slice none 0 0, .slice none 0 0] 28)) := by
  have hs : (w.alloc (.cells #[c0, c1, c2, c3, c4, c5] 28)).heap.size = w.heap.size + 1 := by show (w.heap.push _).size = _; simp
  refine ⟨bthen (balloc _ _) (balloc _ _), ?_, ?_⟩
  · rw [Below.heap_alloc _ _ _ (by rw [hs]; omega)]; exact heap_alloc_new _ _
  · rw [← hs]; exact heap_alloc_new _ _
theorem Keep.cells {w W : World} {c0 c1 c2 c3 c4 c5 : Value} (h : Keep w #[c0, c1, c2, c3, c4, c5] W) : Box6 c0 c1 c2 c3 c4 c5 w.heap.size W := by
  refine ⟨lt_of_block h.box, ?_, ?_, ?_, ?_, ?_, ?_⟩ <;> (rw [Lib.cell_of_heap h.box]; rfl)

/-- one program of the new list is new -/
theorem newP_step {np : Nat} {pl : Nat → Nat} {pr : Nat → Nat → I4} {g0 g : Nat → Value} {base B j : Nat} {v : Value} {W : World} (hj : j < np)
    (h1 : ∀ i, i < j → Fresh 4 99 (gI (pr i)) (pl i) (g i) base W) (h2 : ∀ i, j ≤ i → g i = g0 i) (hB : W.heap[B]? = some (.cells (rowCells 1 (gV g) np).toArray 61 (0, 0)))
    (hv : Fresh 4 99 (gI (pr j)) (pl j) v base W) :
    (∀ i, i < j + 1 → Fresh 4 99 (gI (pr i)) (pl i) ((fun i => if i = j then v else g i) i) base (W.setCell ⟨B, j, none⟩ v)) ∧ (∀ i, j + 1 ≤ i → (fun i => if i = j then v else g i) i = g0 i)
    ∧ (W.setCell ⟨B, j, none⟩ v).heap[B]? = some (.cells (rowCells 1 (gV fun i => if i = j then v else g i) np).toArray 61 (0, 0)) := by
  refine ⟨fun i hi => ?_, fun i hi => ?_, ?_⟩
  · dsimp only
    by_cases e : i = j
    · rw [if_pos e]; subst e; exact hv.set hB (by decide) _ _
    · rw [if_neg e]; exact (h1 i (by omega)).set hB (by decide) _ _
  · dsimp only
    rw [if_neg (by omega)]; exact h2 i (by omega)
  · rw [Joins.block_setCell hB, rowCells_set (by omega) (gV g) (gV fun i => if i = j then v else g i) np j v]
    intro i hi q hq
    rcases (show q = 0 by omega) with rfl
    by_cases e : i = j
    · simp [gV, e]
    · simp [gV, e]
/-- one process of the new list is new -/
theorem newL_step {nl : Nat} {lp : Nat → Int} {wl : Nat → Nat} {wd : Nat → Nat → Int} {g0 g : Nat → Value} {base B j : Nat} {v : Value} {W : World} (hj : j < nl)
    (h1 : ∀ i, i < j → Fresh 1 3 (gW (wd i)) (wl i) (g i) base W) (h2 : ∀ i, j ≤ i → g i = g0 i) (hB : W.heap[B]? = some (.cells (rowCells 2 (gL lp g) nl).toArray 63 (0, 0)))
    (hv : Fresh 1 3 (gW (wd j)) (wl j) v base W) :
    (∀ i, i < j + 1 → Fresh 1 3 (gW (wd i)) (wl i) ((fun i => if i = j then v else g i) i) base (W.setCell ⟨B, j * 2 + 1, none⟩ v)) ∧ (∀ i, j + 1 ≤ i → (fun i => if i = j then v else g i) i = g0 i)
    ∧ (W.setCell ⟨B, j * 2 + 1, none⟩ v).heap[B]? = some (.cells (rowCells 2 (gL lp fun i => if i = j then v else g i) nl).toArray 63 (0, 0)) := by
  refine ⟨fun i hi => ?_, fun i hi => ?_, ?_⟩
  · dsimp only
    by_cases e : i = j
    · rw [if_pos e]; subst e; exact hv.set hB (by decide) _ _
    · rw [if_neg e]; exact (h1 i (by omega)).set hB (by decide) _ _
  · dsimp only
    rw [if_neg (by omega)]; exact h2 i (by omega)
  · rw [Joins.block_setCell hB, rowCells_set (by omega) (gL lp g) (gL lp fun i => if i = j then v else g i) nl (j * 2 + 1) v]
    intro i hi q hq
    rcases (show q = 0 ∨ q = 1 by omega) with rfl | rfl
    · rw [if_neg (by omega)]; rfl
    · by_cases e : i = j
      · simp [gL, e]
      · rw [if_neg (by omega)]; simp [gL, e]

/-- six cells of one block are stored -/
def six (W : World) (B : Nat) (u0 u1 u2 u3 u4 u5 : Value) : World := (((((W.setCell ⟨B, 0, none⟩ u0).setCell ⟨B, 1, none⟩ u1).setCell ⟨B, 2, none⟩ u2).setCell ⟨B, 3, none⟩ u3).setCell ⟨B, 4, none⟩ u4).setCell ⟨B, 5, none⟩ u5
theorem six_heap {W : World} {B : Nat} {c0 c1 c2 c3 c4 c5 : Value} {T : TypeId} {fr : Nat × Nat} (hB : W.heap[B]? = some (.cells #[c0, c1, c2, c3, c4, c5] T fr)) (u0 u1 u2 u3 u4 u5 : Value) : (six W B u0 u1 u2 u3 u4 u5).heap[B]? = some (.cells #[u0, u1, u2, u3, u4, u5] T fr) := by
  unfold six
  rw [Joins.block_setCell (Joins.block_setCell (Joins.block_setCell (Joins.block_setCell (Joins.block_setCell (Joins.block_setCell hB u0) u1) u2) u3) u4) u5]
  rfl
theorem six_other {W : World} {B b : Nat} (h : b ≠ B) (u0 u1 u2 u3 u4 u5 : Value) : (six W B u0 u1 u2 u3 u4 u5).heap[b]? = W.heap[b]? := by
  unfold six
  rw [Below.heap_setCell _ _ _ _ h, Below.heap_setCell _ _ _ _ h, Below.heap_setCell _ _ _ _ h, Below.heap_setCell _ _ _ _ h, Below.heap_setCell _ _ _ _ h, Below.heap_setCell _ _ _ _ h]
theorem six_below {base : Nat} {w W : World} {B : Nat} (h : Below base w W) (hb : base ≤ B) (u0 u1 u2 u3 u4 u5 : Value) : Below base w (six W B u0 u1 u2 u3 u4 u5) :=
  (((((h.setCell (p := ⟨B, 0, none⟩) hb u0).setCell (p := ⟨B, 1, none⟩) hb u1).setCell (p := ⟨B, 2, none⟩) hb u2).setCell (p := ⟨B, 3, none⟩) hb u3).setCell (p := ⟨B, 4, none⟩) hb u4).setCell (p := ⟨B, 5, none⟩) hb u5
theorem six_fresh {C : Nat} {E T : TypeId} {g : Nat → Nat → Value} {n base B : Nat} {v : Value} {W : World} {cs : Array Value} {fr : Nat × Nat} (h : Fresh C E g n v base W) (hB : W.heap[B]? = some (.cells cs T fr)) (hT : T ≠ E) (u0 u1 u2 u3 u4 u5 : Value) : Fresh C E g n v base (six W B u0 u1 u2 u3 u4 u5) := by
  rcases h with h | ⟨h0, b, h1, h2, h3⟩
  · exact .inl h
  · refine .inr ⟨h0, b, h1, h2, ?_⟩
    rw [six_other (by rintro (rfl : b = B); rw [hB] at h3; simp at h3; exact hT h3.2.1), h3]
theorem six_newP {n base B : Nat} {pl : Nat → Nat} {pr : Nat → Nat → I4} {v : Value} {W : World} {cs : Array Value} {fr : Nat × Nat} (h : NewP n pl pr v base W) (hB : W.heap[B]? = some (.cells cs 28 fr)) (u0 u1 u2 u3 u4 u5 : Value) : NewP n pl pr v base (six W B u0 u1 u2 u3 u4 u5) := by
  obtain ⟨g, k1, k2⟩ := h
  exact ⟨g, six_fresh k1 hB (by decide) .., fun q hq => six_fresh (k2 q hq) hB (by decide) ..⟩
theorem six_newL {n base B : Nat} {lp : Nat → Int} {wl : Nat → Nat} {wd : Nat → Nat → Int} {v : Value} {W : World} {cs : Array Value} {fr : Nat × Nat} (h : NewL n lp wl wd v base W) (hB : W.heap[B]? = some (.cells cs 28 fr)) (u0 u1 u2 u3 u4 u5 : Value) : NewL n lp wl wd v base (six W B u0 u1 u2 u3 u4 u5) := by
  obtain ⟨g, k1, k2⟩ := h
  exact ⟨g, six_fresh k1 hB (by decide) .., fun q hq => six_fresh (k2 q hq) hB (by decide) ..⟩

/-- the loop over programs -/
def LoopP (w : World) (cs : Array Value) (B np : Nat) (pl : Nat → Nat) (pr : Nat → Nat → I4) (g0 : Nat → Value) (j : Nat) (W : World) : Prop :=
  ∃ g, (∀ i, i < j → Fresh 4 99 (gI (pr i)) (pl i) (g i) w.heap.size W) ∧ (∀ i, j ≤ i → g i = g0 i) ∧ (0 < np → W.heap[B]? = some (.cells (rowCells 1 (gV g) np).toArray 61 (0, 0))) ∧ Keep w cs W
/-- the loop over processes -/
def LoopL (w : World) (cs : Array Value) (B nl : Nat) (lp : Nat → Int) (wl : Nat → Nat) (wd : Nat → Nat → Int) (g0 : Nat → Value) (np : Nat) (pl : Nat → Nat) (pr : Nat → Nat → I4) (vp : Value) (j : Nat) (W : World) : Prop :=
  ∃ g, (∀ i, i < j → Fresh 1 3 (gW (wd i)) (wl i) (g i) w.heap.size W) ∧ (∀ i, j ≤ i → g i = g0 i) ∧ (0 < nl → W.heap[B]? = some (.cells (rowCells 2 (gL lp g) nl).toArray 63 (0, 0))) ∧ Keep w cs W ∧ NewP np pl pr vp w.heap.size W

end Go.Proofs.YthkfaeplmmlnlaaGreat
