/- The contracts of copyOf at its six types: a row of new memory. -/
import Derived.Test.YtebopfcealhiaaaModelSmall
import Derived.Laws.CopyOwn
import Derived.Laws.CopyRow
import Derived.Laws.OwnMore
namespace Go.Proofs.Ytebopfcealhiaaa
open Go.RowKit
set_option linter.unusedVariables false

/-- the cells of n rows of C -/
def rowCells (C : Nat) (g : Nat → Nat → Value) (n : Nat) : List Value := (List.range (n * C)).map fun k => g (k / C) (k % C)
theorem rowCells_len (C : Nat) (g : Nat → Nat → Value) (n : Nat) : (rowCells C g n).length = n * C := by simp [rowCells]
theorem rowCells_at {C : Nat} (g : Nat → Nat → Value) {n i j : Nat} (hi : i < n) (hj : j < C) : (rowCells C g n)[i * C + j]? = some (g i j) := by
  have h : i * C + j < n * C := by
    have : (i + 1) * C ≤ n * C := Nat.mul_le_mul_right C hi
    rw [Nat.add_mul, Nat.one_mul] at this
    omega
  have e1 : (i * C + j) / C = i := by
    rw [Nat.mul_comm, Nat.mul_add_div (by omega), Nat.div_eq_of_lt hj]; omega
  have e2 : (i * C + j) % C = j := by
    rw [Nat.mul_comm, Nat.mul_add_mod]; exact Nat.mod_eq_of_lt hj
  simp [rowCells, h, e1, e2]
theorem rowCells_of {C : Nat} (hC : 0 < C) (g : Nat → Nat → Value) {n k : Nat} {v : Value} (h : (rowCells C g n)[k]? = some v) : k < n * C ∧ k / C < n ∧ k % C < C ∧ v = g (k / C) (k % C) := by
  have hk : k < n * C := by
    rcases Nat.lt_or_ge k (n * C) with h' | h'
    · exact h'
    · rw [List.getElem?_eq_none (by rw [rowCells_len]; exact h')] at h; cases h
  refine ⟨hk, (Nat.div_lt_iff_lt_mul hC).2 hk, Nat.mod_lt _ hC, ?_⟩
  simp [rowCells, hk] at h
  exact h.symm

/-- a slice in new memory: nil, or a block of its own -/
def Fresh (C : Nat) (E : TypeId) (g : Nat → Nat → Value) (n : Nat) (v : Value) (base : Nat) (W : World) : Prop :=
  (n = 0 ∧ v = .slice none 0 0) ∨ (0 < n ∧ ∃ b, base ≤ b ∧ v = .slice (some ⟨b, 0, none⟩) n n ∧ W.heap[b]? = some (.cells (rowCells C g n).toArray E (0, 0)))
theorem Fresh.below {C : Nat} {E : TypeId} {g : Nat → Nat → Value} {n base : Nat} {v : Value} {W W2 : World} (h : Fresh C E g n v base W) (k : Below W.heap.size W W2) : Fresh C E g n v base W2 := by
  rcases h with h | ⟨h0, b, h1, h2, h3⟩
  · exact .inl h
  · exact .inr ⟨h0, b, h1, h2, by rw [k.block b (lt_of_block h3)]; exact h3⟩
theorem Fresh.sl {C : Nat} {E : TypeId} {g : Nat → Nat → Value} {n base : Nat} {v : Value} {W : World} (h : Fresh C E g n v base W) (hn : n ≤ 1000) : Sl C g n v W := by
  rcases h with ⟨rfl, rfl⟩ | ⟨h0, b, h1, rfl, h3⟩
  · exact ⟨none, 0, rfl, Nat.le_refl _, by omega, fun h => absurd h (Nat.lt_irrefl 0)⟩
  · refine ⟨_, n, rfl, Nat.le_refl _, by omega, fun _ => ⟨b, 0, rfl, lt_of_block h3, fun i hi j hj => ?_⟩⟩
    rw [Lib.cell_of_heap h3, Nat.zero_add, List.getElem?_toArray]
    exact rowCells_at g hi hj

/-- 'copy' over rows of C cells, from the head of a block of that length -/
theorem run_copyC {P : Program} (w : World) (dT sT ty elem : TypeId) (g n C : Nat) (hC : 0 < C) (a : Addr) (sCap : Nat) (cur : Array Value) (t : TypeId) (cs : List Value) (hu : P.underlying dT = some (.slice elem)) (hs : (P.info? elem).map (·.size) = some C)
    (hg : w.heap[g]? = some (.cells cur t (0, 0))) (hn : cs.length = n * C) (hsrc : ∀ j v, cs[j]? = some v → w.cell? (a.add j) = some v) (hfit : cur.size = n * C) (h1 : ∀ v ∈ cs, v.oneCell' = true) :
    (Builtin.copy_ #[dT, sT] ty #[.slice (some ⟨g, 0, none⟩) n n, .slice (some a) n sCap]).run P w = .ok (goInt n) (w.setRow g cs.toArray) := by
  have hl := run_loadCells_list (P := P) w a cs hsrc
  have hst := run_storeCells_at P g 0 t cs 0 cur w hg (by omega) h1
  have e : (cur.toList.take (0 + 0) ++ cs ++ cur.toList.drop (0 + 0 + cs.length)).toArray = cs.toArray := by
    rw [List.drop_of_length_le (by simp; omega)]
    simp
  rw [e] at hst
  cases hq : P.info? elem with
  | none => simp [hq] at hs
  | some i =>
    have hi : i.size = C := by simpa [hq] using hs
    have hm : Nat.min n n = n := Nat.min_self n
    simp [Builtin.copy_, run_underlying hu, Builtin.lenOf, Builtin.firstCells, sizeOf, typeInfo, hq, hi, hm, ← hn, hl, hst]

/-- the row that make gives -/
theorem made_cells {w : World} {base g n C : Nat} {e : TypeId} {l : List Value} (h : w.ownsRow base e C (.slice (some ⟨g, 0, none⟩) n n) n l) : ∃ cur : Array Value, w.heap[g]? = some (.cells cur e (0, 0)) ∧ cur.size = n * C := by
  rcases h.2 with ⟨h1, _⟩ | ⟨g', cap, cur, h1, _, h2, h3, h4, h5, h6⟩
  · simp at h1
  · simp only [Value.slice.injEq, Option.some.injEq, Addr.mk.injEq, and_true, true_and] at h1
    obtain ⟨rfl, rfl⟩ := h1
    exact ⟨cur, h2, by first | exact h5 | omega⟩

theorem info_copyP_any : (Try.prog.info? 38).map (fun i => (i.zero, i.size, i.bytes)) = some (some (.slice none 0 0), 1, 24) := by kernel_rfl
theorem size_copyP_any : (Try.prog.info? 38).map (·.size) = some 1 := by kernel_rfl
set_option maxHeartbeats 800000 in
theorem copyP_any (g : Nat → Nat → Value) (n : Nat) (hn : n ≤ 1000) (v : Value) (w : World) (h : Sl 1 g n v w) (h1 : ∀ i, i < n → ∀ j, j < 1 → (g i j).oneCell' = true) :
    Calls Try.prog 30 #[v] w fun e w' => ∃ v', e = .returned v' ∧ Fresh 1 38 g n v' w.heap.size w' ∧ Below w.heap.size w w' := by
  obtain ⟨i0, hi, hz0, hz1, hz2⟩ := info_parts info_copyP_any
  obtain ⟨ao, cap, rfl, l1, l2, k1⟩ := h
  by_cases hz : n = 0
  · subst hz
    clear k1 h1 hi hz0 hz1 hz2
    go_enter Try.func30, Try.ntmps30
    go_wp2_with fail
    go_ret
    exact ⟨_, rfl, .inl ⟨rfl, rfl⟩, Below.refl _ _⟩
  · obtain ⟨b, o, rfl, hA⟩ := k1 (by omega)
    have hne : ((n : Int) == 0) = false := by simp; omega
    have HA := Lib.hid hA
    have H1 := Lib.hid h1
    clear k1 h1 hA
    go_enter Try.func30, Try.ntmps30
    go_wp2_with (at_make; refine wpList_make_full _ rfl _ _ _ rfl w.heap.size 38 i0 (.slice none 0 0) 1 Try.underlying24 hi hz0 hz1 .i64 .i64 _ _ n rfl rfl (by omega) (by omega) (by rw [hz2]; omega) (by unfold maxLen; omega) (by omega) ?_)
    intro w2 hown hgr
    obtain ⟨cur, K, hsz⟩ := made_cells hown
    have hB2 : Below w.heap.size w w2 := (Below.refl _ _).grown hgr (Nat.le_refl _) (by simp)
    have hcp := run_copyC (P := Try.prog) w2 24 24 3 38 w.heap.size n 1 (by omega) ⟨b, o, none⟩ cap cur 38 (rowCells 1 g n) Try.underlying24 size_copyP_any K (rowCells_len _ _ _)
      (fun j u hj => by
        obtain ⟨q1, q2, q3, rfl⟩ := rowCells_of (by omega) g hj
        rw [add_plain]
        have := (HA.out.below hB2).2 _ q2 _ q3
        have e : o + j / 1 * 1 + j % 1 = o + j := by have := Nat.div_add_mod j 1; rw [Nat.mul_comm] at this; omega
        rw [e] at this
        exact this) hsz
      (fun u hu => by
        obtain ⟨j, hj, rfl⟩ := List.mem_iff_getElem.1 hu
        obtain ⟨q1, q2, q3, e⟩ := rowCells_of (by omega) g (List.getElem?_eq_getElem hj)
        rw [e]
        exact H1.out _ q2 _ q3)
    have HF : Hid ((w2.setRow w.heap.size (rowCells 1 g n).toArray).heap[w.heap.size]? = some (.cells (rowCells 1 g n).toArray 38 (0, 0))) := setRow_heap w2 _ _ _ _ _ K
    have HB := Lib.hid (below_setRow hB2 (Nat.le_refl w.heap.size) (rowCells 1 g n).toArray)
    generalize w2.setRow w.heap.size (rowCells 1 g n).toArray = w3 at *
    clear hown hgr K hsz hB2 hi hz0 hz1 hz2
    go_wp2_with fail
    go_ret
    exact ⟨_, rfl, .inr ⟨by omega, _, Nat.le_refl _, rfl, HF.out⟩, HB.out⟩

theorem info_copyI_any : (Try.prog.info? 34).map (fun i => (i.zero, i.size, i.bytes)) = some (some (.agg #[.int .i64 0, .int .i64 0, .int .i64 0, .int .i64 0]), 4, 32) := by kernel_rfl
theorem size_copyI_any : (Try.prog.info? 34).map (·.size) = some 4 := by kernel_rfl
set_option maxHeartbeats 800000 in
theorem copyI_any (g : Nat → Nat → Value) (n : Nat) (hn : n ≤ 1000) (v : Value) (w : World) (h : Sl 4 g n v w) (h1 : ∀ i, i < n → ∀ j, j < 4 → (g i j).oneCell' = true) :
    Calls Try.prog 31 #[v] w fun e w' => ∃ v', e = .returned v' ∧ Fresh 4 34 g n v' w.heap.size w' ∧ Below w.heap.size w w' := by
  obtain ⟨i0, hi, hz0, hz1, hz2⟩ := info_parts info_copyI_any
  obtain ⟨ao, cap, rfl, l1, l2, k1⟩ := h
  by_cases hz : n = 0
  · subst hz
    clear k1 h1 hi hz0 hz1 hz2
    go_enter Try.func31, Try.ntmps31
    go_wp2_with fail
    go_ret
    exact ⟨_, rfl, .inl ⟨rfl, rfl⟩, Below.refl _ _⟩
  · obtain ⟨b, o, rfl, hA⟩ := k1 (by omega)
    have hne : ((n : Int) == 0) = false := by simp; omega
    have HA := Lib.hid hA
    have H1 := Lib.hid h1
    clear k1 h1 hA
    go_enter Try.func31, Try.ntmps31
    go_wp2_with (at_make; refine wpList_make_full _ rfl _ _ _ rfl w.heap.size 34 i0 (.agg #[.int .i64 0, .int .i64 0, .int .i64 0, .int .i64 0]) 4 Try.underlying38 hi hz0 hz1 .i64 .i64 _ _ n rfl rfl (by omega) (by omega) (by rw [hz2]; omega) (by unfold maxLen; omega) (by omega) ?_)
    intro w2 hown hgr
    obtain ⟨cur, K, hsz⟩ := made_cells hown
    have hB2 : Below w.heap.size w w2 := (Below.refl _ _).grown hgr (Nat.le_refl _) (by simp)
    have hcp := run_copyC (P := Try.prog) w2 38 38 3 34 w.heap.size n 4 (by omega) ⟨b, o, none⟩ cap cur 34 (rowCells 4 g n) Try.underlying38 size_copyI_any K (rowCells_len _ _ _)
      (fun j u hj => by
        obtain ⟨q1, q2, q3, rfl⟩ := rowCells_of (by omega) g hj
        rw [add_plain]
        have := (HA.out.below hB2).2 _ q2 _ q3
        have e : o + j / 4 * 4 + j % 4 = o + j := by have := Nat.div_add_mod j 4; rw [Nat.mul_comm] at this; omega
        rw [e] at this
        exact this) hsz
      (fun u hu => by
        obtain ⟨j, hj, rfl⟩ := List.mem_iff_getElem.1 hu
        obtain ⟨q1, q2, q3, e⟩ := rowCells_of (by omega) g (List.getElem?_eq_getElem hj)
        rw [e]
        exact H1.out _ q2 _ q3)
    have HF : Hid ((w2.setRow w.heap.size (rowCells 4 g n).toArray).heap[w.heap.size]? = some (.cells (rowCells 4 g n).toArray 34 (0, 0))) := setRow_heap w2 _ _ _ _ _ K
    have HB := Lib.hid (below_setRow hB2 (Nat.le_refl w.heap.size) (rowCells 4 g n).toArray)
    generalize w2.setRow w.heap.size (rowCells 4 g n).toArray = w3 at *
    clear hown hgr K hsz hB2 hi hz0 hz1 hz2
    go_wp2_with fail
    go_ret
    exact ⟨_, rfl, .inr ⟨by omega, _, Nat.le_refl _, rfl, HF.out⟩, HB.out⟩

theorem info_copyL_any : (Try.prog.info? 41).map (fun i => (i.zero, i.size, i.bytes)) = some (some (.agg #[.int .i64 0, .slice none 0 0]), 2, 32) := by kernel_rfl
theorem size_copyL_any : (Try.prog.info? 41).map (·.size) = some 2 := by kernel_rfl
set_option maxHeartbeats 800000 in
theorem copyL_any (g : Nat → Nat → Value) (n : Nat) (hn : n ≤ 1000) (v : Value) (w : World) (h : Sl 2 g n v w) (h1 : ∀ i, i < n → ∀ j, j < 2 → (g i j).oneCell' = true) :
    Calls Try.prog 32 #[v] w fun e w' => ∃ v', e = .returned v' ∧ Fresh 2 41 g n v' w.heap.size w' ∧ Below w.heap.size w w' := by
  obtain ⟨i0, hi, hz0, hz1, hz2⟩ := info_parts info_copyL_any
  obtain ⟨ao, cap, rfl, l1, l2, k1⟩ := h
  by_cases hz : n = 0
  · subst hz
    clear k1 h1 hi hz0 hz1 hz2
    go_enter Try.func32, Try.ntmps32
    go_wp2_with fail
    go_ret
    exact ⟨_, rfl, .inl ⟨rfl, rfl⟩, Below.refl _ _⟩
  · obtain ⟨b, o, rfl, hA⟩ := k1 (by omega)
    have hne : ((n : Int) == 0) = false := by simp; omega
    have HA := Lib.hid hA
    have H1 := Lib.hid h1
    clear k1 h1 hA
    go_enter Try.func32, Try.ntmps32
    go_wp2_with (at_make; refine wpList_make_full _ rfl _ _ _ rfl w.heap.size 41 i0 (.agg #[.int .i64 0, .slice none 0 0]) 2 Try.underlying25 hi hz0 hz1 .i64 .i64 _ _ n rfl rfl (by omega) (by omega) (by rw [hz2]; omega) (by unfold maxLen; omega) (by omega) ?_)
    intro w2 hown hgr
    obtain ⟨cur, K, hsz⟩ := made_cells hown
    have hB2 : Below w.heap.size w w2 := (Below.refl _ _).grown hgr (Nat.le_refl _) (by simp)
    have hcp := run_copyC (P := Try.prog) w2 25 25 3 41 w.heap.size n 2 (by omega) ⟨b, o, none⟩ cap cur 41 (rowCells 2 g n) Try.underlying25 size_copyL_any K (rowCells_len _ _ _)
      (fun j u hj => by
        obtain ⟨q1, q2, q3, rfl⟩ := rowCells_of (by omega) g hj
        rw [add_plain]
        have := (HA.out.below hB2).2 _ q2 _ q3
        have e : o + j / 2 * 2 + j % 2 = o + j := by have := Nat.div_add_mod j 2; rw [Nat.mul_comm] at this; omega
        rw [e] at this
        exact this) hsz
      (fun u hu => by
        obtain ⟨j, hj, rfl⟩ := List.mem_iff_getElem.1 hu
        obtain ⟨q1, q2, q3, e⟩ := rowCells_of (by omega) g (List.getElem?_eq_getElem hj)
        rw [e]
        exact H1.out _ q2 _ q3)
    have HF : Hid ((w2.setRow w.heap.size (rowCells 2 g n).toArray).heap[w.heap.size]? = some (.cells (rowCells 2 g n).toArray 41 (0, 0))) := setRow_heap w2 _ _ _ _ _ K
    have HB := Lib.hid (below_setRow hB2 (Nat.le_refl w.heap.size) (rowCells 2 g n).toArray)
    generalize w2.setRow w.heap.size (rowCells 2 g n).toArray = w3 at *
    clear hown hgr K hsz hB2 hi hz0 hz1 hz2
    go_wp2_with fail
    go_ret
    exact ⟨_, rfl, .inr ⟨by omega, _, Nat.le_refl _, rfl, HF.out⟩, HB.out⟩

theorem info_copyW_any : (Try.prog.info? 3).map (fun i => (i.zero, i.size, i.bytes)) = some (some (.int .i64 0), 1, 8) := by kernel_rfl
theorem size_copyW_any : (Try.prog.info? 3).map (·.size) = some 1 := by kernel_rfl
set_option maxHeartbeats 800000 in
theorem copyW_any (g : Nat → Nat → Value) (n : Nat) (hn : n ≤ 1000) (v : Value) (w : World) (h : Sl 1 g n v w) (h1 : ∀ i, i < n → ∀ j, j < 1 → (g i j).oneCell' = true) :
    Calls Try.prog 33 #[v] w fun e w' => ∃ v', e = .returned v' ∧ Fresh 1 3 g n v' w.heap.size w' ∧ Below w.heap.size w w' := by
  obtain ⟨i0, hi, hz0, hz1, hz2⟩ := info_parts info_copyW_any
  obtain ⟨ao, cap, rfl, l1, l2, k1⟩ := h
  by_cases hz : n = 0
  · subst hz
    clear k1 h1 hi hz0 hz1 hz2
    go_enter Try.func33, Try.ntmps33
    go_wp2_with fail
    go_ret
    exact ⟨_, rfl, .inl ⟨rfl, rfl⟩, Below.refl _ _⟩
  · obtain ⟨b, o, rfl, hA⟩ := k1 (by omega)
    have hne : ((n : Int) == 0) = false := by simp; omega
    have HA := Lib.hid hA
    have H1 := Lib.hid h1
    clear k1 h1 hA
    go_enter Try.func33, Try.ntmps33
    go_wp2_with (at_make; refine wpList_make_full _ rfl _ _ _ rfl w.heap.size 3 i0 (.int .i64 0) 1 Try.underlying39 hi hz0 hz1 .i64 .i64 _ _ n rfl rfl (by omega) (by omega) (by rw [hz2]; omega) (by unfold maxLen; omega) (by omega) ?_)
    intro w2 hown hgr
    obtain ⟨cur, K, hsz⟩ := made_cells hown
    have hB2 : Below w.heap.size w w2 := (Below.refl _ _).grown hgr (Nat.le_refl _) (by simp)
    have hcp := run_copyC (P := Try.prog) w2 39 39 3 3 w.heap.size n 1 (by omega) ⟨b, o, none⟩ cap cur 3 (rowCells 1 g n) Try.underlying39 size_copyW_any K (rowCells_len _ _ _)
      (fun j u hj => by
        obtain ⟨q1, q2, q3, rfl⟩ := rowCells_of (by omega) g hj
        rw [add_plain]
        have := (HA.out.below hB2).2 _ q2 _ q3
        have e : o + j / 1 * 1 + j % 1 = o + j := by have := Nat.div_add_mod j 1; rw [Nat.mul_comm] at this; omega
        rw [e] at this
        exact this) hsz
      (fun u hu => by
        obtain ⟨j, hj, rfl⟩ := List.mem_iff_getElem.1 hu
        obtain ⟨q1, q2, q3, e⟩ := rowCells_of (by omega) g (List.getElem?_eq_getElem hj)
        rw [e]
        exact H1.out _ q2 _ q3)
    have HF : Hid ((w2.setRow w.heap.size (rowCells 1 g n).toArray).heap[w.heap.size]? = some (.cells (rowCells 1 g n).toArray 3 (0, 0))) := setRow_heap w2 _ _ _ _ _ K
    have HB := Lib.hid (below_setRow hB2 (Nat.le_refl w.heap.size) (rowCells 1 g n).toArray)
    generalize w2.setRow w.heap.size (rowCells 1 g n).toArray = w3 at *
    clear hown hgr K hsz hB2 hi hz0 hz1 hz2
    go_wp2_with fail
    go_ret
    exact ⟨_, rfl, .inr ⟨by omega, _, Nat.le_refl _, rfl, HF.out⟩, HB.out⟩

theorem info_copyF_any : (Try.prog.info? 22).map (fun i => (i.zero, i.size, i.bytes)) = some (some (.float .f64 0), 1, 8) := by kernel_rfl
theorem size_copyF_any : (Try.prog.info? 22).map (·.size) = some 1 := by kernel_rfl
set_option maxHeartbeats 800000 in
theorem copyF_any (g : Nat → Nat → Value) (n : Nat) (hn : n ≤ 1000) (v : Value) (w : World) (h : Sl 1 g n v w) (h1 : ∀ i, i < n → ∀ j, j < 1 → (g i j).oneCell' = true) :
    Calls Try.prog 34 #[v] w fun e w' => ∃ v', e = .returned v' ∧ Fresh 1 22 g n v' w.heap.size w' ∧ Below w.heap.size w w' := by
  obtain ⟨i0, hi, hz0, hz1, hz2⟩ := info_parts info_copyF_any
  obtain ⟨ao, cap, rfl, l1, l2, k1⟩ := h
  by_cases hz : n = 0
  · subst hz
    clear k1 h1 hi hz0 hz1 hz2
    go_enter Try.func34, Try.ntmps34
    go_wp2_with fail
    go_ret
    exact ⟨_, rfl, .inl ⟨rfl, rfl⟩, Below.refl _ _⟩
  · obtain ⟨b, o, rfl, hA⟩ := k1 (by omega)
    have hne : ((n : Int) == 0) = false := by simp; omega
    have HA := Lib.hid hA
    have H1 := Lib.hid h1
    clear k1 h1 hA
    go_enter Try.func34, Try.ntmps34
    go_wp2_with (at_make; refine wpList_make_full _ rfl _ _ _ rfl w.heap.size 22 i0 (.float .f64 0) 1 Try.underlying23 hi hz0 hz1 .i64 .i64 _ _ n rfl rfl (by omega) (by omega) (by rw [hz2]; omega) (by unfold maxLen; omega) (by omega) ?_)
    intro w2 hown hgr
    obtain ⟨cur, K, hsz⟩ := made_cells hown
    have hB2 : Below w.heap.size w w2 := (Below.refl _ _).grown hgr (Nat.le_refl _) (by simp)
    have hcp := run_copyC (P := Try.prog) w2 23 23 3 22 w.heap.size n 1 (by omega) ⟨b, o, none⟩ cap cur 22 (rowCells 1 g n) Try.underlying23 size_copyF_any K (rowCells_len _ _ _)
      (fun j u hj => by
        obtain ⟨q1, q2, q3, rfl⟩ := rowCells_of (by omega) g hj
        rw [add_plain]
        have := (HA.out.below hB2).2 _ q2 _ q3
        have e : o + j / 1 * 1 + j % 1 = o + j := by have := Nat.div_add_mod j 1; rw [Nat.mul_comm] at this; omega
        rw [e] at this
        exact this) hsz
      (fun u hu => by
        obtain ⟨j, hj, rfl⟩ := List.mem_iff_getElem.1 hu
        obtain ⟨q1, q2, q3, e⟩ := rowCells_of (by omega) g (List.getElem?_eq_getElem hj)
        rw [e]
        exact H1.out _ q2 _ q3)
    have HF : Hid ((w2.setRow w.heap.size (rowCells 1 g n).toArray).heap[w.heap.size]? = some (.cells (rowCells 1 g n).toArray 22 (0, 0))) := setRow_heap w2 _ _ _ _ _ K
    have HB := Lib.hid (below_setRow hB2 (Nat.le_refl w.heap.size) (rowCells 1 g n).toArray)
    generalize w2.setRow w.heap.size (rowCells 1 g n).toArray = w3 at *
    clear hown hgr K hsz hB2 hi hz0 hz1 hz2
    go_wp2_with fail
    go_ret
    exact ⟨_, rfl, .inr ⟨by omega, _, Nat.le_refl _, rfl, HF.out⟩, HB.out⟩

theorem info_copyE_any : (Try.prog.info? 43).map (fun i => (i.zero, i.size, i.bytes)) = some (some (.agg #[.float .f64 0, .int .i64 0, .int .i64 0]), 3, 24) := by kernel_rfl
theorem size_copyE_any : (Try.prog.info? 43).map (·.size) = some 3 := by kernel_rfl
set_option maxHeartbeats 800000 in
theorem copyE_any (g : Nat → Nat → Value) (n : Nat) (hn : n ≤ 1000) (v : Value) (w : World) (h : Sl 3 g n v w) (h1 : ∀ i, i < n → ∀ j, j < 3 → (g i j).oneCell' = true) :
    Calls Try.prog 35 #[v] w fun e w' => ∃ v', e = .returned v' ∧ Fresh 3 43 g n v' w.heap.size w' ∧ Below w.heap.size w w' := by
  obtain ⟨i0, hi, hz0, hz1, hz2⟩ := info_parts info_copyE_any
  obtain ⟨ao, cap, rfl, l1, l2, k1⟩ := h
  by_cases hz : n = 0
  · subst hz
    clear k1 h1 hi hz0 hz1 hz2
    go_enter Try.func35, Try.ntmps35
    go_wp2_with fail
    go_ret
    exact ⟨_, rfl, .inl ⟨rfl, rfl⟩, Below.refl _ _⟩
  · obtain ⟨b, o, rfl, hA⟩ := k1 (by omega)
    have hne : ((n : Int) == 0) = false := by simp; omega
    have HA := Lib.hid hA
    have H1 := Lib.hid h1
    clear k1 h1 hA
    go_enter Try.func35, Try.ntmps35
    go_wp2_with (at_make; refine wpList_make_full _ rfl _ _ _ rfl w.heap.size 43 i0 (.agg #[.float .f64 0, .int .i64 0, .int .i64 0]) 3 Try.underlying26 hi hz0 hz1 .i64 .i64 _ _ n rfl rfl (by omega) (by omega) (by rw [hz2]; omega) (by unfold maxLen; omega) (by omega) ?_)
    intro w2 hown hgr
    obtain ⟨cur, K, hsz⟩ := made_cells hown
    have hB2 : Below w.heap.size w w2 := (Below.refl _ _).grown hgr (Nat.le_refl _) (by simp)
    have hcp := run_copyC (P := Try.prog) w2 26 26 3 43 w.heap.size n 3 (by omega) ⟨b, o, none⟩ cap cur 43 (rowCells 3 g n) Try.underlying26 size_copyE_any K (rowCells_len _ _ _)
      (fun j u hj => by
        obtain ⟨q1, q2, q3, rfl⟩ := rowCells_of (by omega) g hj
        rw [add_plain]
        have := (HA.out.below hB2).2 _ q2 _ q3
        have e : o + j / 3 * 3 + j % 3 = o + j := by have := Nat.div_add_mod j 3; rw [Nat.mul_comm] at this; omega
        rw [e] at this
        exact this) hsz
      (fun u hu => by
        obtain ⟨j, hj, rfl⟩ := List.mem_iff_getElem.1 hu
        obtain ⟨q1, q2, q3, e⟩ := rowCells_of (by omega) g (List.getElem?_eq_getElem hj)
        rw [e]
        exact H1.out _ q2 _ q3)
    have HF : Hid ((w2.setRow w.heap.size (rowCells 3 g n).toArray).heap[w.heap.size]? = some (.cells (rowCells 3 g n).toArray 43 (0, 0))) := setRow_heap w2 _ _ _ _ _ K
    have HB := Lib.hid (below_setRow hB2 (Nat.le_refl w.heap.size) (rowCells 3 g n).toArray)
    generalize w2.setRow w.heap.size (rowCells 3 g n).toArray = w3 at *
    clear hown hgr K hsz hB2 hi hz0 hz1 hz2
    go_wp2_with fail
    go_ret
    exact ⟨_, rfl, .inr ⟨by omega, _, Nat.le_refl _, rfl, HF.out⟩, HB.out⟩

end Go.Proofs.Ytebopfcealhiaaa
