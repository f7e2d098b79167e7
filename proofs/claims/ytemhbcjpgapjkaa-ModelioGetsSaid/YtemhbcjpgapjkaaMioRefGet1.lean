/- The contracts of the document's Int, Float, Count. -/
import Derived.Test.YtemhbcjpgapjkaaMioReads
import Derived.Test.YtemhbcjpgapjkaaPackRefRead
namespace Go.Proofs.Ytemhbcjpgapjkaa
open Go.RowKit
set_option linter.unusedVariables false
set_option maxRecDepth 100000

/-- a place, as the document has it -/
def atV (st : St) : Value := .agg #[.int .i64 (st.pos : Int), .int .i64 st.e]
/-- a place that may be -/
def okS (s : ByteArray) (st : St) : Prop := s.size ≤ 100000000 ∧ (st.e = 0 → st.pos ≤ s.size)
theorem okS.next {s : ByteArray} {st : St} (h : okS s st) : okS s (stN s st) := ⟨h.1, stN_ok h.2⟩
theorem put_two {W : World} {B : Nat} {c0 c1 : Value} {T : TypeId} (h : W.heap[B]? = some (.cells #[c0, c1] T (0, 0))) (u0 u1 : Value) :
    (W.setCells B 0 [u0, u1]).heap[B]? = some (.cells #[u0, u1] T (0, 0)) := Joins.block_setCell (Joins.block_setCell h u0) u1
theorem two_cells {W : World} {B : Nat} {c0 c1 : Value} {T : TypeId} (h : W.heap[B]? = some (.cells #[c0, c1] T (0, 0))) :
    W.cell? ⟨B, 0, none⟩ = some c0 ∧ W.cell? ⟨B, 1, none⟩ = some c1 ∧ ∀ q, W.frozen? ⟨B, q, none⟩ = false := by
  refine ⟨?_, ?_, fun q => Lib.frozen_of_heap h q⟩ <;> (rw [Lib.cell_of_heap h]; rfl)
theorem putL_low {base B : Nat} (hB : base ≤ B) : ∀ (l : List Value) (o : Nat) (W : World), Below base W (W.setCells B o l)
  | [], _, W => Below.refl _ _
  | v :: l, o, W => ((Below.refl base W).setCell (p := ⟨B, o, none⟩) hB v).trans (putL_low hB l (o + 1) _)

set_option maxHeartbeats 1600000 in
theorem int6_ok (s : ByteArray) (x y e1 r : Int) (w : World)
    (HR : Hid (∀ w, Calls Try.prog 69 #[.string s, .int .i64 x] w fun e' w' => e' = .returned (.tuple #[.int .i64 r, .int .i64 y, .int .i64 e1]) ∧ w = w')) :
    Calls Try.prog 31 #[.string s, .agg #[.int .i64 x, .int .i64 0]] w fun e w' => e = .returned (.tuple #[.int .i64 r, .agg #[.int .i64 y, .int .i64 e1]]) ∧ Below w.heap.size w w' := by
  have A0 := heap_alloc_new w (.cells #[.int .i64 x, .int .i64 0] 65)
  have A1 : (((w.alloc (.cells #[.int .i64 x, .int .i64 0] 65)).alloc (.cells #[.int .i64 0, .int .i64 0] 65))).heap[w.heap.size + 1]? = some (.cells #[.int .i64 0, .int .i64 0] 65 (0, 0)) := by
    have := heap_alloc_new (w.alloc (.cells #[.int .i64 x, .int .i64 0] 65)) (.cells #[.int .i64 0, .int .i64 0] 65)
    rwa [World.size_alloc] at this
  have A2 : (((w.alloc (.cells #[.int .i64 x, .int .i64 0] 65)).alloc (.cells #[.int .i64 0, .int .i64 0] 65))).heap[w.heap.size]? = some (.cells #[.int .i64 x, .int .i64 0] 65 (0, 0)) := by rw [Below.heap_alloc _ _ _ (by rw [World.size_alloc]; omega)]; exact A0
  have L2 := Lib.hid (bthen (balloc w (.cells #[.int .i64 x, .int .i64 0] 65)) (balloc _ (.cells #[.int .i64 0, .int .i64 0] 65)))
  have H1 := Lib.hid A1
  obtain ⟨z0, z1, zf⟩ := two_cells A1
  obtain ⟨y0, y1, _⟩ := two_cells A2
  clear A0 A1 A2
  
  go_enter Try.func31, Try.ntmps31
  go_wp2_with fail
  generalize ((w.alloc (.cells #[.int .i64 x, .int .i64 0] 65)).alloc (.cells #[.int .i64 0, .int .i64 0] 65)) = w2 at *
  refine (HR.out _).mono ?_
  rintro e w3 ⟨rfl, rfl⟩
  go_wp2_with fail
  change bodyPost _ _ _ _ _ (w2.setCells (w.heap.size + 1) 0 [.int .i64 y, .int .i64 e1])
  have h5 := put_two H1.out (.int .i64 y) (.int .i64 e1)
  have LZ := Lib.hid (L2.out.trans (putL_low (show w.heap.size ≤ w.heap.size + 1 by omega) [.int .i64 y, .int .i64 e1] 0 w2))
  obtain ⟨t0, t1, _⟩ := two_cells h5
  clear h5
  generalize w2.setCells (w.heap.size + 1) 0 [.int .i64 y, .int .i64 e1] = w9 at *
  exact bodyPost_ret (v := .tuple #[.int .i64 r, .agg #[.int .i64 y, .int .i64 e1]]) (by simp [results, Try.results31, go_sem, t0, t1]) rfl ⟨rfl, LZ.out⟩
set_option maxHeartbeats 1600000 in
theorem int6_err (s : ByteArray) (x e0 : Int) (h0 : e0 ≠ 0) (w : World) :
    Calls Try.prog 31 #[.string s, .agg #[.int .i64 x, .int .i64 e0]] w fun e w' => e = .returned (.tuple #[.int .i64 0, .agg #[.int .i64 x, .int .i64 e0]]) ∧ Below w.heap.size w w' := by
  have A0 := heap_alloc_new w (.cells #[.int .i64 x, .int .i64 e0] 65)
  have A1 : (((w.alloc (.cells #[.int .i64 x, .int .i64 e0] 65)).alloc (.cells #[.int .i64 0, .int .i64 0] 65))).heap[w.heap.size + 1]? = some (.cells #[.int .i64 0, .int .i64 0] 65 (0, 0)) := by
    have := heap_alloc_new (w.alloc (.cells #[.int .i64 x, .int .i64 e0] 65)) (.cells #[.int .i64 0, .int .i64 0] 65)
    rwa [World.size_alloc] at this
  have A2 : (((w.alloc (.cells #[.int .i64 x, .int .i64 e0] 65)).alloc (.cells #[.int .i64 0, .int .i64 0] 65))).heap[w.heap.size]? = some (.cells #[.int .i64 x, .int .i64 e0] 65 (0, 0)) := by rw [Below.heap_alloc _ _ _ (by rw [World.size_alloc]; omega)]; exact A0
  have L2 := Lib.hid (bthen (balloc w (.cells #[.int .i64 x, .int .i64 e0] 65)) (balloc _ (.cells #[.int .i64 0, .int .i64 0] 65)))
  have de : (e0 != 0) = true := by simp [h0]
  clear A0 h0
  go_enter Try.func31, Try.ntmps31
  obtain ⟨z0, z1, zf⟩ := two_cells A1
  obtain ⟨y0, y1, _⟩ := two_cells A2
  go_wp2_with fail
  generalize ((w.alloc (.cells #[.int .i64 x, .int .i64 e0] 65)).alloc (.cells #[.int .i64 0, .int .i64 0] 65)) = w2 at *
  have H1 := Lib.hid A1
  clear A1 A2
  go_region
  change Exit.then _ _ _ _ (w2.setCells (w.heap.size + 1) 0 [.int .i64 x, .int .i64 e0]).drew
  have h5 : (w2.setCells (w.heap.size + 1) 0 [.int .i64 x, .int .i64 e0]).drew.heap[w.heap.size + 1]? = some (.cells #[.int .i64 x, .int .i64 e0] 65 (0, 0)) := put_two H1.out (.int .i64 x) (.int .i64 e0)
  have LZ := Lib.hid (bthen (L2.out.trans (putL_low (show w.heap.size ≤ w.heap.size + 1 by omega) [.int .i64 x, .int .i64 e0] 0 w2)) (bdrew _))
  obtain ⟨t0, t1, _⟩ := two_cells h5
  clear h5
  generalize (w2.setCells (w.heap.size + 1) 0 [.int .i64 x, .int .i64 e0]).drew = w9 at *
  go_wp2_with fail
  exact bodyPost_ret (v := .tuple #[.int .i64 0, .agg #[.int .i64 x, .int .i64 e0]]) (by simp [results, Try.results31, go_sem, t0, t1]) rfl ⟨rfl, LZ.out⟩
theorem int6_any (s : ByteArray) (st : St) (h : okS s st) (w : World) :
    Calls Try.prog 31 #[.string s, atV st] w fun e w' => e = .returned (.tuple #[.int .i64 (stI s st), atV (stN s st)]) ∧ Below w.heap.size w w' := by
  obtain ⟨h1, h2⟩ := h
  unfold atV
  by_cases h0 : st.e = 0
  · have hp := h2 h0
    have := int6_ok s st.pos (stN s st).pos (stN s st).e (stI s st) w (fun w => by
      have := refReadI_any s st.pos (by unfold maxLen; omega) (by omega) w
      rw [rdI_st h0 hp] at this
      exact this)
    rw [h0]
    exact this
  · rw [stick_st s st h0, show stI s st = 0 by unfold stI; rw [if_neg h0]]
    exact int6_err s st.pos st.e h0 w

set_option maxHeartbeats 1600000 in
theorem flo6_ok (s : ByteArray) (x y e1 r : Int) (w : World)
    (HR : Hid (∀ w, Calls Try.prog 70 #[.string s, .int .i64 x] w fun e' w' => e' = .returned (.tuple #[.int .u64 r, .int .i64 y, .int .i64 e1]) ∧ w = w')) :
    Calls Try.prog 32 #[.string s, .agg #[.int .i64 x, .int .i64 0]] w fun e w' => e = .returned (.tuple #[.float .f64 r.toNat, .agg #[.int .i64 y, .int .i64 e1]]) ∧ Below w.heap.size w w' := by
  have A0 := heap_alloc_new w (.cells #[.int .i64 x, .int .i64 0] 65)
  have A1 : (((w.alloc (.cells #[.int .i64 x, .int .i64 0] 65)).alloc (.cells #[.int .i64 0, .int .i64 0] 65))).heap[w.heap.size + 1]? = some (.cells #[.int .i64 0, .int .i64 0] 65 (0, 0)) := by
    have := heap_alloc_new (w.alloc (.cells #[.int .i64 x, .int .i64 0] 65)) (.cells #[.int .i64 0, .int .i64 0] 65)
    rwa [World.size_alloc] at this
  have A2 : (((w.alloc (.cells #[.int .i64 x, .int .i64 0] 65)).alloc (.cells #[.int .i64 0, .int .i64 0] 65))).heap[w.heap.size]? = some (.cells #[.int .i64 x, .int .i64 0] 65 (0, 0)) := by rw [Below.heap_alloc _ _ _ (by rw [World.size_alloc]; omega)]; exact A0
  have L2 := Lib.hid (bthen (balloc w (.cells #[.int .i64 x, .int .i64 0] 65)) (balloc _ (.cells #[.int .i64 0, .int .i64 0] 65)))
  have H1 := Lib.hid A1
  obtain ⟨z0, z1, zf⟩ := two_cells A1
  obtain ⟨y0, y1, _⟩ := two_cells A2
  clear A0 A1 A2
  have hfb := frombits6_run
  go_enter Try.func32, Try.ntmps32
  go_wp2_with fail
  generalize ((w.alloc (.cells #[.int .i64 x, .int .i64 0] 65)).alloc (.cells #[.int .i64 0, .int .i64 0] 65)) = w2 at *
  refine (HR.out _).mono ?_
  rintro e w3 ⟨rfl, rfl⟩
  go_wp2_with fail
  change bodyPost _ _ _ _ _ (w2.setCells (w.heap.size + 1) 0 [.int .i64 y, .int .i64 e1])
  have h5 := put_two H1.out (.int .i64 y) (.int .i64 e1)
  have LZ := Lib.hid (L2.out.trans (putL_low (show w.heap.size ≤ w.heap.size + 1 by omega) [.int .i64 y, .int .i64 e1] 0 w2))
  obtain ⟨t0, t1, _⟩ := two_cells h5
  clear h5
  generalize w2.setCells (w.heap.size + 1) 0 [.int .i64 y, .int .i64 e1] = w9 at *
  exact bodyPost_ret (v := .tuple #[.float .f64 r.toNat, .agg #[.int .i64 y, .int .i64 e1]]) (by simp [results, Try.results32, go_sem, t0, t1]) rfl ⟨rfl, LZ.out⟩
set_option maxHeartbeats 1600000 in
theorem flo6_err (s : ByteArray) (x e0 : Int) (h0 : e0 ≠ 0) (w : World) :
    Calls Try.prog 32 #[.string s, .agg #[.int .i64 x, .int .i64 e0]] w fun e w' => e = .returned (.tuple #[.float .f64 0, .agg #[.int .i64 x, .int .i64 e0]]) ∧ Below w.heap.size w w' := by
  have A0 := heap_alloc_new w (.cells #[.int .i64 x, .int .i64 e0] 65)
  have A1 : (((w.alloc (.cells #[.int .i64 x, .int .i64 e0] 65)).alloc (.cells #[.int .i64 0, .int .i64 0] 65))).heap[w.heap.size + 1]? = some (.cells #[.int .i64 0, .int .i64 0] 65 (0, 0)) := by
    have := heap_alloc_new (w.alloc (.cells #[.int .i64 x, .int .i64 e0] 65)) (.cells #[.int .i64 0, .int .i64 0] 65)
    rwa [World.size_alloc] at this
  have A2 : (((w.alloc (.cells #[.int .i64 x, .int .i64 e0] 65)).alloc (.cells #[.int .i64 0, .int .i64 0] 65))).heap[w.heap.size]? = some (.cells #[.int .i64 x, .int .i64 e0] 65 (0, 0)) := by rw [Below.heap_alloc _ _ _ (by rw [World.size_alloc]; omega)]; exact A0
  have L2 := Lib.hid (bthen (balloc w (.cells #[.int .i64 x, .int .i64 e0] 65)) (balloc _ (.cells #[.int .i64 0, .int .i64 0] 65)))
  have de : (e0 != 0) = true := by simp [h0]
  clear A0 h0
  go_enter Try.func32, Try.ntmps32
  obtain ⟨z0, z1, zf⟩ := two_cells A1
  obtain ⟨y0, y1, _⟩ := two_cells A2
  go_wp2_with fail
  generalize ((w.alloc (.cells #[.int .i64 x, .int .i64 e0] 65)).alloc (.cells #[.int .i64 0, .int .i64 0] 65)) = w2 at *
  have H1 := Lib.hid A1
  clear A1 A2
  go_region
  change Exit.then _ _ _ _ (w2.setCells (w.heap.size + 1) 0 [.int .i64 x, .int .i64 e0]).drew
  have h5 : (w2.setCells (w.heap.size + 1) 0 [.int .i64 x, .int .i64 e0]).drew.heap[w.heap.size + 1]? = some (.cells #[.int .i64 x, .int .i64 e0] 65 (0, 0)) := put_two H1.out (.int .i64 x) (.int .i64 e0)
  have LZ := Lib.hid (bthen (L2.out.trans (putL_low (show w.heap.size ≤ w.heap.size + 1 by omega) [.int .i64 x, .int .i64 e0] 0 w2)) (bdrew _))
  obtain ⟨t0, t1, _⟩ := two_cells h5
  clear h5
  generalize (w2.setCells (w.heap.size + 1) 0 [.int .i64 x, .int .i64 e0]).drew = w9 at *
  go_wp2_with fail
  exact bodyPost_ret (v := .tuple #[.float .f64 0, .agg #[.int .i64 x, .int .i64 e0]]) (by simp [results, Try.results32, go_sem, t0, t1]) rfl ⟨rfl, LZ.out⟩
theorem flo6_any (s : ByteArray) (st : St) (h : okS s st) (w : World) :
    Calls Try.prog 32 #[.string s, atV st] w fun e w' => e = .returned (.tuple #[.float .f64 (stF s st), atV (stN s st)]) ∧ Below w.heap.size w w' := by
  obtain ⟨h1, h2⟩ := h
  unfold atV
  by_cases h0 : st.e = 0
  · have hp := h2 h0
    have := flo6_ok s st.pos (stN s st).pos (stN s st).e (stU s st) w (fun w => by
      have := refReadU_any s st.pos (by unfold maxLen; omega) (by omega) w
      rw [rdU_st h0 hp] at this
      exact this)
    rw [h0]
    exact this
  · rw [stick_st s st h0, show stF s st = 0 by unfold stF stU; rw [if_neg h0]; rfl]
    exact flo6_err s st.pos st.e h0 w

set_option maxHeartbeats 1600000 in
theorem count6_core (s : ByteArray) (x e0 n y e1 : Int) (res : Array Value) (w : World) (E : Hid (res = if e1 = 0 ∧ (n < 0 ∨ 48 < n) then #[.int .i64 0, .agg #[.int .i64 0, .int .i64 6]] else #[.int .i64 n, .agg #[.int .i64 y, .int .i64 e1]]))
    (HI : Hid (∀ w, Calls Try.prog 31 #[.string s, .agg #[.int .i64 x, .int .i64 e0]] w fun e w' => e = .returned (.tuple #[.int .i64 n, .agg #[.int .i64 y, .int .i64 e1]]) ∧ Below w.heap.size w w')) :
    Calls Try.prog 33 #[.string s, .agg #[.int .i64 x, .int .i64 e0]] w fun e w' => e = .returned (.tuple res) ∧ Below w.heap.size w w' := by
  have A1 : (((w.alloc (.cells #[.int .i64 x, .int .i64 e0] 65)).alloc (.cells #[.int .i64 0, .int .i64 0] 65))).heap[w.heap.size + 1]? = some (.cells #[.int .i64 0, .int .i64 0] 65 (0, 0)) := by
    have := heap_alloc_new (w.alloc (.cells #[.int .i64 x, .int .i64 e0] 65)) (.cells #[.int .i64 0, .int .i64 0] 65)
    rwa [World.size_alloc] at this
  have A2 : (((w.alloc (.cells #[.int .i64 x, .int .i64 e0] 65)).alloc (.cells #[.int .i64 0, .int .i64 0] 65))).heap[w.heap.size]? = some (.cells #[.int .i64 x, .int .i64 e0] 65 (0, 0)) := by rw [Below.heap_alloc _ _ _ (by rw [World.size_alloc]; omega)]; exact heap_alloc_new w (.cells #[.int .i64 x, .int .i64 e0] 65)
  have L2 := Lib.hid (bthen (balloc w (.cells #[.int .i64 x, .int .i64 e0] 65)) (balloc _ (.cells #[.int .i64 0, .int .i64 0] 65)))
  have H1 := Lib.hid A1
  obtain ⟨y0, y1, _⟩ := two_cells A2
  clear A1 A2
  go_enter Try.func33, Try.ntmps33
  go_wp2_with fail
  generalize ((w.alloc (.cells #[.int .i64 x, .int .i64 e0] 65)).alloc (.cells #[.int .i64 0, .int .i64 0] 65)) = w2 at *
  refine (HI.out _).mono ?_
  rintro e w3 ⟨rfl, hb3⟩
  have L4 := Lib.hid (bthen (bthen L2.out hb3) (balloc w3 (.cells #[.int .i64 y, .int .i64 e1] 65)))
  have h4 : (w3.alloc (.cells #[.int .i64 y, .int .i64 e1] 65)).heap[w.heap.size + 1]? = some (.cells #[.int .i64 0, .int .i64 0] 65 (0, 0)) := by
    have hl := lt_of_block H1.out
    rw [Below.heap_alloc _ _ _ (Nat.lt_of_lt_of_le hl hb3.size), hb3.block _ hl]; exact H1.out
  have H4 := Lib.hid h4
  obtain ⟨z0, z1, zf⟩ := two_cells h4
  obtain ⟨x0, x1, _⟩ := two_cells (heap_alloc_new w3 (.cells #[.int .i64 y, .int .i64 e1] 65))
  clear h4 hb3 y0 y1
  by_cases h1 : e1 = 0
  · subst h1
    by_cases hneg : n < 0
    · obtain rfl := E.out.trans (if_pos ⟨rfl, .inl hneg⟩)
      have d1 : decide (n < 0) = true := by rw [decide_eq_true_eq]; exact hneg
      clear hneg
      go_wp2_with fail
      generalize w3.alloc (.cells #[.int .i64 y, .int .i64 0] 65) = w4 at *
      change bodyPost _ _ _ _ _ (w4.setCells (w.heap.size + 1) 0 [.int .i64 0, .int .i64 6])
      have h5 := put_two H4.out (.int .i64 0) (.int .i64 6)
      have LZ := Lib.hid (L4.out.trans (putL_low (show w.heap.size ≤ w.heap.size + 1 by omega) [.int .i64 0, .int .i64 6] 0 w4))
      obtain ⟨t0, t1, _⟩ := two_cells h5
      clear h5
      generalize w4.setCells (w.heap.size + 1) 0 [.int .i64 0, .int .i64 6] = w9 at *
      exact bodyPost_ret (v := .tuple #[.int .i64 0, .agg #[.int .i64 0, .int .i64 6]]) (by simp [results, Try.results33, go_sem, t0, t1]) rfl ⟨rfl, LZ.out⟩
    · have d1 : decide (n < 0) = false := by rw [decide_eq_false_iff_not]; exact hneg
      by_cases hbig : 48 < n
      · obtain rfl := E.out.trans (if_pos ⟨rfl, .inr hbig⟩)
        have d2 : decide (48 < n) = true := by rw [decide_eq_true_eq]; exact hbig
        clear hneg hbig
        go_wp2_with fail
        generalize w3.alloc (.cells #[.int .i64 y, .int .i64 0] 65) = w4 at *
        change bodyPost _ _ _ _ _ (w4.setCells (w.heap.size + 1) 0 [.int .i64 0, .int .i64 6])
        have h5 := put_two H4.out (.int .i64 0) (.int .i64 6)
        have LZ := Lib.hid (L4.out.trans (putL_low (show w.heap.size ≤ w.heap.size + 1 by omega) [.int .i64 0, .int .i64 6] 0 w4))
        obtain ⟨t0, t1, _⟩ := two_cells h5
        clear h5
        generalize w4.setCells (w.heap.size + 1) 0 [.int .i64 0, .int .i64 6] = w9 at *
        exact bodyPost_ret (v := .tuple #[.int .i64 0, .agg #[.int .i64 0, .int .i64 6]]) (by simp [results, Try.results33, go_sem, t0, t1]) rfl ⟨rfl, LZ.out⟩
      · obtain rfl := E.out.trans (if_neg (by omega))
        have d2 : decide (48 < n) = false := by rw [decide_eq_false_iff_not]; exact hbig
        clear hneg hbig
        go_wp2_with fail
        generalize w3.alloc (.cells #[.int .i64 y, .int .i64 0] 65) = w4 at *
        go_region
        change Exit.then _ _ _ _ (w4.setCells (w.heap.size + 1) 0 [.int .i64 y, .int .i64 0]).drew
        have h5 : (w4.setCells (w.heap.size + 1) 0 [.int .i64 y, .int .i64 0]).drew.heap[w.heap.size + 1]? = some (.cells #[.int .i64 y, .int .i64 0] 65 (0, 0)) := put_two H4.out (.int .i64 y) (.int .i64 0)
        have LZ := Lib.hid (bthen (L4.out.trans (putL_low (show w.heap.size ≤ w.heap.size + 1 by omega) [.int .i64 y, .int .i64 0] 0 w4)) (bdrew _))
        obtain ⟨t0, t1, _⟩ := two_cells h5
        clear h5
        generalize (w4.setCells (w.heap.size + 1) 0 [.int .i64 y, .int .i64 0]).drew = w9 at *
        go_wp2_with fail
        exact bodyPost_ret (v := .tuple #[.int .i64 n, .agg #[.int .i64 y, .int .i64 0]]) (by simp [results, Try.results33, go_sem, t0, t1]) rfl ⟨rfl, LZ.out⟩
  · obtain rfl := E.out.trans (if_neg (by simp [h1]))
    have de : (e1 == 0) = false := by simp [h1]
    clear h1
    go_wp2_with fail
    generalize w3.alloc (.cells #[.int .i64 y, .int .i64 e1] 65) = w4 at *
    go_region
    change Exit.then _ _ _ _ (w4.setCells (w.heap.size + 1) 0 [.int .i64 y, .int .i64 e1]).drew
    have h5 : (w4.setCells (w.heap.size + 1) 0 [.int .i64 y, .int .i64 e1]).drew.heap[w.heap.size + 1]? = some (.cells #[.int .i64 y, .int .i64 e1] 65 (0, 0)) := put_two H4.out (.int .i64 y) (.int .i64 e1)
    have LZ := Lib.hid (bthen (L4.out.trans (putL_low (show w.heap.size ≤ w.heap.size + 1 by omega) [.int .i64 y, .int .i64 e1] 0 w4)) (bdrew _))
    obtain ⟨t0, t1, _⟩ := two_cells h5
    clear h5
    generalize (w4.setCells (w.heap.size + 1) 0 [.int .i64 y, .int .i64 e1]).drew = w9 at *
    go_wp2_with fail
    exact bodyPost_ret (v := .tuple #[.int .i64 n, .agg #[.int .i64 y, .int .i64 e1]]) (by simp [results, Try.results33, go_sem, t0, t1]) rfl ⟨rfl, LZ.out⟩

theorem count6_any (s : ByteArray) (st : St) (h : okS s st) (w : World) :
    Calls Try.prog 33 #[.string s, atV st] w fun e w' => e = .returned (.tuple #[.int .i64 ((lsN s st : Nat) : Int), atV (lsS s st)]) ∧ Below w.heap.size w w' := by
  have := count6_core s st.pos st.e (stI s st) (stN s st).pos (stN s st).e _ w rfl (fun w => int6_any s st h w)
  refine this.mono fun e w' ⟨h1, h2⟩ => ⟨?_, h2⟩
  rw [h1]
  by_cases hb : 0 ≤ stI s st ∧ stI s st ≤ 48
  · have e1 : ((lsN s st : Nat) : Int) = stI s st := by unfold lsN; rw [if_pos hb]; omega
    have e2 : lsS s st = stN s st := by unfold lsS; rw [if_pos hb]
    rw [if_neg (by omega), e1, e2]
    rfl
  · have e1 : lsN s st = 0 := by unfold lsN; rw [if_neg hb]
    have e2 : lsS s st = ⟨0, 6⟩ := by unfold lsS; rw [if_neg hb]
    have h0 : (stN s st).e = 0 := by
      refine Classical.byContradiction fun hc => hb ?_
      have : stI s st = 0 := by
        unfold stN at hc
        unfold stI
        by_cases q0 : st.e = 0
        · rw [if_pos q0] at hc ⊢
          by_cases q1 : s.size < st.pos + 8
          · rw [if_pos q1]
          · rw [if_neg q1] at hc; simp at hc
        · rw [if_neg q0]
      rw [this]; omega
    rw [if_pos ⟨h0, by omega⟩, e1, e2]
    rfl
theorem okS.list {s : ByteArray} {st : St} (h : okS s st) : okS s (lsS s st) := by
  unfold lsS
  split
  · exact h.next
  · exact ⟨h.1, fun h => absurd h (by decide)⟩

end Go.Proofs.Ytemhbcjpgapjkaa
