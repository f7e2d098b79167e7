/- The contract of awake. -/
import Derived.Test.YtebopfcealhiaaaModelSame
import Derived.Test.YtebopfcealhiaaaModelCheck
namespace Go.Proofs.Ytebopfcealhiaaa
open Go.RowKit
set_option linter.unusedVariables false

/-- the model that awake asks for, by its delay -/
def awkM (d : Nat) : Mdl := ⟨0, 4621819117588971520, 1, fun _ => d, 1, fun _ => 1, fun _ _ => ⟨0, 0, 0, 0⟩, 1, fun _ => 0, fun _ => 0, fun _ _ => 0, 0, fun _ => ⟨0, 0, 0⟩⟩

theorem awk_mdl (d B0 B1 B2 B3 : Nat) (t0 t1 t2 t3 : TypeId) (f0 f1 f2 f3 : Nat × Nat) (W : World) (h0 : W.heap[B0]? = some (.cells #[.float .f64 d] t0 f0))
    (h1 : W.heap[B1]? = some (.cells #[.int .i64 0, .int .i64 0, .int .i64 0, .int .i64 0] t1 f1))
    (h2 : W.heap[B2]? = some (.cells #[.slice (some ⟨B1, 0, none⟩) 1 1] t2 f2)) (h3 : W.heap[B3]? = some (.cells #[.int .i64 0, .slice none 0 0] t3 f3)) :
    MdlAt (awkM d) (.slice (some ⟨B0, 0, none⟩) 1 1) (.slice (some ⟨B2, 0, none⟩) 1 1) (.slice (some ⟨B3, 0, none⟩) 1 1) (.slice none 0 0) W := by
  have two : ∀ j, j < 2 → j = 0 ∨ j = 1 := fun j h => by omega
  have four : ∀ j, j < 4 → j = 0 ∨ j = 1 ∨ j = 2 ∨ j = 3 := fun j h => by omega
  refine ⟨⟨_, 1, rfl, Nat.le_refl _, by omega, fun _ => ⟨B0, 0, rfl, lt_of_block h0, fun i hi j hj => ?_⟩⟩, ⟨fun _ => .slice (some ⟨B1, 0, none⟩) 1 1, ⟨_, 1, rfl, Nat.le_refl _, by omega, fun _ => ⟨B2, 0, rfl, lt_of_block h2, fun i hi j hj => ?_⟩⟩, fun k hk => ?_⟩,
    ⟨fun _ => .slice none 0 0, ⟨_, 1, rfl, Nat.le_refl _, by omega, fun _ => ⟨B3, 0, rfl, lt_of_block h3, fun i hi j hj => ?_⟩⟩, fun k hk => ⟨none, 0, rfl, Nat.le_refl _, by omega, fun h => absurd h (Nat.lt_irrefl 0)⟩⟩, ⟨none, 0, rfl, Nat.le_refl _, by omega, fun h => absurd h (Nat.lt_irrefl 0)⟩⟩
  · obtain rfl : i = 0 := by have : i < 1 := hi; omega
    obtain rfl : j = 0 := by omega
    rw [Lib.cell_of_heap h0]; rfl
  · obtain rfl : i = 0 := by have : i < 1 := hi; omega
    obtain rfl : j = 0 := by omega
    rw [Lib.cell_of_heap h2]; rfl
  · refine ⟨_, 1, rfl, Nat.le_refl _, by omega, fun _ => ⟨B1, 0, rfl, lt_of_block h1, fun i hi j hj => ?_⟩⟩
    obtain rfl : i = 0 := by have : i < 1 := hi; omega
    rcases four j hj with rfl | rfl | rfl | rfl <;> (rw [Lib.cell_of_heap h1]; rfl)
  · obtain rfl : i = 0 := by have : i < 1 := hi; omega
    rcases two j hj with rfl | rfl <;> (rw [Lib.cell_of_heap h3]; rfl)

theorem awk_good : chkN (awkM 4607182418800017408) = 0 := by decide +kernel
theorem awk_bad : chkN (awkM 0) = 15 := by decide +kernel

theorem sizeA (w : World) (o : Obj) : (w.alloc o).heap.size = w.heap.size + 1 := by show (w.heap.push o).size = _; simp
theorem heapA (w : World) (o : Obj) (n : Nat) (h : w.heap.size = n) : (w.alloc o).heap[n]? = some o := by subst h; exact heap_alloc_new w o

/-- the blocks that awake makes first -/
def awkW (w : World) : World := ((((w.alloc (.cells #[.float .f64 4607182418800017408] 22)).alloc (.cells #[.int .i64 0, .int .i64 0, .int .i64 0, .int .i64 0] 34)).alloc
  (.cells #[.slice (some ⟨w.heap.size + 1, 0, none⟩) 1 1] 38)).alloc (.cells #[.int .i64 0, .slice none 0 0] 41)).alloc
  (.cells #[.int .i64 0, .float .f64 4621819117588971520, .slice (some ⟨w.heap.size, 0, none⟩) 1 1, .slice (some ⟨w.heap.size + 1 + 1, 0, none⟩) 1 1, .slice (some ⟨w.heap.size + 1 + 1 + 1, 0, none⟩) 1 1, .slice none 0 0] 28)
theorem awkW_below (w : World) : Below w.heap.size w (awkW w) := bthen (bthen (bthen (bthen (balloc _ _) (balloc _ _)) (balloc _ _)) (balloc _ _)) (balloc _ _)
theorem awkW_0 (w : World) : (awkW w).heap[w.heap.size]? = some (.cells #[.float .f64 4607182418800017408] 22 (0, 0)) := by
  unfold awkW
  rw [Below.heap_alloc _ _ _ (by simp only [sizeA]; omega)]
  rw [Below.heap_alloc _ _ _ (by simp only [sizeA]; omega)]
  rw [Below.heap_alloc _ _ _ (by simp only [sizeA]; omega)]
  rw [Below.heap_alloc _ _ _ (by simp only [sizeA]; omega)]
  exact heapA _ _ _ rfl
theorem awkW_1 (w : World) : (awkW w).heap[w.heap.size + 1]? = some (.cells #[.int .i64 0, .int .i64 0, .int .i64 0, .int .i64 0] 34 (0, 0)) := by
  unfold awkW
  rw [Below.heap_alloc _ _ _ (by simp only [sizeA]; omega)]
  rw [Below.heap_alloc _ _ _ (by simp only [sizeA]; omega)]
  rw [Below.heap_alloc _ _ _ (by simp only [sizeA]; omega)]
  exact heapA _ _ _ (by simp only [sizeA])
theorem awkW_2 (w : World) : (awkW w).heap[w.heap.size + 1 + 1]? = some (.cells #[.slice (some ⟨w.heap.size + 1, 0, none⟩) 1 1] 38 (0, 0)) := by
  unfold awkW
  rw [Below.heap_alloc _ _ _ (by simp only [sizeA]; omega)]
  rw [Below.heap_alloc _ _ _ (by simp only [sizeA]; omega)]
  exact heapA _ _ _ (by simp only [sizeA])
theorem awkW_3 (w : World) : (awkW w).heap[w.heap.size + 1 + 1 + 1]? = some (.cells #[.int .i64 0, .slice none 0 0] 41 (0, 0)) := by
  unfold awkW
  rw [Below.heap_alloc _ _ _ (by simp only [sizeA]; omega)]
  exact heapA _ _ _ (by simp only [sizeA])
theorem awkW_4 (w : World) : (awkW w).heap[w.heap.size + 1 + 1 + 1 + 1]? = some (.cells #[.int .i64 0, .float .f64 4621819117588971520, .slice (some ⟨w.heap.size, 0, none⟩) 1 1, .slice (some ⟨w.heap.size + 1 + 1, 0, none⟩) 1 1, .slice (some ⟨w.heap.size + 1 + 1 + 1, 0, none⟩) 1 1, .slice none 0 0] 28 (0, 0)) := by
  unfold awkW
  exact heapA _ _ _ (by simp only [sizeA])

/-- the world in which the delay is another -/
def awkW2 (w w1 : World) : World := (w1.alloc (.cells #[.float .f64 0] 22)).setCell ⟨w.heap.size + 1 + 1 + 1 + 1, 2, none⟩ (.slice (some ⟨w1.heap.size, 0, none⟩) 1 1)
theorem awkW2_box {w w1 : World} (hb : Below (awkW w).heap.size (awkW w) w1) :
    Box6 (.int .i64 0) (.float .f64 4621819117588971520) (.slice (some ⟨w1.heap.size, 0, none⟩) 1 1) (.slice (some ⟨w.heap.size + 1 + 1, 0, none⟩) 1 1) (.slice (some ⟨w.heap.size + 1 + 1 + 1, 0, none⟩) 1 1) (.slice none 0 0) (w.heap.size + 1 + 1 + 1 + 1) (awkW2 w w1)
    ∧ MdlAt (awkM 0) (.slice (some ⟨w1.heap.size, 0, none⟩) 1 1) (.slice (some ⟨w.heap.size + 1 + 1, 0, none⟩) 1 1) (.slice (some ⟨w.heap.size + 1 + 1 + 1, 0, none⟩) 1 1) (.slice none 0 0) (awkW2 w w1)
    ∧ Below w.heap.size w (awkW2 w w1) := by
  have l1 := lt_of_block (awkW_4 w)
  have sz := hb.size
  have lt : w.heap.size + 1 + 1 + 1 + 1 < w1.heap.size := Nat.lt_of_lt_of_le l1 sz
  have k : ∀ i o, i < w.heap.size + 1 + 1 + 1 + 1 → (awkW w).heap[i]? = some o → (awkW2 w w1).heap[i]? = some o := fun i o hi h => by
    unfold awkW2
    rw [Below.heap_setCell _ _ _ _ (by show i ≠ w.heap.size + 1 + 1 + 1 + 1; omega), Below.heap_alloc _ _ _ (by omega), hb.block i (by omega), h]
  have k0 : (awkW2 w w1).heap[w1.heap.size]? = some (.cells #[.float .f64 0] 22 (0, 0)) := by
    unfold awkW2
    rw [Below.heap_setCell _ _ _ _ (by show w1.heap.size ≠ w.heap.size + 1 + 1 + 1 + 1; omega)]
    exact heap_alloc_new _ _
  have k4 : (awkW2 w w1).heap[w.heap.size + 1 + 1 + 1 + 1]? = some (.cells #[.int .i64 0, .float .f64 4621819117588971520, .slice (some ⟨w1.heap.size, 0, none⟩) 1 1, .slice (some ⟨w.heap.size + 1 + 1, 0, none⟩) 1 1, .slice (some ⟨w.heap.size + 1 + 1 + 1, 0, none⟩) 1 1, .slice none 0 0] 28 (0, 0)) := by
    unfold awkW2
    have h : (w1.alloc (.cells #[.float .f64 0] 22)).heap[w.heap.size + 1 + 1 + 1 + 1]? = some (.cells #[.int .i64 0, .float .f64 4621819117588971520, .slice (some ⟨w.heap.size, 0, none⟩) 1 1, .slice (some ⟨w.heap.size + 1 + 1, 0, none⟩) 1 1, .slice (some ⟨w.heap.size + 1 + 1 + 1, 0, none⟩) 1 1, .slice none 0 0] 28 (0, 0)) := by
      rw [Below.heap_alloc _ _ _ lt, hb.block _ l1, awkW_4]
    rw [Joins.block_setCell h]
    rfl
  refine ⟨⟨lt_of_block k4, ?_, ?_, ?_, ?_, ?_, ?_⟩, awk_mdl 0 _ _ _ _ _ _ _ _ _ _ _ _ _ k0 (k _ _ (by omega) (awkW_1 w)) (k _ _ (by omega) (awkW_2 w)) (k _ _ (by omega) (awkW_3 w)), ?_⟩
  · rw [Lib.cell_of_heap k4]; rfl
  · rw [Lib.cell_of_heap k4]; rfl
  · rw [Lib.cell_of_heap k4]; rfl
  · rw [Lib.cell_of_heap k4]; rfl
  · rw [Lib.cell_of_heap k4]; rfl
  · rw [Lib.cell_of_heap k4]; rfl
  · have b1 := bthen (awkW_below w) hb
    exact (b1.alloc b1.size _).setCell (by show w.heap.size ≤ w.heap.size + 1 + 1 + 1 + 1; omega) _
theorem awk_cells {w w1 : World} (hb : Below (awkW w).heap.size (awkW w) w1) (o : Obj) : (∃ u, (w1.alloc o).cell? ⟨w.heap.size + 1 + 1 + 1 + 1, 2, none⟩ = some u) ∧ (w1.alloc o).frozen? ⟨w.heap.size + 1 + 1 + 1 + 1, 2, none⟩ = false := by
  have l1 := lt_of_block (awkW_4 w)
  have h := awkW_4 w
  rw [← hb.block _ l1, ← Below.heap_alloc w1 o _ (Nat.lt_of_lt_of_le l1 hb.size)] at h
  exact ⟨⟨_, by rw [Lib.cell_of_heap h]; rfl⟩, Lib.frozen_of_heap h 2⟩

set_option maxHeartbeats 3200000 in
theorem awake5_any (w : World) :
    Calls Try.prog 8 #[] w fun e w' => e = .returned (.bool true) ∧ Below w.heap.size w w' := by
  have HC1 := Lib.hid (check_any (awkM 4607182418800017408) _ _ _ _ (awkW w) (awk_mdl _ _ _ _ _ _ _ _ _ _ _ _ _ _ (awkW_0 w) (awkW_1 w) (awkW_2 w) (awkW_3 w)))
  have HI : Hid (∀ w, Calls Try.prog 12 #[.agg #[.int .i64 9, .int .i64 1, .int .i64 0, .int .i64 0], .int .i64 1] w fun e w' => e = .returned (.bool true) ∧ Below w.heap.size w w') := fun w => ins_any ⟨9, 1, 0, 0⟩ 1 w
  rw [awk_good] at HC1
  have hsf := store_float
  go_enter Try.func8, Try.ntmps8
  go_wp2_with fail
  refine HC1.out.mono ?_
  rintro e w1 ⟨rfl, hb1⟩
  have hc := fun o => (awk_cells hb1 o).2
  obtain ⟨u, hu⟩ := (awk_cells hb1 (.cells #[.float .f64 0] 22)).1
  obtain ⟨hbox, hmdl, hbel⟩ := awkW2_box hb1
  have HX := Lib.hid hbox
  have HM := Lib.hid hmdl
  have HB := Lib.hid hbel
  have HB1 := Lib.hid hb1
  have HC2 := Lib.hid (check_any (awkM 0) _ _ _ _ (awkW2 w w1) hmdl)
  have HS := Lib.hid (fun w2 (k : Below (awkW2 w w1).heap.size (awkW2 w w1) w2) => same_any (awkM 0) (awkM 0) _ _ _ _ _ _ _ _ w2 (hmdl.below k) (hmdl.below k))
  rw [awk_bad] at HC2
  have e5 : sameB (awkM 0) (awkM 0) = true := sameB_refl _
  rw [e5] at HS
  obtain ⟨_, x0, x1, x2, x3, x4, x5⟩ := hbox
  clear hmdl hbel hb1 e5
  unfold awkW2 at x0 x1 x2 x3 x4 x5
  go_wp2_with (first
    | (go_at_call 10; refine HC2.out.mono ?_; rintro e w2 ⟨rfl, hb2⟩; have HB2 := Lib.hid hb2; clear hb2; obtain ⟨_, y0, y1, y2, y3, y4, y5⟩ := HX.out.below HB2.out)
    | (go_at_call 12; refine (HI.out _).mono ?_; rintro e w3 ⟨rfl, hb3⟩; have HB3 := Lib.hid (bthen HB2.out hb3); clear hb3; obtain ⟨_, y0, y1, y2, y3, y4, y5⟩ := HX.out.below HB3.out)
    | (go_at_call 16; refine (HS.out _ HB3.out).mono ?_; rintro e w4 ⟨rfl, hb4⟩))
  go_ret
  exact ⟨rfl, bthen HB.out (bthen HB3.out hb4)⟩

end Go.Proofs.Ytebopfcealhiaaa
