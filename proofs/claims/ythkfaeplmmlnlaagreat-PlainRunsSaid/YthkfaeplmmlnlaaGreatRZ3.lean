/- The contract of the document's one, for each kind of instruction. Takes out of a drawn region, said shortly: an operation that is not wanted, one that only reads. -/
import Derived.Deep.Cut
import Derived.WalkKit
import Derived.Deep.RegionHeld3
import Derived.Test.YthkfaeplmmlnlaaGreatRZ2
namespace Go.Proofs.YthkfaeplmmlnlaaGreat
open Go.RowKit
set_option linter.unusedVariables false
set_option maxRecDepth 100000

theorem four_cells {W : World} {B : Nat} {c0 c1 c2 c3 : Value} {T : TypeId} (h : W.heap[B]? = some (.cells #[c0, c1, c2, c3] T (0, 0))) :
    W.cell? ⟨B, 0, none⟩ = some c0 ∧ W.cell? ⟨B, 1, none⟩ = some c1 ∧ W.cell? ⟨B, 2, none⟩ = some c2 ∧ W.cell? ⟨B, 3, none⟩ = some c3 := by
  refine ⟨?_, ?_, ?_, ?_⟩ <;> (rw [Lib.cell_of_heap h]; rfl)
theorem six_cells7 {W : World} {B : Nat} {c0 c1 c2 c3 c4 c5 : Value} {T : TypeId} (h : W.heap[B]? = some (.cells #[c0, c1, c2, c3, c4, c5] T (0, 0))) :
    W.cell? ⟨B, 0, none⟩ = some c0 ∧ W.cell? ⟨B, 1, none⟩ = some c1 ∧ W.cell? ⟨B, 2, none⟩ = some c2 ∧ W.cell? ⟨B, 3, none⟩ = some c3 ∧ W.cell? ⟨B, 4, none⟩ = some c4 ∧ W.cell? ⟨B, 5, none⟩ = some c5 := by
  refine ⟨?_, ?_, ?_, ?_, ?_, ?_⟩ <;> (rw [Lib.cell_of_heap h]; rfl)
theorem cell_set_other {W : World} {b o k i : Nat} {v x : Value} (h : W.cell? ⟨b, o, none⟩ = some v) (hne : b ≠ k) : (W.setCell ⟨k, i, none⟩ x).drew.drew.cell? ⟨b, o, none⟩ = some v := by
  rw [← h]
  exact World.cell?_of_block (w := W) (Below.heap_setCell W ⟨k, i, none⟩ x b hne)
section
variable {base P bg : Nat} {vw vs : Value} {r : Mch}
set_option maxHeartbeats 1600000 in
theorem one7_set (i : Nat) (hi : i < 8) (b : Int) (c : Int) (vI : Value) (pay me lps seed dice : Int) (w : World) (hr : RunAt base P bg vw vs r w) (hbase : base ≤ w.heap.size) :
    Calls Tryz.prog 89 #[.pointer (some ⟨P, 0, none⟩), .agg #[.int .i64 (1), .int .i64 (i : Int), .int .i64 b, .int .i64 c], .agg #[vI, .int .i64 pay, .int .i64 me, .int .i64 lps, .int .i64 seed, .int .i64 dice]] w fun e w' => e = .returned (.int .i64 0) ∧ RunAt base P bg vw vs { r with g := upd r.g i b } w' ∧ Below base w w' := by
  have X1 : ((w.alloc (.cells #[.int .i64 (1), .int .i64 (i : Int), .int .i64 b, .int .i64 c] 99)).alloc (.cells #[vI, .int .i64 pay, .int .i64 me, .int .i64 lps, .int .i64 seed, .int .i64 dice] 87)).heap[w.heap.size]? = some (.cells #[.int .i64 (1), .int .i64 (i : Int), .int .i64 b, .int .i64 c] 99) := (Below.heap_alloc _ _ _ (by rw [World.size_alloc]; omega)).trans (heap_alloc_new w _)
  have X2 : ((w.alloc (.cells #[.int .i64 (1), .int .i64 (i : Int), .int .i64 b, .int .i64 c] 99)).alloc (.cells #[vI, .int .i64 pay, .int .i64 me, .int .i64 lps, .int .i64 seed, .int .i64 dice] 87)).heap[w.heap.size + 1]? = some (.cells #[vI, .int .i64 pay, .int .i64 me, .int .i64 lps, .int .i64 seed, .int .i64 dice] 87) := by
    have := heap_alloc_new (w.alloc (.cells #[.int .i64 (1), .int .i64 (i : Int), .int .i64 b, .int .i64 c] 99)) (.cells #[vI, .int .i64 pay, .int .i64 me, .int .i64 lps, .int .i64 seed, .int .i64 dice] 87)
    rwa [World.size_alloc] at this
  have B0 := Lib.hid (bthen (balloc w (.cells #[.int .i64 (1), .int .i64 (i : Int), .int .i64 b, .int .i64 c] 99)) (balloc _ (.cells #[vI, .int .i64 pay, .int .i64 me, .int .i64 lps, .int .i64 seed, .int .i64 dice] 87)))
  have RU := Lib.hid (hr.below B0.out)
  have HB := Lib.hid hbase
  have RW0 : Hid (P < w.heap.size ∧ bg < w.heap.size) := ⟨lt_of_block hr.box, lt_of_block hr.regs⟩
  obtain ⟨x0, x1, x2, x3⟩ := four_cells X1
  obtain ⟨n0, n1, n2, n3, n4, n5⟩ := six_cells7 X2
  clear X1 X2 hr hbase
  have HU := Lib.hid (rfl : ((w.alloc (.cells #[.int .i64 (1), .int .i64 (i : Int), .int .i64 b, .int .i64 c] 99)).alloc (.cells #[vI, .int .i64 pay, .int .i64 me, .int .i64 lps, .int .i64 seed, .int .i64 dice] 87)) = ((w.alloc (.cells #[.int .i64 (1), .int .i64 (i : Int), .int .i64 b, .int .i64 c] 99)).alloc (.cells #[vI, .int .i64 pay, .int .i64 me, .int .i64 lps, .int .i64 seed, .int .i64 dice] 87)))
  generalize hu : ((w.alloc (.cells #[.int .i64 (1), .int .i64 (i : Int), .int .i64 b, .int .i64 c] 99)).alloc (.cells #[vI, .int .i64 pay, .int .i64 me, .int .i64 lps, .int .i64 seed, .int .i64 dice] 87)) = u at RU B0 x0 x1 x2 x3 n0 n1 n2 n3 n4 n5
  clear HU
  obtain ⟨p0, p1, p2, p3, p4, p5, p6, pf⟩ := RU.out.cells
  have gi := RU.out.reg hi
  have gfi := RU.out.regF i
  have bi : ((i : Nat) : Int) < 8 := by omega
  have li : (0 : Int) ≤ ((i : Nat) : Int) := by omega
  have ti : ((i : Nat) : Int).toNat = i := by omega
  go_enter Tryz.func89, Tryz.ntmps89
  go_upto_region 1 with fail
  try rw [hu]
  clear hu
  go_wp2_with fail
  go_region
  go_wp2_with fail
  go_ret
  exact ⟨rfl, (RU.out.setReg hi b).drew, ((B0.out.mono HB.out).setCell (p := ⟨bg, i, none⟩) RU.out.lo2 (.int .i64 b)).drew⟩
set_option maxHeartbeats 1600000 in
theorem one7_move (i : Nat) (hi : i < 8) (j : Nat) (hj : j < 8) (c : Int) (vI : Value) (pay me lps seed dice : Int) (w : World) (hr : RunAt base P bg vw vs r w) (hbase : base ≤ w.heap.size) :
    Calls Tryz.prog 89 #[.pointer (some ⟨P, 0, none⟩), .agg #[.int .i64 (2), .int .i64 (i : Int), .int .i64 (j : Int), .int .i64 c], .agg #[vI, .int .i64 pay, .int .i64 me, .int .i64 lps, .int .i64 seed, .int .i64 dice]] w fun e w' => e = .returned (.int .i64 0) ∧ RunAt base P bg vw vs { r with g := upd r.g i (r.g j) } w' ∧ Below base w w' := by
  have X1 : ((w.alloc (.cells #[.int .i64 (2), .int .i64 (i : Int), .int .i64 (j : Int), .int .i64 c] 99)).alloc (.cells #[vI, .int .i64 pay, .int .i64 me, .int .i64 lps, .int .i64 seed, .int .i64 dice] 87)).heap[w.heap.size]? = some (.cells #[.int .i64 (2), .int .i64 (i : Int), .int .i64 (j : Int), .int .i64 c] 99) := (Below.heap_alloc _ _ _ (by rw [World.size_alloc]; omega)).trans (heap_alloc_new w _)
  have X2 : ((w.alloc (.cells #[.int .i64 (2), .int .i64 (i : Int), .int .i64 (j : Int), .int .i64 c] 99)).alloc (.cells #[vI, .int .i64 pay, .int .i64 me, .int .i64 lps, .int .i64 seed, .int .i64 dice] 87)).heap[w.heap.size + 1]? = some (.cells #[vI, .int .i64 pay, .int .i64 me, .int .i64 lps, .int .i64 seed, .int .i64 dice] 87) := by
    have := heap_alloc_new (w.alloc (.cells #[.int .i64 (2), .int .i64 (i : Int), .int .i64 (j : Int), .int .i64 c] 99)) (.cells #[vI, .int .i64 pay, .int .i64 me, .int .i64 lps, .int .i64 seed, .int .i64 dice] 87)
    rwa [World.size_alloc] at this
  have B0 := Lib.hid (bthen (balloc w (.cells #[.int .i64 (2), .int .i64 (i : Int), .int .i64 (j : Int), .int .i64 c] 99)) (balloc _ (.cells #[vI, .int .i64 pay, .int .i64 me, .int .i64 lps, .int .i64 seed, .int .i64 dice] 87)))
  have RU := Lib.hid (hr.below B0.out)
  have HB := Lib.hid hbase
  have RW0 : Hid (P < w.heap.size ∧ bg < w.heap.size) := ⟨lt_of_block hr.box, lt_of_block hr.regs⟩
  obtain ⟨x0, x1, x2, x3⟩ := four_cells X1
  obtain ⟨n0, n1, n2, n3, n4, n5⟩ := six_cells7 X2
  clear X1 X2 hr hbase
  have HU := Lib.hid (rfl : ((w.alloc (.cells #[.int .i64 (2), .int .i64 (i : Int), .int .i64 (j : Int), .int .i64 c] 99)).alloc (.cells #[vI, .int .i64 pay, .int .i64 me, .int .i64 lps, .int .i64 seed, .int .i64 dice] 87)) = ((w.alloc (.cells #[.int .i64 (2), .int .i64 (i : Int), .int .i64 (j : Int), .int .i64 c] 99)).alloc (.cells #[vI, .int .i64 pay, .int .i64 me, .int .i64 lps, .int .i64 seed, .int .i64 dice] 87)))
  generalize hu : ((w.alloc (.cells #[.int .i64 (2), .int .i64 (i : Int), .int .i64 (j : Int), .int .i64 c] 99)).alloc (.cells #[vI, .int .i64 pay, .int .i64 me, .int .i64 lps, .int .i64 seed, .int .i64 dice] 87)) = u at RU B0 x0 x1 x2 x3 n0 n1 n2 n3 n4 n5
  clear HU
  obtain ⟨p0, p1, p2, p3, p4, p5, p6, pf⟩ := RU.out.cells
  have gi := RU.out.reg hi
  have gfi := RU.out.regF i
  have bi : ((i : Nat) : Int) < 8 := by omega
  have li : (0 : Int) ≤ ((i : Nat) : Int) := by omega
  have ti : ((i : Nat) : Int).toNat = i := by omega
  have gj := RU.out.reg hj
  have gfj := RU.out.regF j
  have bj : ((j : Nat) : Int) < 8 := by omega
  have lj : (0 : Int) ≤ ((j : Nat) : Int) := by omega
  have tj : ((j : Nat) : Int).toNat = j := by omega
  go_enter Tryz.func89, Tryz.ntmps89
  go_upto_region 1 with fail
  try rw [hu]
  clear hu
  go_wp2_with fail
  go_region
  go_wp2_with fail
  go_ret
  exact ⟨rfl, (RU.out.setReg hi _).drew, ((B0.out.mono HB.out).setCell (p := ⟨bg, i, none⟩) RU.out.lo2 _).drew⟩
set_option maxHeartbeats 1600000 in
theorem one7_jump (p : Nat) (b : Int) (c : Int) (vI : Value) (pay me lps seed dice : Int) (w : World) (hr : RunAt base P bg vw vs r w) (hbase : base ≤ w.heap.size) :
    Calls Tryz.prog 89 #[.pointer (some ⟨P, 0, none⟩), .agg #[.int .i64 (9), .int .i64 (p : Int), .int .i64 b, .int .i64 c], .agg #[vI, .int .i64 pay, .int .i64 me, .int .i64 lps, .int .i64 seed, .int .i64 dice]] w fun e w' => e = .returned (.int .i64 0) ∧ RunAt base P bg vw vs { r with pc := p } w' ∧ Below base w w' := by
  have X1 : ((w.alloc (.cells #[.int .i64 (9), .int .i64 (p : Int), .int .i64 b, .int .i64 c] 99)).alloc (.cells #[vI, .int .i64 pay, .int .i64 me, .int .i64 lps, .int .i64 seed, .int .i64 dice] 87)).heap[w.heap.size]? = some (.cells #[.int .i64 (9), .int .i64 (p : Int), .int .i64 b, .int .i64 c] 99) := (Below.heap_alloc _ _ _ (by rw [World.size_alloc]; omega)).trans (heap_alloc_new w _)
  have X2 : ((w.alloc (.cells #[.int .i64 (9), .int .i64 (p : Int), .int .i64 b, .int .i64 c] 99)).alloc (.cells #[vI, .int .i64 pay, .int .i64 me, .int .i64 lps, .int .i64 seed, .int .i64 dice] 87)).heap[w.heap.size + 1]? = some (.cells #[vI, .int .i64 pay, .int .i64 me, .int .i64 lps, .int .i64 seed, .int .i64 dice] 87) := by
    have := heap_alloc_new (w.alloc (.cells #[.int .i64 (9), .int .i64 (p : Int), .int .i64 b, .int .i64 c] 99)) (.cells #[vI, .int .i64 pay, .int .i64 me, .int .i64 lps, .int .i64 seed, .int .i64 dice] 87)
    rwa [World.size_alloc] at this
  have B0 := Lib.hid (bthen (balloc w (.cells #[.int .i64 (9), .int .i64 (p : Int), .int .i64 b, .int .i64 c] 99)) (balloc _ (.cells #[vI, .int .i64 pay, .int .i64 me, .int .i64 lps, .int .i64 seed, .int .i64 dice] 87)))
  have RU := Lib.hid (hr.below B0.out)
  have HB := Lib.hid hbase
  have RW0 : Hid (P < w.heap.size ∧ bg < w.heap.size) := ⟨lt_of_block hr.box, lt_of_block hr.regs⟩
  obtain ⟨x0, x1, x2, x3⟩ := four_cells X1
  obtain ⟨n0, n1, n2, n3, n4, n5⟩ := six_cells7 X2
  clear X1 X2 hr hbase
  have HU := Lib.hid (rfl : ((w.alloc (.cells #[.int .i64 (9), .int .i64 (p : Int), .int .i64 b, .int .i64 c] 99)).alloc (.cells #[vI, .int .i64 pay, .int .i64 me, .int .i64 lps, .int .i64 seed, .int .i64 dice] 87)) = ((w.alloc (.cells #[.int .i64 (9), .int .i64 (p : Int), .int .i64 b, .int .i64 c] 99)).alloc (.cells #[vI, .int .i64 pay, .int .i64 me, .int .i64 lps, .int .i64 seed, .int .i64 dice] 87)))
  generalize hu : ((w.alloc (.cells #[.int .i64 (9), .int .i64 (p : Int), .int .i64 b, .int .i64 c] 99)).alloc (.cells #[vI, .int .i64 pay, .int .i64 me, .int .i64 lps, .int .i64 seed, .int .i64 dice] 87)) = u at RU B0 x0 x1 x2 x3 n0 n1 n2 n3 n4 n5
  clear HU
  obtain ⟨p0, p1, p2, p3, p4, p5, p6, pf⟩ := RU.out.cells
  go_enter Tryz.func89, Tryz.ntmps89
  go_upto_region 1 with fail
  try rw [hu]
  clear hu
  go_wp2_with fail
  go_ret
  exact ⟨rfl, RU.out.setPc p, (B0.out.mono HB.out).setCell (p := ⟨P, 4, none⟩) RU.out.lo _⟩
set_option maxHeartbeats 1600000 in
theorem one7_zero (i : Nat) (hi : i < 8) (p : Nat) (c : Int) (vI : Value) (pay me lps seed dice : Int) (w : World) (hr : RunAt base P bg vw vs r w) (hbase : base ≤ w.heap.size) :
    Calls Tryz.prog 89 #[.pointer (some ⟨P, 0, none⟩), .agg #[.int .i64 (10), .int .i64 (i : Int), .int .i64 (p : Int), .int .i64 c], .agg #[vI, .int .i64 pay, .int .i64 me, .int .i64 lps, .int .i64 seed, .int .i64 dice]] w fun e w' => e = .returned (.int .i64 0) ∧ RunAt base P bg vw vs (if r.g i = 0 then { r with pc := p } else r) w' ∧ Below base w w' := by
  have X1 : ((w.alloc (.cells #[.int .i64 (10), .int .i64 (i : Int), .int .i64 (p : Int), .int .i64 c] 99)).alloc (.cells #[vI, .int .i64 pay, .int .i64 me, .int .i64 lps, .int .i64 seed, .int .i64 dice] 87)).heap[w.heap.size]? = some (.cells #[.int .i64 (10), .int .i64 (i : Int), .int .i64 (p : Int), .int .i64 c] 99) := (Below.heap_alloc _ _ _ (by rw [World.size_alloc]; omega)).trans (heap_alloc_new w _)
  have X2 : ((w.alloc (.cells #[.int .i64 (10), .int .i64 (i : Int), .int .i64 (p : Int), .int .i64 c] 99)).alloc (.cells #[vI, .int .i64 pay, .int .i64 me, .int .i64 lps, .int .i64 seed, .int .i64 dice] 87)).heap[w.heap.size + 1]? = some (.cells #[vI, .int .i64 pay, .int .i64 me, .int .i64 lps, .int .i64 seed, .int .i64 dice] 87) := by
    have := heap_alloc_new (w.alloc (.cells #[.int .i64 (10), .int .i64 (i : Int), .int .i64 (p : Int), .int .i64 c] 99)) (.cells #[vI, .int .i64 pay, .int .i64 me, .int .i64 lps, .int .i64 seed, .int .i64 dice] 87)
    rwa [World.size_alloc] at this
  have B0 := Lib.hid (bthen (balloc w (.cells #[.int .i64 (10), .int .i64 (i : Int), .int .i64 (p : Int), .int .i64 c] 99)) (balloc _ (.cells #[vI, .int .i64 pay, .int .i64 me, .int .i64 lps, .int .i64 seed, .int .i64 dice] 87)))
  have RU := Lib.hid (hr.below B0.out)
  have HB := Lib.hid hbase
  have RW0 : Hid (P < w.heap.size ∧ bg < w.heap.size) := ⟨lt_of_block hr.box, lt_of_block hr.regs⟩
  obtain ⟨x0, x1, x2, x3⟩ := four_cells X1
  obtain ⟨n0, n1, n2, n3, n4, n5⟩ := six_cells7 X2
  clear X1 X2 hr hbase
  have HU := Lib.hid (rfl : ((w.alloc (.cells #[.int .i64 (10), .int .i64 (i : Int), .int .i64 (p : Int), .int .i64 c] 99)).alloc (.cells #[vI, .int .i64 pay, .int .i64 me, .int .i64 lps, .int .i64 seed, .int .i64 dice] 87)) = ((w.alloc (.cells #[.int .i64 (10), .int .i64 (i : Int), .int .i64 (p : Int), .int .i64 c] 99)).alloc (.cells #[vI, .int .i64 pay, .int .i64 me, .int .i64 lps, .int .i64 seed, .int .i64 dice] 87)))
  generalize hu : ((w.alloc (.cells #[.int .i64 (10), .int .i64 (i : Int), .int .i64 (p : Int), .int .i64 c] 99)).alloc (.cells #[vI, .int .i64 pay, .int .i64 me, .int .i64 lps, .int .i64 seed, .int .i64 dice] 87)) = u at RU B0 x0 x1 x2 x3 n0 n1 n2 n3 n4 n5
  clear HU
  obtain ⟨p0, p1, p2, p3, p4, p5, p6, pf⟩ := RU.out.cells
  have gi := RU.out.reg hi
  have gfi := RU.out.regF i
  have bi : ((i : Nat) : Int) < 8 := by omega
  have li : (0 : Int) ≤ ((i : Nat) : Int) := by omega
  have ti : ((i : Nat) : Int).toNat = i := by omega
  by_cases h0 : r.g i = 0
  · have d0 : (r.g i == 0) = true := by simp [h0]
    rw [if_pos h0]
    clear h0
    go_enter Tryz.func89, Tryz.ntmps89
    go_upto_region 1 with fail
    try rw [hu]
    clear hu
    go_wp2_with fail
    go_region
    go_wp2_with fail
    go_ret
    exact ⟨rfl, RU.out.drew.setPc p, (B0.out.mono HB.out).drew.setCell (p := ⟨P, 4, none⟩) RU.out.lo _⟩
  · have d0 : (r.g i == 0) = false := by simp [h0]
    rw [if_neg h0]
    clear h0
    go_enter Tryz.func89, Tryz.ntmps89
    go_upto_region 1 with fail
    try rw [hu]
    clear hu
    go_wp2_with fail
    go_region
    go_wp2_with fail
    go_ret
    exact ⟨rfl, RU.out.drew, (B0.out.mono HB.out).drew⟩
set_option maxHeartbeats 1600000 in
theorem one7_load (i : Nat) (hi : i < 8) (j : Nat) (hj : j < 8) (c : Int) (vI : Value) (pay me lps seed dice : Int) (w : World) (hr : RunAt base P bg vw vs r w) (hbase : base ≤ w.heap.size) :
    Calls Tryz.prog 89 #[.pointer (some ⟨P, 0, none⟩), .agg #[.int .i64 (13), .int .i64 (i : Int), .int .i64 (j : Int), .int .i64 c], .agg #[vI, .int .i64 pay, .int .i64 me, .int .i64 lps, .int .i64 seed, .int .i64 dice]] w fun e w' => e = .returned (.int .i64 (if r.g j < 0 ∨ (r.nw : Int) ≤ r.g j then 3 else 0)) ∧ RunAt base P bg vw vs (if r.g j < 0 ∨ (r.nw : Int) ≤ r.g j then r else { r with g := upd r.g i (r.w (r.g j).toNat) }) w' ∧ Below base w w' := by
  have X1 : ((w.alloc (.cells #[.int .i64 (13), .int .i64 (i : Int), .int .i64 (j : Int), .int .i64 c] 99)).alloc (.cells #[vI, .int .i64 pay, .int .i64 me, .int .i64 lps, .int .i64 seed, .int .i64 dice] 87)).heap[w.heap.size]? = some (.cells #[.int .i64 (13), .int .i64 (i : Int), .int .i64 (j : Int), .int .i64 c] 99) := (Below.heap_alloc _ _ _ (by rw [World.size_alloc]; omega)).trans (heap_alloc_new w _)
  have X2 : ((w.alloc (.cells #[.int .i64 (13), .int .i64 (i : Int), .int .i64 (j : Int), .int .i64 c] 99)).alloc (.cells #[vI, .int .i64 pay, .int .i64 me, .int .i64 lps, .int .i64 seed, .int .i64 dice] 87)).heap[w.heap.size + 1]? = some (.cells #[vI, .int .i64 pay, .int .i64 me, .int .i64 lps, .int .i64 seed, .int .i64 dice] 87) := by
    have := heap_alloc_new (w.alloc (.cells #[.int .i64 (13), .int .i64 (i : Int), .int .i64 (j : Int), .int .i64 c] 99)) (.cells #[vI, .int .i64 pay, .int .i64 me, .int .i64 lps, .int .i64 seed, .int .i64 dice] 87)
    rwa [World.size_alloc] at this
  have B0 := Lib.hid (bthen (balloc w (.cells #[.int .i64 (13), .int .i64 (i : Int), .int .i64 (j : Int), .int .i64 c] 99)) (balloc _ (.cells #[vI, .int .i64 pay, .int .i64 me, .int .i64 lps, .int .i64 seed, .int .i64 dice] 87)))
  have RU := Lib.hid (hr.below B0.out)
  have HB := Lib.hid hbase
  have RW0 : Hid (P < w.heap.size ∧ bg < w.heap.size) := ⟨lt_of_block hr.box, lt_of_block hr.regs⟩
  obtain ⟨x0, x1, x2, x3⟩ := four_cells X1
  obtain ⟨n0, n1, n2, n3, n4, n5⟩ := six_cells7 X2
  clear X1 X2 hr hbase
  have HU := Lib.hid (rfl : ((w.alloc (.cells #[.int .i64 (13), .int .i64 (i : Int), .int .i64 (j : Int), .int .i64 c] 99)).alloc (.cells #[vI, .int .i64 pay, .int .i64 me, .int .i64 lps, .int .i64 seed, .int .i64 dice] 87)) = ((w.alloc (.cells #[.int .i64 (13), .int .i64 (i : Int), .int .i64 (j : Int), .int .i64 c] 99)).alloc (.cells #[vI, .int .i64 pay, .int .i64 me, .int .i64 lps, .int .i64 seed, .int .i64 dice] 87)))
  generalize hu : ((w.alloc (.cells #[.int .i64 (13), .int .i64 (i : Int), .int .i64 (j : Int), .int .i64 c] 99)).alloc (.cells #[vI, .int .i64 pay, .int .i64 me, .int .i64 lps, .int .i64 seed, .int .i64 dice] 87)) = u at RU B0 x0 x1 x2 x3 n0 n1 n2 n3 n4 n5
  clear HU
  obtain ⟨p0, p1, p2, p3, p4, p5, p6, pf⟩ := RU.out.cells
  have gi := RU.out.reg hi
  have gfi := RU.out.regF i
  have bi : ((i : Nat) : Int) < 8 := by omega
  have li : (0 : Int) ≤ ((i : Nat) : Int) := by omega
  have ti : ((i : Nat) : Int).toNat = i := by omega
  have gj := RU.out.reg hj
  have gfj := RU.out.regF j
  have bj : ((j : Nat) : Int) < 8 := by omega
  have lj : (0 : Int) ≤ ((j : Nat) : Int) := by omega
  have tj : ((j : Nat) : Int).toNat = j := by omega
  obtain ⟨aw, cw, rfl⟩ := RU.out.form
  by_cases h0 : r.g j < 0
  · have d0 : decide (r.g j < 0) = true := by simp [h0]
    rw [if_pos (Or.inl h0), if_pos (Or.inl h0)]
    clear h0
    go_enter Tryz.func89, Tryz.ntmps89
    go_upto_region 1 with fail
    try rw [hu]
    clear hu
    go_wp2_with fail
    go_region
    go_wp2_with fail
    go_ret
    exact ⟨rfl, RU.out.drew, (B0.out.mono HB.out).drew⟩
  · have d0 : decide (r.g j < 0) = false := by simp [h0]
    by_cases h1 : (r.nw : Int) ≤ r.g j
    · have d1 : decide ((r.nw : Int) ≤ r.g j) = true := by simp [h1]
      rw [if_pos (Or.inr h1), if_pos (Or.inr h1)]
      clear h0 h1
      go_enter Tryz.func89, Tryz.ntmps89
      go_upto_region 1 with fail
      try rw [hu]
      clear hu
      go_wp2_with fail
      go_region
      go_wp2_with fail
      go_ret
      exact ⟨rfl, RU.out.drew, (B0.out.mono HB.out).drew⟩
    · obtain ⟨k, hk⟩ := Int.eq_ofNat_of_zero_le (show 0 ≤ r.g j by omega)
      have hkn : k < r.nw := by omega
      have e1 : ¬ (r.g j < 0 ∨ (r.nw : Int) ≤ r.g j) := by omega
      rw [if_neg e1, if_neg e1, hk]
      rw [hk] at gj
      obtain ⟨bw, cap, e2, m1, m2, m3, m4, m5, wk, wkF, _⟩ := RU.out.words hkn
      simp only [Value.slice.injEq, true_and] at e2
      obtain ⟨rfl, rfl⟩ := e2
      have d0 : decide ((k : Int) < 0) = false := by rw [decide_eq_false_iff_not]; omega
      have d1 : decide ((r.nw : Int) ≤ (k : Int)) = false := by rw [decide_eq_false_iff_not]; omega
      have bk : ((k : Nat) : Int) < (r.nw : Int) := by omega
      have lk : (0 : Int) ≤ ((k : Nat) : Int) := by omega
      have tk : ((k : Nat) : Int).toNat = k := by omega
      have wkf := wkF k
      rw [tk]
      clear h0 h1 e1 hk hkn m4 m5 wkF
      go_enter Tryz.func89, Tryz.ntmps89
      go_upto_region 1 with fail
      try rw [hu]
      clear hu
      go_wp2_with fail
      go_region
      go_wp2_with fail
      go_region
      go_wp2_with fail
      go_ret
      exact ⟨rfl, ((RU.out.drew).setReg hi _).drew, ((B0.out.mono HB.out).drew.setCell (p := ⟨bg, i, none⟩) RU.out.lo2 _).drew⟩
set_option maxHeartbeats 1600000 in
theorem one7_store (i : Nat) (hi : i < 8) (j : Nat) (hj : j < 8) (c : Int) (vI : Value) (pay me lps seed dice : Int) (w : World) (hr : RunAt base P bg vw vs r w) (hbase : base ≤ w.heap.size) :
    Calls Tryz.prog 89 #[.pointer (some ⟨P, 0, none⟩), .agg #[.int .i64 (14), .int .i64 (i : Int), .int .i64 (j : Int), .int .i64 c], .agg #[vI, .int .i64 pay, .int .i64 me, .int .i64 lps, .int .i64 seed, .int .i64 dice]] w fun e w' => e = .returned (.int .i64 (if r.g i < 0 ∨ (r.nw : Int) ≤ r.g i then 3 else 0)) ∧ RunAt base P bg vw vs (if r.g i < 0 ∨ (r.nw : Int) ≤ r.g i then r else { r with w := upd r.w (r.g i).toNat (r.g j) }) w' ∧ Below base w w' := by
  have X1 : ((w.alloc (.cells #[.int .i64 (14), .int .i64 (i : Int), .int .i64 (j : Int), .int .i64 c] 99)).alloc (.cells #[vI, .int .i64 pay, .int .i64 me, .int .i64 lps, .int .i64 seed, .int .i64 dice] 87)).heap[w.heap.size]? = some (.cells #[.int .i64 (14), .int .i64 (i : Int), .int .i64 (j : Int), .int .i64 c] 99) := (Below.heap_alloc _ _ _ (by rw [World.size_alloc]; omega)).trans (heap_alloc_new w _)
  have X2 : ((w.alloc (.cells #[.int .i64 (14), .int .i64 (i : Int), .int .i64 (j : Int), .int .i64 c] 99)).alloc (.cells #[vI, .int .i64 pay, .int .i64 me, .int .i64 lps, .int .i64 seed, .int .i64 dice] 87)).heap[w.heap.size + 1]? = some (.cells #[vI, .int .i64 pay, .int .i64 me, .int .i64 lps, .int .i64 seed, .int .i64 dice] 87) := by
    have := heap_alloc_new (w.alloc (.cells #[.int .i64 (14), .int .i64 (i : Int), .int .i64 (j : Int), .int .i64 c] 99)) (.cells #[vI, .int .i64 pay, .int .i64 me, .int .i64 lps, .int .i64 seed, .int .i64 dice] 87)
    rwa [World.size_alloc] at this
  have B0 := Lib.hid (bthen (balloc w (.cells #[.int .i64 (14), .int .i64 (i : Int), .int .i64 (j : Int), .int .i64 c] 99)) (balloc _ (.cells #[vI, .int .i64 pay, .int .i64 me, .int .i64 lps, .int .i64 seed, .int .i64 dice] 87)))
  have RU := Lib.hid (hr.below B0.out)
  have HB := Lib.hid hbase
  have RW0 : Hid (P < w.heap.size ∧ bg < w.heap.size) := ⟨lt_of_block hr.box, lt_of_block hr.regs⟩
  obtain ⟨x0, x1, x2, x3⟩ := four_cells X1
  obtain ⟨n0, n1, n2, n3, n4, n5⟩ := six_cells7 X2
  clear X1 X2 hr hbase
  have HU := Lib.hid (rfl : ((w.alloc (.cells #[.int .i64 (14), .int .i64 (i : Int), .int .i64 (j : Int), .int .i64 c] 99)).alloc (.cells #[vI, .int .i64 pay, .int .i64 me, .int .i64 lps, .int .i64 seed, .int .i64 dice] 87)) = ((w.alloc (.cells #[.int .i64 (14), .int .i64 (i : Int), .int .i64 (j : Int), .int .i64 c] 99)).alloc (.cells #[vI, .int .i64 pay, .int .i64 me, .int .i64 lps, .int .i64 seed, .int .i64 dice] 87)))
  generalize hu : ((w.alloc (.cells #[.int .i64 (14), .int .i64 (i : Int), .int .i64 (j : Int), .int .i64 c] 99)).alloc (.cells #[vI, .int .i64 pay, .int .i64 me, .int .i64 lps, .int .i64 seed, .int .i64 dice] 87)) = u at RU B0 x0 x1 x2 x3 n0 n1 n2 n3 n4 n5
  clear HU
  obtain ⟨p0, p1, p2, p3, p4, p5, p6, pf⟩ := RU.out.cells
  have gi := RU.out.reg hi
  have gfi := RU.out.regF i
  have bi : ((i : Nat) : Int) < 8 := by omega
  have li : (0 : Int) ≤ ((i : Nat) : Int) := by omega
  have ti : ((i : Nat) : Int).toNat = i := by omega
  have gj := RU.out.reg hj
  have gfj := RU.out.regF j
  have bj : ((j : Nat) : Int) < 8 := by omega
  have lj : (0 : Int) ≤ ((j : Nat) : Int) := by omega
  have tj : ((j : Nat) : Int).toNat = j := by omega
  obtain ⟨aw, cw, rfl⟩ := RU.out.form
  by_cases h0 : r.g i < 0
  · have d0 : decide (r.g i < 0) = true := by simp [h0]
    rw [if_pos (Or.inl h0), if_pos (Or.inl h0)]
    clear h0
    go_enter Tryz.func89, Tryz.ntmps89
    go_upto_region 1 with fail
    try rw [hu]
    clear hu
    go_wp2_with fail
    go_region
    go_wp2_with fail
    go_ret
    exact ⟨rfl, RU.out.drew, (B0.out.mono HB.out).drew⟩
  · have d0 : decide (r.g i < 0) = false := by simp [h0]
    by_cases h1 : (r.nw : Int) ≤ r.g i
    · have d1 : decide ((r.nw : Int) ≤ r.g i) = true := by simp [h1]
      rw [if_pos (Or.inr h1), if_pos (Or.inr h1)]
      clear h0 h1
      go_enter Tryz.func89, Tryz.ntmps89
      go_upto_region 1 with fail
      try rw [hu]
      clear hu
      go_wp2_with fail
      go_region
      go_wp2_with fail
      go_ret
      exact ⟨rfl, RU.out.drew, (B0.out.mono HB.out).drew⟩
    · obtain ⟨k, hk⟩ := Int.eq_ofNat_of_zero_le (show 0 ≤ r.g i by omega)
      have hkn : k < r.nw := by omega
      have e1 : ¬ (r.g i < 0 ∨ (r.nw : Int) ≤ r.g i) := by omega
      rw [if_neg e1, if_neg e1, hk]
      rw [hk] at gi
      obtain ⟨bw, cap, e2, m1, m2, m3, m4, m5, wk, wkF, RW⟩ := RU.out.drew.words hkn
      simp only [Value.slice.injEq, true_and] at e2
      obtain ⟨rfl, rfl⟩ := e2
      have RW := Lib.hid RW
      have M3 := Lib.hid m3
      have wk : u.cell? ⟨bw, k, none⟩ = some (.int .i64 (r.w k)) := wk
      have wkf : u.frozen? ⟨bw, k, none⟩ = false := wkF k
      have d0 : decide ((k : Int) < 0) = false := by rw [decide_eq_false_iff_not]; omega
      have d1 : decide ((r.nw : Int) ≤ (k : Int)) = false := by rw [decide_eq_false_iff_not]; omega
      have bk : ((k : Nat) : Int) < (r.nw : Int) := by omega
      have lk : (0 : Int) ≤ ((k : Nat) : Int) := by omega
      have tk : ((k : Nat) : Int).toNat = k := by omega
      rw [tk]
      clear h0 h1 e1 hk hkn m3 m4 m5 wkF
      go_enter Tryz.func89, Tryz.ntmps89
      go_upto_region 1 with fail
      try rw [hu]
      clear hu
      go_wp2_with fail
      go_region
      go_wp2_with fail
      go_region
      go_wp2_with fail
      go_ret
      exact ⟨rfl, (RW.out _).drew, ((B0.out.mono HB.out).drew.setCell (p := ⟨bw, k, none⟩) M3.out _).drew⟩
set_option maxHeartbeats 1600000 in
theorem one7_two (op : Int) (i : Nat) (hi : i < 8) (j : Nat) (hj : j < 8) (k : Nat) (hk : k < 8) (vI : Value) (pay me lps seed dice : Int) (w : World) (hr : RunAt base P bg vw vs r w) (hbase : base ≤ w.heap.size) (h3 : 3 ≤ op) (h8 : op ≤ 8) :
    Calls Tryz.prog 89 #[.pointer (some ⟨P, 0, none⟩), .agg #[.int .i64 (op), .int .i64 (i : Int), .int .i64 (j : Int), .int .i64 (k : Int)], .agg #[vI, .int .i64 pay, .int .i64 me, .int .i64 lps, .int .i64 seed, .int .i64 dice]] w fun e w' => e = .returned (.int .i64 (twoF op (r.g k))) ∧ RunAt base P bg vw vs (if twoF op (r.g k) = 0 then { r with g := upd r.g i (twoV op (r.g j) (r.g k)) } else r) w' ∧ Below base w w' := by
  have X1 : ((w.alloc (.cells #[.int .i64 (op), .int .i64 (i : Int), .int .i64 (j : Int), .int .i64 (k : Int)] 99)).alloc (.cells #[vI, .int .i64 pay, .int .i64 me, .int .i64 lps, .int .i64 seed, .int .i64 dice] 87)).heap[w.heap.size]? = some (.cells #[.int .i64 (op), .int .i64 (i : Int), .int .i64 (j : Int), .int .i64 (k : Int)] 99) := (Below.heap_alloc _ _ _ (by rw [World.size_alloc]; omega)).trans (heap_alloc_new w _)
  have X2 : ((w.alloc (.cells #[.int .i64 (op), .int .i64 (i : Int), .int .i64 (j : Int), .int .i64 (k : Int)] 99)).alloc (.cells #[vI, .int .i64 pay, .int .i64 me, .int .i64 lps, .int .i64 seed, .int .i64 dice] 87)).heap[w.heap.size + 1]? = some (.cells #[vI, .int .i64 pay, .int .i64 me, .int .i64 lps, .int .i64 seed, .int .i64 dice] 87) := by
    have := heap_alloc_new (w.alloc (.cells #[.int .i64 (op), .int .i64 (i : Int), .int .i64 (j : Int), .int .i64 (k : Int)] 99)) (.cells #[vI, .int .i64 pay, .int .i64 me, .int .i64 lps, .int .i64 seed, .int .i64 dice] 87)
    rwa [World.size_alloc] at this
  have B0 := Lib.hid (bthen (balloc w (.cells #[.int .i64 (op), .int .i64 (i : Int), .int .i64 (j : Int), .int .i64 (k : Int)] 99)) (balloc _ (.cells #[vI, .int .i64 pay, .int .i64 me, .int .i64 lps, .int .i64 seed, .int .i64 dice] 87)))
  have RU := Lib.hid (hr.below B0.out)
  have HB := Lib.hid hbase
  have RW0 : Hid (P < w.heap.size ∧ bg < w.heap.size) := ⟨lt_of_block hr.box, lt_of_block hr.regs⟩
  obtain ⟨x0, x1, x2, x3⟩ := four_cells X1
  obtain ⟨n0, n1, n2, n3, n4, n5⟩ := six_cells7 X2
  clear X1 X2 hr hbase
  have HU := Lib.hid (rfl : ((w.alloc (.cells #[.int .i64 (op), .int .i64 (i : Int), .int .i64 (j : Int), .int .i64 (k : Int)] 99)).alloc (.cells #[vI, .int .i64 pay, .int .i64 me, .int .i64 lps, .int .i64 seed, .int .i64 dice] 87)) = ((w.alloc (.cells #[.int .i64 (op), .int .i64 (i : Int), .int .i64 (j : Int), .int .i64 (k : Int)] 99)).alloc (.cells #[vI, .int .i64 pay, .int .i64 me, .int .i64 lps, .int .i64 seed, .int .i64 dice] 87)))
  generalize hu : ((w.alloc (.cells #[.int .i64 (op), .int .i64 (i : Int), .int .i64 (j : Int), .int .i64 (k : Int)] 99)).alloc (.cells #[vI, .int .i64 pay, .int .i64 me, .int .i64 lps, .int .i64 seed, .int .i64 dice] 87)) = u at RU B0 x0 x1 x2 x3 n0 n1 n2 n3 n4 n5
  clear HU
  obtain ⟨p0, p1, p2, p3, p4, p5, p6, pf⟩ := RU.out.cells
  have gi := RU.out.reg hi
  have gfi := RU.out.regF i
  have bi : ((i : Nat) : Int) < 8 := by omega
  have li : (0 : Int) ≤ ((i : Nat) : Int) := by omega
  have ti : ((i : Nat) : Int).toNat = i := by omega
  have gj := RU.out.reg hj
  have gfj := RU.out.regF j
  have bj : ((j : Nat) : Int) < 8 := by omega
  have lj : (0 : Int) ≤ ((j : Nat) : Int) := by omega
  have tj : ((j : Nat) : Int).toNat = j := by omega
  have gk := RU.out.reg hk
  have gfk := RU.out.regF k
  have bk : ((k : Nat) : Int) < 8 := by omega
  have lk : (0 : Int) ≤ ((k : Nat) : Int) := by omega
  have tk : ((k : Nat) : Int).toNat = k := by omega
  have o1 : (op == 1) = false := by simp; omega
  have o2 : (op == 2) = false := by simp; omega
  have o9 : (op == 9) = false := by simp; omega
  have o10 : (op == 10) = false := by simp; omega
  have o11 : (op == 11) = false := by simp; omega
  have o12 : (op == 12) = false := by simp; omega
  have o13 : (op == 13) = false := by simp; omega
  have o14 : (op == 14) = false := by simp; omega
  have HT := Lib.hid (two7_any op (r.g j) (r.g k) h3 h8)
  have hf2 : twoF op (r.g k) = 0 ∨ twoF op (r.g k) = 2 := by unfold twoF; split <;> simp
  clear h3 h8
  generalize twoV op (r.g j) (r.g k) = V at *
  generalize twoF op (r.g k) = fv at *
  rcases hf2 with rfl | rfl
  · rw [if_pos rfl]
    rw [if_pos rfl] at HT
    go_enter Tryz.func89, Tryz.ntmps89
    go_upto_region 1 with fail
    try rw [hu]
    clear hu
    go_wp2_with fail
    go_quiet (first | (go_at_call 101; exact Calls.quiet_of (HT.out _)))
    go_wp2_with fail
    have RD := Lib.hid (RU.out.drewN nq)
    go_region
    go_wp2_with fail
    go_ret
    exact ⟨rfl, (RD.out.setReg hi _).drew, ((below_drewN (B0.out.mono HB.out) nq).setCell (p := ⟨bg, i, none⟩) RU.out.lo2 _).drew⟩
  · rw [if_neg (by decide)]
    rw [if_neg (by decide)] at HT
    go_enter Tryz.func89, Tryz.ntmps89
    go_upto_region 1 with fail
    try rw [hu]
    clear hu
    go_wp2_with fail
    go_quiet (first | (go_at_call 101; exact Calls.quiet_of (HT.out _)))
    go_wp2_with fail
    go_ret
    exact ⟨rfl, RU.out.drewN nq, below_drewN (B0.out.mono HB.out) nq⟩
set_option maxHeartbeats 1600000 in
theorem one7_roll (i : Nat) (hi : i < 8) (j : Nat) (hj : j < 8) (c : Int) (vI : Value) (pay me lps seed dice : Int) (w : World) (hr : RunAt base P bg vw vs r w) (hbase : base ≤ w.heap.size) (hn : r.g j ≤ 9223372036854775807) :
    Calls Tryz.prog 89 #[.pointer (some ⟨P, 0, none⟩), .agg #[.int .i64 (11), .int .i64 (i : Int), .int .i64 (j : Int), .int .i64 c], .agg #[vI, .int .i64 pay, .int .i64 me, .int .i64 lps, .int .i64 seed, .int .i64 dice]] w fun e w' => e = .returned (.int .i64 (if r.g j < 1 then 4 else 0)) ∧ RunAt base P bg vw vs (if r.g j < 1 then r else { r with g := upd r.g i (belowN (rollN seed me r.dice) (r.g j)), dice := wrap64 (r.dice + 1) }) w' ∧ Below base w w' := by
  have X1 : ((w.alloc (.cells #[.int .i64 (11), .int .i64 (i : Int), .int .i64 (j : Int), .int .i64 c] 99)).alloc (.cells #[vI, .int .i64 pay, .int .i64 me, .int .i64 lps, .int .i64 seed, .int .i64 dice] 87)).heap[w.heap.size]? = some (.cells #[.int .i64 (11), .int .i64 (i : Int), .int .i64 (j : Int), .int .i64 c] 99) := (Below.heap_alloc _ _ _ (by rw [World.size_alloc]; omega)).trans (heap_alloc_new w _)
  have X2 : ((w.alloc (.cells #[.int .i64 (11), .int .i64 (i : Int), .int .i64 (j : Int), .int .i64 c] 99)).alloc (.cells #[vI, .int .i64 pay, .int .i64 me, .int .i64 lps, .int .i64 seed, .int .i64 dice] 87)).heap[w.heap.size + 1]? = some (.cells #[vI, .int .i64 pay, .int .i64 me, .int .i64 lps, .int .i64 seed, .int .i64 dice] 87) := by
    have := heap_alloc_new (w.alloc (.cells #[.int .i64 (11), .int .i64 (i : Int), .int .i64 (j : Int), .int .i64 c] 99)) (.cells #[vI, .int .i64 pay, .int .i64 me, .int .i64 lps, .int .i64 seed, .int .i64 dice] 87)
    rwa [World.size_alloc] at this
  have B0 := Lib.hid (bthen (balloc w (.cells #[.int .i64 (11), .int .i64 (i : Int), .int .i64 (j : Int), .int .i64 c] 99)) (balloc _ (.cells #[vI, .int .i64 pay, .int .i64 me, .int .i64 lps, .int .i64 seed, .int .i64 dice] 87)))
  have RU := Lib.hid (hr.below B0.out)
  have HB := Lib.hid hbase
  have RW0 : Hid (P < w.heap.size ∧ bg < w.heap.size) := ⟨lt_of_block hr.box, lt_of_block hr.regs⟩
  obtain ⟨x0, x1, x2, x3⟩ := four_cells X1
  obtain ⟨n0, n1, n2, n3, n4, n5⟩ := six_cells7 X2
  clear X1 X2 hr hbase
  have HU := Lib.hid (rfl : ((w.alloc (.cells #[.int .i64 (11), .int .i64 (i : Int), .int .i64 (j : Int), .int .i64 c] 99)).alloc (.cells #[vI, .int .i64 pay, .int .i64 me, .int .i64 lps, .int .i64 seed, .int .i64 dice] 87)) = ((w.alloc (.cells #[.int .i64 (11), .int .i64 (i : Int), .int .i64 (j : Int), .int .i64 c] 99)).alloc (.cells #[vI, .int .i64 pay, .int .i64 me, .int .i64 lps, .int .i64 seed, .int .i64 dice] 87)))
  generalize hu : ((w.alloc (.cells #[.int .i64 (11), .int .i64 (i : Int), .int .i64 (j : Int), .int .i64 c] 99)).alloc (.cells #[vI, .int .i64 pay, .int .i64 me, .int .i64 lps, .int .i64 seed, .int .i64 dice] 87)) = u at RU B0 x0 x1 x2 x3 n0 n1 n2 n3 n4 n5
  clear HU
  obtain ⟨p0, p1, p2, p3, p4, p5, p6, pf⟩ := RU.out.cells
  have gi := RU.out.reg hi
  have gfi := RU.out.regF i
  have bi : ((i : Nat) : Int) < 8 := by omega
  have li : (0 : Int) ≤ ((i : Nat) : Int) := by omega
  have ti : ((i : Nat) : Int).toNat = i := by omega
  have gj := RU.out.reg hj
  have gfj := RU.out.regF j
  have bj : ((j : Nat) : Int) < 8 := by omega
  have lj : (0 : Int) ≤ ((j : Nat) : Int) := by omega
  have tj : ((j : Nat) : Int).toNat = j := by omega
  have hlt := RW0.out
  have hpb := RU.out.ne
  by_cases h0 : r.g j < 1
  · have d0 : decide (r.g j < 1) = true := by simp [h0]
    rw [if_pos h0, if_pos h0]
    clear h0 hn
    go_enter Tryz.func89, Tryz.ntmps89
    go_upto_region 1 with fail
    try rw [hu]
    clear hu
    go_wp2_with fail
    go_region
    go_wp2_with fail
    go_ret
    exact ⟨rfl, RU.out.drew, (B0.out.mono HB.out).drew⟩
  · have d0 : decide (r.g j < 1) = false := by simp [h0]
    rw [if_neg h0, if_neg h0]
    have HR := Lib.hid (refRoll_any seed me r.dice)
    have HBL := Lib.hid (refBelow_any (rollN seed me r.dice) (r.g j) (stirN_lt _) hn)
    clear h0 hn
    generalize belowN (rollN seed me r.dice) (r.g j) = V at *
    generalize rollN seed me r.dice = q at *
    go_enter Tryz.func89, Tryz.ntmps89
    go_upto_region 1 with fail
    try rw [hu]
    clear hu
    go_wp2_with fail
    go_region
    go_wp2_with fail
    have q1 : w.heap.size ≠ bg := by omega
    have q2 : w.heap.size + 1 ≠ bg := by omega
    go_region_held3 (fun w' => w'.cell? ⟨P, 0, none⟩ = some (.slice (some ⟨bg, 0, none⟩) 8 8) ∧ w'.cell? ⟨P, 3, none⟩ = some (.int .i64 r.dice) ∧ w'.cell? ⟨w.heap.size, 1, none⟩ = some (.int .i64 (i : Int)) ∧ w'.cell? ⟨w.heap.size + 1, 4, none⟩ = some (.int .i64 seed) ∧ w'.cell? ⟨w.heap.size + 1, 2, none⟩ = some (.int .i64 me)) (first | (go_keep; done) | exact ⟨cell_set_other p0 hpb, cell_set_other p3 hpb, cell_set_other x1 q1, cell_set_other n4 q2, cell_set_other n2 q2⟩) (first
      | (go_at_call 99; refine (HR.out _).mono ?_; rintro e w9 ⟨rfl, rfl⟩)
      | (go_at_call 98; refine (HBL.out _).mono ?_; rintro e w9 ⟨rfl, rfl⟩))
    go_wp2_with fail
    go_ret
    exact ⟨rfl, ((RU.out.setReg hi V).setDice (wrap64 (r.dice + 1))).drew.drew, (((B0.out.mono HB.out).setCell (p := ⟨bg, i, none⟩) RU.out.lo2 _).setCell (p := ⟨P, 3, none⟩) RU.out.lo _).drew.drew⟩
end

end Go.Proofs.YthkfaeplmmlnlaaGreat
namespace Go.Proofs.YthkfaeplmmlnlaaGreat
open Go.RowKit
section
variable {P : Program} {ops : Array Oper} {Q : Exit → Act → World → Prop} {md : Region.Mode} {S : World → Prop}
theorem tk0 (i : Nat) {oi : Oper} {fuel : Nat} {listed : Array Bool} {a : Act} {w : World} (hi : ops[i]? = some oi)
    (h : wpAnyH P md ops Q S fuel (listed.setIfInBounds i true) (a.put oi.dst undef) w)
    (hs : Region.noSelect ops = true := by kernel_rfl) (hf : Region.free md ops listed i = true := by kernel_rfl) (hr : (Region.ready md ops listed).contains i = true := by kernel_rfl)
    (hQ : ∀ c a w, Q (.panic c) (a.put oi.dst undef) w → Q (.panic c) a w := by exact fun _ _ _ h => h)
    (hw : Region.wanted oi (yielded ops a.tmps) = false := by rfl) (hS : S w := by assumption) : wpAnyH P md ops Q S (fuel + 1) listed a w := wpAnyH_take hi hs hf hr hQ (.inr ⟨hw, rfl⟩) hS h
theorem tk1 (i : Nat) {oi : Oper} {v : Value} {fuel : Nat} {listed : Array Bool} {a : Act} {w : World} (hi : ops[i]? = some oi)
    (hy : ∀ w5, S w5 → (execOp a.eval oi).run P w5 = .ok (.value v) w5)
    (h : wpAnyH P md ops Q S fuel (listed.setIfInBounds i true) (a.put oi.dst v) w)
    (hs : Region.noSelect ops = true := by kernel_rfl) (hf : Region.free md ops listed i = true := by kernel_rfl) (hr : (Region.ready md ops listed).contains i = true := by kernel_rfl)
    (hQ : ∀ c a w, Q (.panic c) (a.put oi.dst v) w → Q (.panic c) a w := by exact fun _ _ _ h => h)
    (hw : Region.wanted oi (yielded ops a.tmps) = true := by rfl) (hS : S w := by assumption) : wpAnyH P md ops Q S (fuel + 1) listed a w := wpAnyH_take hi hs hf hr hQ (.inl ⟨hw, hy⟩) hS h
end
end Go.Proofs.YthkfaeplmmlnlaaGreat
