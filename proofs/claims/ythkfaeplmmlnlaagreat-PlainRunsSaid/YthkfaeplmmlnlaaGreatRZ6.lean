/- The contracts of needs, mayBeIn, Ins, and of the document's own answer. The contract of the document's own Ins. The contract of the document's May. What comes of a run, and where it lies. The contract of the document's Do. -/
import Derived.WalkKit
import Derived.WalkSpells
import Derived.WalkLawsBesides
import Derived.Lib.Hide
import Derived.WalkSmall
import Derived.Laws.RangeString
import Derived.LoopN
import Derived.Lib.SmallJoins
import Derived.Test.YthkfaeplmmlnlaaGreatRows
import Derived.Test.YthkfaeplmmlnlaaGreatRZ0
import Derived.Test.YthkfaeplmmlnlaaGreatRZ1
import Derived.Test.YthkfaeplmmlnlaaGreatRVmOf
namespace Go.Proofs.YthkfaeplmmlnlaaGreat
open Go.RowKit
set_option linter.unusedVariables false

/-- the letters of a kind of instruction -/
def lettersK (k : Nat) : ByteArray :=
  match k with
  | 1 => ⟨#[112]⟩
  | 2 => ⟨#[114, 112]⟩
  | 3 => ⟨#[114]⟩
  | 4 => ⟨#[114, 114]⟩
  | 5 => ⟨#[114, 114, 114]⟩
  | _ => ⟨#[]⟩
def isK (k : Nat) : Bool := decide (k < 6)

set_option maxHeartbeats 800000 in
theorem needs_any (op : Int) (w : World) :
    Calls Tryz.prog 91 #[.int .i64 op] w fun e w' => e = .returned (.tuple #[.string (lettersK (kindI op)), .bool (isK (kindI op))]) ∧ w = w' := by
  have E : Hid (∀ k, kindI op = k → (lettersK (kindI op), isK (kindI op)) = (lettersK k, isK k)) := fun k h => by rw [h]
  generalize lettersK (kindI op) = L at E ⊢
  generalize isK (kindI op) = B at E ⊢
  go_enter Tryz.func91, Tryz.ntmps91
  go_wp2_with fail
  all_goals
    go_ret2
    refine ⟨?_, rfl⟩
    simp only [beq_iff_eq, beq_eq_false_iff_ne, ne_eq] at *
    first
      | (obtain ⟨rfl, rfl⟩ := Prod.mk.inj (E.out 0 (by unfold kindI; simp [*]; done)); rfl)
      | (obtain ⟨rfl, rfl⟩ := Prod.mk.inj (E.out 1 (by unfold kindI; simp [*]; done)); rfl)
      | (obtain ⟨rfl, rfl⟩ := Prod.mk.inj (E.out 2 (by unfold kindI; simp [*]; done)); rfl)
      | (obtain ⟨rfl, rfl⟩ := Prod.mk.inj (E.out 3 (by unfold kindI; simp [*]; done)); rfl)
      | (obtain ⟨rfl, rfl⟩ := Prod.mk.inj (E.out 4 (by unfold kindI; simp [*]; done)); rfl)
      | (obtain ⟨rfl, rfl⟩ := Prod.mk.inj (E.out 5 (by unfold kindI; simp [*]; done)); rfl)
      | (obtain ⟨rfl, rfl⟩ := Prod.mk.inj (E.out 6 (by unfold kindI; simp [*]; done)); rfl)

theorem reg_any (n : Int) (w : World) :
    Calls Tryz.prog 80 #[.int .i64 n] w fun e w' => e = .returned (.bool (regB n)) ∧ w = w' := by
  have E : Hid (∀ b, (decide (0 ≤ n) && decide (n ≤ 7)) = b → regB n = b) := fun b h => h
  generalize regB n = r at E ⊢
  go_enter Tryz.func80, Tryz.ntmps80
  go_wp2_with fail
  all_goals
    go_ret
    refine ⟨?_, rfl⟩
    rw [E.out _ rfl]
    simp [*]
    try omega



/-- the world in which the letters are gone through -/
def partsW (w : World) (op a b c : Int) : World := (w.alloc (.cells #[.int .i64 op, .int .i64 a, .int .i64 b, .int .i64 c] 99)).alloc (.cells #[.int .i64 a, .int .i64 b, .int .i64 c] 148)
theorem partsW_size (w : World) (op a b c : Int) : (partsW w op a b c).heap.size = w.heap.size + 1 + 1 := by
  show ((w.heap.push _).push _).size = _
  simp
theorem partsW_at (w : World) (op a b c : Int) (i : Nat) : (partsW w op a b c).cell? ⟨w.heap.size + 1, i, none⟩ = #[Value.int .i64 a, .int .i64 b, .int .i64 c][i]? := by simp [partsW]
theorem iter_cell (W : World) (L : ByteArray) (k : Nat) (p : Addr) (h : p.block < W.heap.size) : (W.iter L k).cell? p = W.cell? p := World.cell?_alloc_lt W _ p h
theorem partsW_iter (w : World) (op a b c : Int) (L : ByteArray) (k i : Nat) : ((partsW w op a b c).iter L k).cell? ⟨w.heap.size + 1, i, none⟩ = #[Value.int .i64 a, .int .i64 b, .int .i64 c][i]? := by
  rw [iter_cell _ _ _ _ (by rw [partsW_size]; show w.heap.size + 1 < _; omega), partsW_at]
theorem partsW_old (w : World) (op a b c : Int) (L : ByteArray) (k q i : Nat) (h : q < w.heap.size) : ((partsW w op a b c).iter L k).cell? ⟨q, i, none⟩ = w.cell? ⟨q, i, none⟩ := by
  rw [iter_cell _ _ _ _ (by rw [partsW_size]; show q < _; omega)]
  unfold partsW
  rw [World.cell?_alloc_lt _ _ _ (by show q < (w.heap.push _).size; simp; omega), World.cell?_alloc_lt _ _ _ h]
theorem partsW_below (w : World) (op a b c : Int) (L : ByteArray) (k : Nat) : Below w.heap.size w ((partsW w op a b c).iter L k) := bthen (bthen (balloc w _) (balloc _ _)) (balloc _ _)
theorem next_at (W : World) (N : Nat) (e : W.heap.size = N) (L : ByteArray) (k : Nat) (h : k < L.size) (x : Nat) (hx : (L[k]'h).toNat = x) (ha : x < 128) (ty : TypeId) :
    (Instr.next (.pointer (some ⟨N, 0, none⟩)) true ty).run Tryz.prog (W.iter L k) = .ok (.tuple #[.bool true, .int .i64 k, .int .i32 x]) (W.iter L (k + 1)) := by
  subst e hx; exact run_next_ascii W L k ty h ha
theorem next_out (W : World) (N : Nat) (e : W.heap.size = N) (L : ByteArray) (k : Nat) (h : ¬ k < L.size) (ty : TypeId) :
    (Instr.next (.pointer (some ⟨N, 0, none⟩)) true ty).run Tryz.prog (W.iter L k) = .ok (.tuple #[.bool false]) (W.iter L k) := by
  subst e; exact run_next_end W L k ty h

set_option maxHeartbeats 1600000 in
theorem mayI_0 (op a b c len : Int) (q : Nat) (w : World) (hq : w.cell? ⟨q, 0, none⟩ = some (.int .i64 len)) (hlt : q < w.heap.size)
    (H : Hid (∀ w, Calls Tryz.prog 91 #[.int .i64 op] w fun e w' => e = .returned (.tuple #[.string ⟨#[]⟩, .bool true]) ∧ w = w')) :
    Calls Tryz.prog 90 #[.agg #[.int .i64 op, .int .i64 a, .int .i64 b, .int .i64 c], .pointer (some ⟨q, 0, none⟩)] w fun e w' => e = .returned (.bool (kindB 0 a b c len)) ∧ Below w.heap.size w w' := by
  have hB : Hid (∀ k, Below w.heap.size w ((partsW w op a b c).iter ⟨#[]⟩ k)) := partsW_below w op a b c _
  generalize hr : kindB 0 a b c len = r
  have hE := Lib.hid hr
  clear hr
  go_enter Tryz.func90, Tryz.ntmps90
  go_wp2_with (go_at_call 91; refine (H.out _).mono ?_; rintro e w' ⟨rfl, rfl⟩)
  have hn0 := next_out _ _ (partsW_size w op a b c) ⟨#[]⟩ 0 (by decide)
  clear hq hlt
  change Code.wp _ _ _ _ (World.iter (partsW w op a b c) _ _)
  generalize partsW w op a b c = W at *
  refine wp_loop_rounds 1 ?_
  repeat' (rw [rounds_succ]; go_wp2_with fail)
  all_goals
    go_ret
    refine ⟨?_, hB.out _⟩
    first
      | (have h : kindB 0 a b c len = true := by (simp [kindB] <;> omega)
         rw [← hE.out, h]
         rfl)
      | (have h : kindB 0 a b c len = false := by (simp [kindB] <;> omega)
         rw [← hE.out, h]
         rfl)

set_option maxHeartbeats 1600000 in
theorem mayI_1 (op a b c len : Int) (q : Nat) (w : World) (hq : w.cell? ⟨q, 0, none⟩ = some (.int .i64 len)) (hlt : q < w.heap.size)
    (H : Hid (∀ w, Calls Tryz.prog 91 #[.int .i64 op] w fun e w' => e = .returned (.tuple #[.string ⟨#[112]⟩, .bool true]) ∧ w = w')) :
    Calls Tryz.prog 90 #[.agg #[.int .i64 op, .int .i64 a, .int .i64 b, .int .i64 c], .pointer (some ⟨q, 0, none⟩)] w fun e w' => e = .returned (.bool (kindB 1 a b c len)) ∧ Below w.heap.size w w' := by
  have hB : Hid (∀ k, Below w.heap.size w ((partsW w op a b c).iter ⟨#[112]⟩ k)) := partsW_below w op a b c _
  generalize hr : kindB 1 a b c len = r
  have hE := Lib.hid hr
  clear hr
  go_enter Tryz.func90, Tryz.ntmps90
  go_wp2_with (go_at_call 91; refine (H.out _).mono ?_; rintro e w' ⟨rfl, rfl⟩)
  have hn0 := next_at _ _ (partsW_size w op a b c) ⟨#[112]⟩ 0 (by decide) 112 (by decide) (by decide)
  have hc0 : ((partsW w op a b c).iter ⟨#[112]⟩ 1).cell? ⟨w.heap.size + 1, 0, none⟩ = some (.int .i64 a) := partsW_iter ..
  have hq0 : ((partsW w op a b c).iter ⟨#[112]⟩ 1).cell? ⟨q, 0, none⟩ = some (.int .i64 len) := by rw [partsW_old _ _ _ _ _ _ _ _ _ hlt]; exact hq
  have hn1 := next_out _ _ (partsW_size w op a b c) ⟨#[112]⟩ 1 (by decide)
  clear hq hlt
  change Code.wp _ _ _ _ (World.iter (partsW w op a b c) _ _)
  generalize partsW w op a b c = W at *
  refine wp_loop_rounds 2 ?_
  repeat' (rw [rounds_succ]; go_wp2_with fail)
  all_goals
    go_ret
    refine ⟨?_, hB.out _⟩
    first
      | (have h : kindB 1 a b c len = true := by (simp [kindB, plcB] <;> omega)
         rw [← hE.out, h]
         rfl)
      | (have h : kindB 1 a b c len = false := by (simp [kindB, plcB] <;> omega)
         rw [← hE.out, h]
         rfl)

set_option maxHeartbeats 1600000 in
theorem mayI_2 (op a b c len : Int) (q : Nat) (w : World) (hq : w.cell? ⟨q, 0, none⟩ = some (.int .i64 len)) (hlt : q < w.heap.size)
    (H : Hid (∀ w, Calls Tryz.prog 91 #[.int .i64 op] w fun e w' => e = .returned (.tuple #[.string ⟨#[114, 112]⟩, .bool true]) ∧ w = w')) :
    Calls Tryz.prog 90 #[.agg #[.int .i64 op, .int .i64 a, .int .i64 b, .int .i64 c], .pointer (some ⟨q, 0, none⟩)] w fun e w' => e = .returned (.bool (kindB 2 a b c len)) ∧ Below w.heap.size w w' := by
  have hB : Hid (∀ k, Below w.heap.size w ((partsW w op a b c).iter ⟨#[114, 112]⟩ k)) := partsW_below w op a b c _
  generalize hr : kindB 2 a b c len = r
  have hE := Lib.hid hr
  clear hr
  go_enter Tryz.func90, Tryz.ntmps90
  go_wp2_with (go_at_call 91; refine (H.out _).mono ?_; rintro e w' ⟨rfl, rfl⟩)
  have hn0 := next_at _ _ (partsW_size w op a b c) ⟨#[114, 112]⟩ 0 (by decide) 114 (by decide) (by decide)
  have hc0 : ((partsW w op a b c).iter ⟨#[114, 112]⟩ 1).cell? ⟨w.heap.size + 1, 0, none⟩ = some (.int .i64 a) := partsW_iter ..
  have hn1 := next_at _ _ (partsW_size w op a b c) ⟨#[114, 112]⟩ 1 (by decide) 112 (by decide) (by decide)
  have hc1 : ((partsW w op a b c).iter ⟨#[114, 112]⟩ 2).cell? ⟨w.heap.size + 1, 1, none⟩ = some (.int .i64 b) := partsW_iter ..
  have hq1 : ((partsW w op a b c).iter ⟨#[114, 112]⟩ 2).cell? ⟨q, 0, none⟩ = some (.int .i64 len) := by rw [partsW_old _ _ _ _ _ _ _ _ _ hlt]; exact hq
  have hn2 := next_out _ _ (partsW_size w op a b c) ⟨#[114, 112]⟩ 2 (by decide)
  clear hq hlt
  change Code.wp _ _ _ _ (World.iter (partsW w op a b c) _ _)
  generalize partsW w op a b c = W at *
  refine wp_loop_rounds 3 ?_
  repeat' (rw [rounds_succ]; go_wp2_with fail)
  all_goals
    go_ret
    refine ⟨?_, hB.out _⟩
    first
      | (have h : kindB 2 a b c len = true := by (simp [kindB, regB, plcB] <;> omega)
         rw [← hE.out, h]
         rfl)
      | (have h : kindB 2 a b c len = false := by (simp [kindB, regB, plcB] <;> omega)
         rw [← hE.out, h]
         rfl)

set_option maxHeartbeats 1600000 in
theorem mayI_3 (op a b c len : Int) (q : Nat) (w : World) (hq : w.cell? ⟨q, 0, none⟩ = some (.int .i64 len)) (hlt : q < w.heap.size)
    (H : Hid (∀ w, Calls Tryz.prog 91 #[.int .i64 op] w fun e w' => e = .returned (.tuple #[.string ⟨#[114]⟩, .bool true]) ∧ w = w')) :
    Calls Tryz.prog 90 #[.agg #[.int .i64 op, .int .i64 a, .int .i64 b, .int .i64 c], .pointer (some ⟨q, 0, none⟩)] w fun e w' => e = .returned (.bool (kindB 3 a b c len)) ∧ Below w.heap.size w w' := by
  have hB : Hid (∀ k, Below w.heap.size w ((partsW w op a b c).iter ⟨#[114]⟩ k)) := partsW_below w op a b c _
  generalize hr : kindB 3 a b c len = r
  have hE := Lib.hid hr
  clear hr
  go_enter Tryz.func90, Tryz.ntmps90
  go_wp2_with (go_at_call 91; refine (H.out _).mono ?_; rintro e w' ⟨rfl, rfl⟩)
  have hn0 := next_at _ _ (partsW_size w op a b c) ⟨#[114]⟩ 0 (by decide) 114 (by decide) (by decide)
  have hc0 : ((partsW w op a b c).iter ⟨#[114]⟩ 1).cell? ⟨w.heap.size + 1, 0, none⟩ = some (.int .i64 a) := partsW_iter ..
  have hn1 := next_out _ _ (partsW_size w op a b c) ⟨#[114]⟩ 1 (by decide)
  clear hq hlt
  change Code.wp _ _ _ _ (World.iter (partsW w op a b c) _ _)
  generalize partsW w op a b c = W at *
  refine wp_loop_rounds 2 ?_
  repeat' (rw [rounds_succ]; go_wp2_with fail)
  all_goals
    go_ret
    refine ⟨?_, hB.out _⟩
    first
      | (have h : kindB 3 a b c len = true := by (simp [kindB, regB] <;> omega)
         rw [← hE.out, h]
         rfl)
      | (have h : kindB 3 a b c len = false := by (simp [kindB, regB] <;> omega)
         rw [← hE.out, h]
         rfl)

set_option maxHeartbeats 1600000 in
theorem mayI_4 (op a b c len : Int) (q : Nat) (w : World) (hq : w.cell? ⟨q, 0, none⟩ = some (.int .i64 len)) (hlt : q < w.heap.size)
    (H : Hid (∀ w, Calls Tryz.prog 91 #[.int .i64 op] w fun e w' => e = .returned (.tuple #[.string ⟨#[114, 114]⟩, .bool true]) ∧ w = w')) :
    Calls Tryz.prog 90 #[.agg #[.int .i64 op, .int .i64 a, .int .i64 b, .int .i64 c], .pointer (some ⟨q, 0, none⟩)] w fun e w' => e = .returned (.bool (kindB 4 a b c len)) ∧ Below w.heap.size w w' := by
  have hB : Hid (∀ k, Below w.heap.size w ((partsW w op a b c).iter ⟨#[114, 114]⟩ k)) := partsW_below w op a b c _
  generalize hr : kindB 4 a b c len = r
  have hE := Lib.hid hr
  clear hr
  go_enter Tryz.func90, Tryz.ntmps90
  go_wp2_with (go_at_call 91; refine (H.out _).mono ?_; rintro e w' ⟨rfl, rfl⟩)
  have hn0 := next_at _ _ (partsW_size w op a b c) ⟨#[114, 114]⟩ 0 (by decide) 114 (by decide) (by decide)
  have hc0 : ((partsW w op a b c).iter ⟨#[114, 114]⟩ 1).cell? ⟨w.heap.size + 1, 0, none⟩ = some (.int .i64 a) := partsW_iter ..
  have hn1 := next_at _ _ (partsW_size w op a b c) ⟨#[114, 114]⟩ 1 (by decide) 114 (by decide) (by decide)
  have hc1 : ((partsW w op a b c).iter ⟨#[114, 114]⟩ 2).cell? ⟨w.heap.size + 1, 1, none⟩ = some (.int .i64 b) := partsW_iter ..
  have hn2 := next_out _ _ (partsW_size w op a b c) ⟨#[114, 114]⟩ 2 (by decide)
  clear hq hlt
  change Code.wp _ _ _ _ (World.iter (partsW w op a b c) _ _)
  generalize partsW w op a b c = W at *
  refine wp_loop_rounds 3 ?_
  repeat' (rw [rounds_succ]; go_wp2_with fail)
  all_goals
    go_ret
    refine ⟨?_, hB.out _⟩
    first
      | (have h : kindB 4 a b c len = true := by (simp [kindB, regB] <;> omega)
         rw [← hE.out, h]
         rfl)
      | (have h : kindB 4 a b c len = false := by (simp [kindB, regB] <;> omega)
         rw [← hE.out, h]
         rfl)

set_option maxHeartbeats 1600000 in
theorem mayI_5 (op a b c len : Int) (q : Nat) (w : World) (hq : w.cell? ⟨q, 0, none⟩ = some (.int .i64 len)) (hlt : q < w.heap.size)
    (H : Hid (∀ w, Calls Tryz.prog 91 #[.int .i64 op] w fun e w' => e = .returned (.tuple #[.string ⟨#[114, 114, 114]⟩, .bool true]) ∧ w = w')) :
    Calls Tryz.prog 90 #[.agg #[.int .i64 op, .int .i64 a, .int .i64 b, .int .i64 c], .pointer (some ⟨q, 0, none⟩)] w fun e w' => e = .returned (.bool (kindB 5 a b c len)) ∧ Below w.heap.size w w' := by
  have hB : Hid (∀ k, Below w.heap.size w ((partsW w op a b c).iter ⟨#[114, 114, 114]⟩ k)) := partsW_below w op a b c _
  generalize hr : kindB 5 a b c len = r
  have hE := Lib.hid hr
  clear hr
  go_enter Tryz.func90, Tryz.ntmps90
  go_wp2_with (go_at_call 91; refine (H.out _).mono ?_; rintro e w' ⟨rfl, rfl⟩)
  have hn0 := next_at _ _ (partsW_size w op a b c) ⟨#[114, 114, 114]⟩ 0 (by decide) 114 (by decide) (by decide)
  have hc0 : ((partsW w op a b c).iter ⟨#[114, 114, 114]⟩ 1).cell? ⟨w.heap.size + 1, 0, none⟩ = some (.int .i64 a) := partsW_iter ..
  have hn1 := next_at _ _ (partsW_size w op a b c) ⟨#[114, 114, 114]⟩ 1 (by decide) 114 (by decide) (by decide)
  have hc1 : ((partsW w op a b c).iter ⟨#[114, 114, 114]⟩ 2).cell? ⟨w.heap.size + 1, 1, none⟩ = some (.int .i64 b) := partsW_iter ..
  have hn2 := next_at _ _ (partsW_size w op a b c) ⟨#[114, 114, 114]⟩ 2 (by decide) 114 (by decide) (by decide)
  have hc2 : ((partsW w op a b c).iter ⟨#[114, 114, 114]⟩ 3).cell? ⟨w.heap.size + 1, 2, none⟩ = some (.int .i64 c) := partsW_iter ..
  have hn3 := next_out _ _ (partsW_size w op a b c) ⟨#[114, 114, 114]⟩ 3 (by decide)
  clear hq hlt
  change Code.wp _ _ _ _ (World.iter (partsW w op a b c) _ _)
  generalize partsW w op a b c = W at *
  refine wp_loop_rounds 4 ?_
  repeat' (rw [rounds_succ]; go_wp2_with fail)
  all_goals
    go_ret
    refine ⟨?_, hB.out _⟩
    first
      | (have h : kindB 5 a b c len = true := by (simp [kindB, regB] <;> omega)
         rw [← hE.out, h]
         rfl)
      | (have h : kindB 5 a b c len = false := by (simp [kindB, regB] <;> omega)
         rw [← hE.out, h]
         rfl)

set_option maxHeartbeats 1600000 in
theorem mayI_6 (op a b c len : Int) (q : Nat) (w : World) (hq : w.cell? ⟨q, 0, none⟩ = some (.int .i64 len)) (hlt : q < w.heap.size)
    (H : Hid (∀ w, Calls Tryz.prog 91 #[.int .i64 op] w fun e w' => e = .returned (.tuple #[.string ⟨#[]⟩, .bool false]) ∧ w = w')) :
    Calls Tryz.prog 90 #[.agg #[.int .i64 op, .int .i64 a, .int .i64 b, .int .i64 c], .pointer (some ⟨q, 0, none⟩)] w fun e w' => e = .returned (.bool (kindB 6 a b c len)) ∧ Below w.heap.size w w' := by
  have hB : Hid (∀ k, Below w.heap.size w ((partsW w op a b c).iter ⟨#[]⟩ k)) := partsW_below w op a b c _
  generalize hr : kindB 6 a b c len = r
  have hE := Lib.hid hr
  clear hr
  go_enter Tryz.func90, Tryz.ntmps90
  go_wp2_with (go_at_call 91; refine (H.out _).mono ?_; rintro e w' ⟨rfl, rfl⟩)
  have hn0 := next_out _ _ (partsW_size w op a b c) ⟨#[]⟩ 0 (by decide)
  clear hq hlt
  change Code.wp _ _ _ _ (World.iter (partsW w op a b c) _ _)
  generalize partsW w op a b c = W at *
  refine wp_loop_rounds 1 ?_
  repeat' (rw [rounds_succ]; go_wp2_with fail)
  all_goals
    go_ret
    refine ⟨?_, hB.out _⟩
    first
      | (have h : kindB 6 a b c len = true := by (simp [kindB] <;> omega)
         rw [← hE.out, h]
         rfl)
      | (have h : kindB 6 a b c len = false := by (simp [kindB] <;> omega)
         rw [← hE.out, h]
         rfl)

/-- may an instruction be in a program of so many? (the function that mayBeIn makes, its box in block q) -/
theorem mayI_any (x : I4) (len : Int) (q : Nat) (w : World) (hq : w.cell? ⟨q, 0, none⟩ = some (.int .i64 len)) (hlt : q < w.heap.size) :
    Calls Tryz.prog 90 #[.agg #[.int .i64 x.op, .int .i64 x.a, .int .i64 x.b, .int .i64 x.c], .pointer (some ⟨q, 0, none⟩)] w fun e w' => e = .returned (.bool (insB x len)) ∧ Below w.heap.size w w' := by
  have H := needs_any x.op
  have hk : kindI x.op ≤ 6 := by unfold kindI; split <;> (try omega); split <;> (try omega); split <;> (try omega); split <;> (try omega); split <;> (try omega); split <;> omega
  unfold insB
  generalize kindI x.op = k at *
  match k, hk with
  | 0, _ => exact mayI_0 _ _ _ _ _ q w hq hlt H
  | 1, _ => exact mayI_1 _ _ _ _ _ q w hq hlt H
  | 2, _ => exact mayI_2 _ _ _ _ _ q w hq hlt H
  | 3, _ => exact mayI_3 _ _ _ _ _ q w hq hlt H
  | 4, _ => exact mayI_4 _ _ _ _ _ q w hq hlt H
  | 5, _ => exact mayI_5 _ _ _ _ _ q w hq hlt H
  | 6, _ => exact mayI_6 _ _ _ _ _ q w hq hlt H

theorem mayBeIn_any (len : Int) (w : World) :
    Calls Tryz.prog 72 #[.int .i64 len] w fun e w' => e = .returned (.func (.func 90) #[] #[.pointer (some ⟨w.heap.size, 0, none⟩)]) ∧ w' = w.alloc (.cells #[.int .i64 len] 3) := by
  have hmf : ∀ (fn : Fn) (first cap : Array Value) (w : World), (Instr.makeFunc fn first cap).run Tryz.prog w = .ok (.func fn first cap) w := fun _ _ _ _ => rfl
  go_enter Tryz.func72, Tryz.ntmps72
  go_wp2_with fail
  go_ret
  exact ⟨rfl, rfl⟩


end Go.Proofs.YthkfaeplmmlnlaaGreat
namespace Go.Proofs.YthkfaeplmmlnlaaGreat
open Go.RowKit
set_option linter.unusedVariables false

set_option maxHeartbeats 3200000 in
/-- the document's own answer -/
theorem refIns_any (x : I4) (len : Int) (w : World) :
    Calls Tryz.prog 58 #[.agg #[.int .i64 x.op, .int .i64 x.a, .int .i64 x.b, .int .i64 x.c], .int .i64 len] w fun e w' => e = .returned (.bool (insB x len)) ∧ Below w.heap.size w w' := by
  obtain ⟨op, a, b, c⟩ := x
  dsimp only
  have E : Hid (∀ k, kindI op = k → insB ⟨op, a, b, c⟩ len = kindB k a b c len) := fun k h => by unfold insB; rw [h]
  generalize insB ⟨op, a, b, c⟩ len = r at E ⊢
  have HA := Lib.hid (reg_any a)
  have HB := Lib.hid (reg_any b)
  have HC := Lib.hid (reg_any c)
  have HBel := Lib.hid (balloc w (.cells #[.int .i64 op, .int .i64 a, .int .i64 b, .int .i64 c] 99))
  have EK : Hid (∀ k, kindB k a b c len = match k with | 0 => true | 1 => plcB a len | 2 => regB a && plcB b len | 3 => regB a | 4 => regB a && regB b | 5 => regB a && regB b && regB c | _ => false) := fun k => rfl
  generalize regB a = ra at *
  generalize regB b = rb at *
  generalize regB c = rc at *
  go_enter Tryz.func58, Tryz.ntmps58
  go_wp2_with (first
      | (go_at_call 80; with_reducible refine (HA.out _).mono ?_; rintro e w' ⟨rfl, rfl⟩)
      | (go_at_call 80; with_reducible refine (HB.out _).mono ?_; rintro e w' ⟨rfl, rfl⟩)
      | (go_at_call 80; with_reducible refine (HC.out _).mono ?_; rintro e w' ⟨rfl, rfl⟩))
  all_goals
    go_ret
    refine ⟨?_, HBel.out⟩
    simp only [beq_iff_eq, beq_eq_false_iff_ne, ne_eq, Bool.not_eq_true] at *
    obtain ⟨k, hk⟩ : ∃ k, kindI op = k := ⟨_, rfl⟩
    have hr := E.out k hk
    rw [EK.out] at hr
    unfold kindI at hk
    simp [*] at hk
    subst hk
    rw [hr]
    simp [*, plcB]
    try omega

end Go.Proofs.YthkfaeplmmlnlaaGreat
namespace Go.Proofs.YthkfaeplmmlnlaaGreat
open Go.RowKit
set_option linter.unusedVariables false
set_option maxRecDepth 100000

set_option maxHeartbeats 1600000 in
theorem may7_any (pr : Nat → I4) (pl : Nat) (vp : Value) (i : Inp) (vI : Value) (w : World) (hp : Sl 4 (gI pr) pl vp w) (hw : Sl 1 (gW i.w) i.nw vI w) :
    Calls Tryz.prog 68 #[vp, .agg #[vI, .int .i64 i.pay, .int .i64 i.me, .int .i64 i.lps, .int .i64 i.seed, .int .i64 i.dice]] w fun e w' => e = .returned (.int .i64 (mayN pr pl i)) ∧ Below w.heap.size w w' := by
  obtain ⟨ap, cp, rfl, hcp, hcp2, hpc⟩ := hp
  obtain ⟨aw, cw, rfl, hcw, hcw2, _⟩ := hw
  have X1 := Lib.hid (heap_alloc_new w (.cells #[.slice aw i.nw cw, .int .i64 i.pay, .int .i64 i.me, .int .i64 i.lps, .int .i64 i.seed, .int .i64 i.dice] 87))
  have B1 := Lib.hid (balloc w (.cells #[.slice aw i.nw cw, .int .i64 i.pay, .int .i64 i.me, .int .i64 i.lps, .int .i64 i.seed, .int .i64 i.dice] 87))
  have HP := Lib.hid hpc
  clear hpc
  have HI : Hid (∀ k, k < pl → ∀ w, Calls Tryz.prog 58 #[.agg #[.int .i64 (pr k).op, .int .i64 (pr k).a, .int .i64 (pr k).b, .int .i64 (pr k).c], .int .i64 (pl : Int)] w fun e w' => e = .returned (.bool (insB (pr k) pl)) ∧ Below w.heap.size w w') := fun k _ w => refIns_any (pr k) pl w
  have E : Hid (mayN pr pl i = if (1 ≤ pl ∧ pl ≤ 48) ∧ allN (fun k => insB (pr k) pl) pl = true then (if 8 < i.nw then 2 else 0) else 15) := rfl
  generalize mayN pr pl i = res at *
  go_enter Tryz.func68, Tryz.ntmps68
  go_upto_region 1 with fail
  generalize w.alloc (.cells #[.slice aw i.nw cw, .int .i64 i.pay, .int .i64 i.me, .int .i64 i.lps, .int .i64 i.seed, .int .i64 i.dice] 87) = u at *
  by_cases h1 : pl < 1
  · have d1 : decide ((pl : Int) < 1) = true := by rw [decide_eq_true_eq]; omega
    have e1 : res = 15 := by rw [E.out, if_neg (by omega)]
    subst e1
    clear E h1
    go_wp2_with fail
    go_ret
    exact ⟨rfl, B1.out⟩
  · have d1 : decide ((pl : Int) < 1) = false := by rw [decide_eq_false_iff_not]; omega
    by_cases h2 : 48 < pl
    · have d2 : decide ((48 : Int) < (pl : Int)) = true := by rw [decide_eq_true_eq]; omega
      have e1 : res = 15 := by rw [E.out, if_neg (by omega)]
      subst e1
      clear E h1 h2
      go_wp2_with fail
      go_ret
      exact ⟨rfl, B1.out⟩
    · have d2 : decide ((48 : Int) < (pl : Int)) = false := by rw [decide_eq_false_iff_not]; omega
      have hle : pl ≤ 48 := by omega
      have E2 : Hid (res = if allN (fun k => insB (pr k) pl) pl = true then (if 8 < i.nw then 2 else 0) else 15) := by
        show _ = _
        rw [E.out]
        by_cases h : allN (fun k => insB (pr k) pl) pl = true
        · rw [if_pos ⟨⟨by omega, hle⟩, h⟩, if_pos h]
        · rw [if_neg fun hh => h hh.2, if_neg h]
      clear E h1 h2
      go_wp2_with fail
      go_loopw [5] (fun x wr => ∃ j : Nat, j ≤ pl ∧ x = .int .i64 j ∧ allN (fun k => insB (pr k) pl) j = true ∧ Below u.heap.size u wr) (fun x _ => pl - (intOf x).toNat)
      case atStart => exact ⟨0, Nat.zero_le _, rfl, rfl, Below.refl _ _⟩
      case round =>
        obtain ⟨j, hj, rfl, hall, hl⟩ := hrel
        have HL := Lib.hid hl
        have HALL := Lib.hid hall
        clear hall
        by_cases hlt : j < pl
        · obtain ⟨b, o, rfl, hat⟩ := HP.out (by omega)
          have hA := hat.below (bthen B1.out hl)
          have c0 : wr.cell? ⟨b, o + j * 4, none⟩ = some (.int .i64 (pr j).op) := hA.2 j hlt 0 (by omega)
          have c1 : wr.cell? ⟨b, o + j * 4 + 1, none⟩ = some (.int .i64 (pr j).a) := hA.2 j hlt 1 (by omega)
          have c2 : wr.cell? ⟨b, o + j * 4 + 2, none⟩ = some (.int .i64 (pr j).b) := hA.2 j hlt 2 (by omega)
          have c3 : wr.cell? ⟨b, o + j * 4 + 3, none⟩ = some (.int .i64 (pr j).c) := hA.2 j hlt 3 (by omega)
          have hj2 : (j : Int) < (pl : Int) := by omega
          have hj0 : (0 : Int) ≤ (j : Int) := by omega
          have hjt : ((j : Nat) : Int).toNat = j := by omega
          have HJ := Lib.hid (HI.out j hlt)
          clear hA hat hl HP
          cases hb : insB (pr j) pl with
          | true =>
            have HB := Lib.hid hb
            rw [hb] at HJ
            clear hb
            go_wp2_with (go_at_call 58; refine (HJ.out _).mono ?_; rintro e w2 ⟨rfl, hb2⟩; have L2 := Lib.hid (bthen HL.out hb2); clear hb2)
            go_roundw
            case rel => exact ⟨j + 1, by omega, by go_num, allN_step HALL.out HB.out, L2.out⟩
            case measure => simp [intOf]; omega
          | false =>
            have e1 : res = 15 := by rw [E2.out, if_neg (by rw [allN_false hlt hb]; decide)]
            subst e1
            rw [hb] at HJ
            clear hb
            go_wp2_with (go_at_call 58; refine (HJ.out _).mono ?_; rintro e w2 ⟨rfl, hb2⟩; have L2 := Lib.hid (bthen HL.out hb2); clear hb2)
            go_ret
            exact ⟨rfl, bthen B1.out L2.out⟩
        · obtain rfl : j = pl := by omega
          have X2 := Lib.hid ((hl.block _ (lt_of_block X1.out)).trans X1.out)
          obtain ⟨n0, n1, n2, n3, n4, n5⟩ := six_cells7 X2.out
          have E3 : Hid (res = if 8 < i.nw then 2 else 0) := by show _ = _; rw [E2.out, if_pos HALL.out]
          clear hl E2
          by_cases h8 : 8 < i.nw
          · have d8 : decide ((8 : Int) < (i.nw : Int)) = true := by rw [decide_eq_true_eq]; omega
            have e1 : res = 2 := by rw [E3.out, if_pos h8]
            subst e1
            clear h8 E3
            go_wp2_with fail
            go_ret
            exact ⟨rfl, bthen B1.out HL.out⟩
          · have d8 : decide ((8 : Int) < (i.nw : Int)) = false := by rw [decide_eq_false_iff_not]; omega
            have e1 : res = 0 := by rw [E3.out, if_neg h8]
            subst e1
            clear h8 E3
            go_wp2_with fail
            go_ret
            exact ⟨rfl, bthen B1.out HL.out⟩

end Go.Proofs.YthkfaeplmmlnlaaGreat
namespace Go.Proofs.YthkfaeplmmlnlaaGreat
open Go.RowKit
set_option linter.unusedVariables false
set_option maxRecDepth 100000

/-- what comes of a run, and where it lies -/
structure Ou where
  nw : Nat
  w : Nat → Int
  ns : Nat
  sn : Nat → Snt
  dice : Int
  f : Int
def OutAt (base : Nat) (o : Ou) (v : Value) (u : World) : Prop :=
  ∃ aw cw as_ cs, v = .agg #[.slice aw o.nw cw, .slice as_ o.ns cs, .int .i64 o.dice, .int .i64 o.f] ∧ u.ownsRow base 3 1 (.slice aw o.nw cw) o.nw (rowCells 1 (gW o.w) o.nw) ∧ u.ownsRow base 97 3 (.slice as_ o.ns cs) o.ns (rowCells 3 (gS o.sn) o.ns)
theorem OutAt.below {base : Nat} {o : Ou} {v : Value} {u u2 : World} (h : OutAt base o v u) (k : Below u.heap.size u u2) : OutAt base o v u2 := by
  obtain ⟨aw, cw, a, c, e, h1, h2⟩ := h
  exact ⟨aw, cw, a, c, e, own_below h1 k, own_below h2 k⟩
theorem OutAt.sl {base : Nat} {o : Ou} {v : Value} {u : World} (h : OutAt base o v u) : ∃ aw cw as_ cs, v = .agg #[.slice aw o.nw cw, .slice as_ o.ns cs, .int .i64 o.dice, .int .i64 o.f] ∧ Sl 1 (gW o.w) o.nw (.slice aw o.nw cw) u ∧ Sl 3 (gS o.sn) o.ns (.slice as_ o.ns cs) u := by
  obtain ⟨aw, cw, a, c, e, h1, h2⟩ := h
  exact ⟨aw, cw, a, c, e, own_sl h1, own_sl h2⟩
theorem own_lower {w : World} {b b2 : Nat} {E : TypeId} {C n : Nat} {v : Value} {xs : List Value} (h : w.ownsRow b E C v n xs) (hb : b2 ≤ b) : w.ownsRow b2 E C v n xs := by
  obtain ⟨h1, h2⟩ := h
  refine ⟨h1, ?_⟩
  rcases h2 with h2 | ⟨g, cap, cur, r1, r2, r3⟩
  · exact .inl h2
  · exact .inr ⟨g, cap, cur, r1, Nat.le_trans hb r2, r3⟩
theorem OutAt.lower {base b2 : Nat} {o : Ou} {v : Value} {u : World} (h : OutAt base o v u) (hb : b2 ≤ base) : OutAt b2 o v u := by
  obtain ⟨aw, cw, a, c, e, h1, h2⟩ := h
  exact ⟨aw, cw, a, c, e, own_lower h1 hb, own_lower h2 hb⟩
/-- a store into a block of outputs turns no row of an output -/
theorem OutAt.set {base : Nat} {o : Ou} {v : Value} {u : World} (h : OutAt base o v u) {B : Nat} {cs : Array Value} {T : TypeId} {fr : Nat × Nat} (hB : u.heap[B]? = some (.cells cs T fr)) (h1 : T ≠ 3) (h2 : T ≠ 97) {u2 : World} (hk : ∀ k, k ≠ B → u2.heap[k]? = u.heap[k]?) : OutAt base o v u2 := by
  obtain ⟨aw, cw, a, c, e, r1, r2⟩ := h
  exact ⟨aw, cw, a, c, e, own_kept r1 fun g hg => hk g (by rintro rfl; exact own_not r1 hB h1 hg), own_kept r2 fun g hg => hk g (by rintro rfl; exact own_not r2 hB h2 hg)⟩
end Go.Proofs.YthkfaeplmmlnlaaGreat
namespace Go.Proofs.YthkfaeplmmlnlaaGreat
open Go.RowKit
set_option linter.unusedVariables false
set_option maxRecDepth 100000

def zeroU : Ou := ⟨0, fun _ => 0, 0, fun _ => ⟨0, 0, 0⟩, 0, 0⟩
/-- what comes of it, by the document -/
def doU (pr : Nat → I4) (pl : Nat) (i : Inp) : Ou :=
  if mayN pr pl i = 0 then (if (wholeM pr pl i).f = 0 then ⟨(wholeM pr pl i).nw, (wholeM pr pl i).w, (wholeM pr pl i).ns, (wholeM pr pl i).sn, (wholeM pr pl i).dice, 0⟩ else { zeroU with f := (wholeM pr pl i).f }) else zeroU
theorem out_none {o : Ou} (base : Nat) (u : World) (h1 : o.nw = 0) (h2 : o.ns = 0) : OutAt base o (.agg #[.slice none 0 0, .slice none 0 0, .int .i64 o.dice, .int .i64 o.f]) u := by
  refine ⟨none, 0, none, 0, by rw [h1, h2], ?_, ?_⟩
  · rw [h1, rowCells_zero]; exact World.ownsRow_nil _ _ _ _
  · rw [h2, rowCells_zero]; exact World.ownsRow_nil _ _ _ _
theorem put_four {W : World} {B : Nat} {c0 c1 c2 c3 : Value} {T : TypeId} (h : W.heap[B]? = some (.cells #[c0, c1, c2, c3] T (0, 0))) (u0 u1 u2 u3 : Value) :
    (W.setCells B 0 [u0, u1, u2, u3]).heap[B]? = some (.cells #[u0, u1, u2, u3] T (0, 0)) :=
  Joins.block_setCell (Joins.block_setCell (Joins.block_setCell (Joins.block_setCell h u0) u1) u2) u3
theorem put_low7 {base B : Nat} (hB : base ≤ B) : ∀ (l : List Value) (o : Nat) (W : World), Below base W (W.setCells B o l)
  | [], _, W => Below.refl _ _
  | v :: l, o, W => ((Below.refl base W).setCell (p := ⟨B, o, none⟩) hB v).trans (put_low7 hB l (o + 1) _)
theorem own_setCells {B b C n : Nat} {E : TypeId} {v : Value} {xs : List Value} (hne : v.ownBlock ≠ some B) : ∀ (l : List Value) (o : Nat) (W : World), W.ownsRow b E C v n xs → (W.setCells B o l).ownsRow b E C v n xs
  | [], _, W, h => h
  | x :: l, o, W, h => own_setCells hne l (o + 1) _ (own_setCell h hne)

set_option maxHeartbeats 3200000 in
theorem do7_any (pr : Nat → I4) (pl : Nat) (vp : Value) (i : Inp) (vI : Value) (w : World) (hp : Sl 4 (gI pr) pl vp w) (hw : Sl 1 (gW i.w) i.nw vI w) (hbd : Bd (beginM i)) (hb : ∀ k, r64v (pr k).b) :
    Calls Tryz.prog 35 #[vp, .agg #[vI, .int .i64 i.pay, .int .i64 i.me, .int .i64 i.lps, .int .i64 i.seed, .int .i64 i.dice]] w fun e w' =>
      ∃ v, e = .returned (.tuple #[v, .int .i64 (mayN pr pl i)]) ∧ OutAt w.heap.size (doU pr pl i) v w' ∧ Below w.heap.size w w' := by
  have X1 : Hid (((w.alloc (.cells #[vI, .int .i64 i.pay, .int .i64 i.me, .int .i64 i.lps, .int .i64 i.seed, .int .i64 i.dice] 87)).alloc (.cells #[.slice none 0 0, .slice none 0 0, .int .i64 0, .int .i64 0] 90)).heap[w.heap.size]? = some (.cells #[vI, .int .i64 i.pay, .int .i64 i.me, .int .i64 i.lps, .int .i64 i.seed, .int .i64 i.dice] 87)) := (Below.heap_alloc _ _ _ (by rw [World.size_alloc]; omega)).trans (heap_alloc_new w _)
  have R1 : Hid (((w.alloc (.cells #[vI, .int .i64 i.pay, .int .i64 i.me, .int .i64 i.lps, .int .i64 i.seed, .int .i64 i.dice] 87)).alloc (.cells #[.slice none 0 0, .slice none 0 0, .int .i64 0, .int .i64 0] 90)).heap[w.heap.size + 1]? = some (.cells #[.slice none 0 0, .slice none 0 0, .int .i64 0, .int .i64 0] 90 (0, 0))) := by
    have := heap_alloc_new (w.alloc (.cells #[vI, .int .i64 i.pay, .int .i64 i.me, .int .i64 i.lps, .int .i64 i.seed, .int .i64 i.dice] 87)) (.cells #[.slice none 0 0, .slice none 0 0, .int .i64 0, .int .i64 0] 90)
    rwa [World.size_alloc] at this
  have B1 := Lib.hid (bthen (balloc w (.cells #[vI, .int .i64 i.pay, .int .i64 i.me, .int .i64 i.lps, .int .i64 i.seed, .int .i64 i.dice] 87)) (balloc _ (.cells #[.slice none 0 0, .slice none 0 0, .int .i64 0, .int .i64 0] 90)))
  have HM : Hid (∀ u, Below w.heap.size w u → Calls Tryz.prog 68 #[vp, .agg #[vI, .int .i64 i.pay, .int .i64 i.me, .int .i64 i.lps, .int .i64 i.seed, .int .i64 i.dice]] u fun e w' => e = .returned (.int .i64 (mayN pr pl i)) ∧ Below u.heap.size u w') := fun u k => may7_any pr pl vp i vI u (hp.below k) (hw.below k)
  have HO : Hid (mayN pr pl i = 0 → ∀ u, Below w.heap.size w u → Calls Tryz.prog 69 #[vp, .agg #[vI, .int .i64 i.pay, .int .i64 i.me, .int .i64 i.lps, .int .i64 i.seed, .int .i64 i.dice]] u (OfPost pr pl i u)) := fun h0 u k => by
    have hh : ((1 ≤ pl ∧ pl ≤ 48) ∧ allN (fun k => insB (pr k) pl) pl = true) ∧ i.nw ≤ 8 := by
      unfold mayN at h0
      by_cases c : (1 ≤ pl ∧ pl ≤ 48) ∧ allN (fun k => insB (pr k) pl) pl = true
      · rw [if_pos c] at h0
        refine ⟨c, ?_⟩
        by_cases c2 : 8 < i.nw
        · rw [if_pos c2] at h0; exact absurd h0 (by decide)
        · omega
      · rw [if_neg c] at h0; exact absurd h0 (by decide)
    exact of7_any pr pl vp i vI u (hp.below k) (hw.below k) hh.1.1.2 hh.2 ((allN_iff _ _).1 hh.1.2) hbd hb
  have hdo : Hid (doU pr pl i = if mayN pr pl i = 0 then (if (wholeM pr pl i).f = 0 then ⟨(wholeM pr pl i).nw, (wholeM pr pl i).w, (wholeM pr pl i).ns, (wholeM pr pl i).sn, (wholeM pr pl i).dice, 0⟩ else { zeroU with f := (wholeM pr pl i).f }) else zeroU) := rfl
  have hm : mayN pr pl i = 0 ∨ mayN pr pl i = 2 ∨ mayN pr pl i = 15 := by unfold mayN; split <;> (try split) <;> simp
  generalize doU pr pl i = ou at *
  generalize mayN pr pl i = mn at *
  clear hp hw hbd hb
  obtain ⟨n0, n1, n2, n3, n4, n5⟩ := six_cells7 X1.out
  obtain ⟨z0, z1, z2, z3⟩ := four_cells R1.out
  have zf : ∀ q, _ = false := fun q => Lib.frozen_of_heap R1.out q
  generalize hu : (w.alloc (.cells #[vI, .int .i64 i.pay, .int .i64 i.me, .int .i64 i.lps, .int .i64 i.seed, .int .i64 i.dice] 87)).alloc (.cells #[.slice none 0 0, .slice none 0 0, .int .i64 0, .int .i64 0] 90) = u at X1 R1 B1 n0 n1 n2 n3 n4 n5 z0 z1 z2 z3 zf
  go_enter Tryz.func35, Tryz.ntmps35
  go_upto_region 1 with fail
  try rw [hu]
  clear hu
  by_cases h0 : mn = 0
  · subst h0
    have HO2 := Lib.hid (HO.out rfl)
    have hdo1 : Hid (ou = if (wholeM pr pl i).f = 0 then ⟨(wholeM pr pl i).nw, (wholeM pr pl i).w, (wholeM pr pl i).ns, (wholeM pr pl i).sn, (wholeM pr pl i).dice, 0⟩ else { zeroU with f := (wholeM pr pl i).f }) := by show _ = _; rw [hdo.out, if_pos rfl]
    clear HO hm hdo
    go_wp2_with (go_at_call 68; refine (HM.out _ B1.out).mono ?_; rintro e u2 ⟨rfl, hb2⟩; have X2 := Lib.hid ((hb2.block _ (lt_of_block X1.out)).trans X1.out); have R2 := Lib.hid ((hb2.block _ (lt_of_block R1.out)).trans R1.out); have B2 := Lib.hid (bthen B1.out hb2); clear hb2 n0 n1 n2 n3 n4 n5 z0 z1 z2 z3 zf; obtain ⟨n0, n1, n2, n3, n4, n5⟩ := six_cells7 X2.out)
    refine (HO2.out _ B2.out).mono ?_
    rintro e u3 ⟨P, bg, vw, vs, rfl, hrun, hb3⟩
    have R3 := Lib.hid ((hb3.block _ (lt_of_block R2.out)).trans R2.out)
    have B3 := Lib.hid (bthen B2.out hb3)
    have RU := Lib.hid hrun
    obtain ⟨aw, cw, rfl⟩ := hrun.form
    obtain ⟨as_, cs, rfl⟩ := hrun.form2
    have HR : Hid ((wholeM pr pl i).f = 0 → OutAt w.heap.size ou (.agg #[.slice aw (wholeM pr pl i).nw cw, .slice as_ (wholeM pr pl i).ns cs, .int .i64 (wholeM pr pl i).dice, .int .i64 0]) (u3.setCells (w.heap.size + 1) 0 [.slice aw (wholeM pr pl i).nw cw, .slice as_ (wholeM pr pl i).ns cs, .int .i64 (wholeM pr pl i).dice, .int .i64 0]).drew) := fun hf => by
      rw [hdo1.out, if_pos hf]
      refine ⟨aw, cw, as_, cs, rfl, ?_, ?_⟩
      · exact own_lower (own_below (own_setCells (own_not RU.out.w R3.out (by decide)) _ 0 _ RU.out.w) (bdrew _)) (Nat.le_succ_of_le B2.out.size)
      · exact own_lower (own_below (own_setCells (own_not RU.out.s R3.out (by decide)) _ 0 _ RU.out.s) (bdrew _)) (Nat.le_succ_of_le B2.out.size)
    have HZ : Hid ((wholeM pr pl i).f ≠ 0 → ou = { zeroU with f := (wholeM pr pl i).f }) := fun hf => by rw [hdo1.out, if_neg hf]
    clear hrun hb3 n0 n1 n2 n3 n4 n5 hdo1 HM HO2
    obtain ⟨p0, p1, p2, p3, p4, p5, p6, pf⟩ := RU.out.cells
    obtain ⟨z0, z1, z2, z3⟩ := four_cells R3.out
    have zf : ∀ q, u3.frozen? ⟨w.heap.size + 1, q, none⟩ = false := fun q => Lib.frozen_of_heap R3.out q
    clear RU
    generalize wholeM pr pl i = rr at *
    by_cases hf : rr.f = 0
    · have df : (rr.f != 0) = false := by simp [hf]
      have HR2 := Lib.hid (HR.out hf)
      clear HR HZ hf
      go_wp2_with fail
      go_region
      change Exit.then _ _ _ _ (World.setCells u3 (w.heap.size + 1) 0 [.slice aw rr.nw cw, .slice as_ rr.ns cs, .int .i64 rr.dice, .int .i64 0]).drew
      have h5 := put_four R3.out (.slice aw rr.nw cw) (.slice as_ rr.ns cs) (.int .i64 rr.dice) (.int .i64 0)
      have h6 : (World.setCells u3 (w.heap.size + 1) 0 [.slice aw rr.nw cw, .slice as_ rr.ns cs, .int .i64 rr.dice, .int .i64 0]).drew.heap[w.heap.size + 1]? = some (.cells #[.slice aw rr.nw cw, .slice as_ rr.ns cs, .int .i64 rr.dice, .int .i64 0] 90 (0, 0)) := ((bdrew (World.setCells u3 (w.heap.size + 1) 0 [.slice aw rr.nw cw, .slice as_ rr.ns cs, .int .i64 rr.dice, .int .i64 0])).block _ (lt_of_block h5)).trans h5
      have LZ := Lib.hid (B3.out.trans (put_low7 (show w.heap.size ≤ w.heap.size + 1 by omega) [.slice aw rr.nw cw, .slice as_ rr.ns cs, .int .i64 rr.dice, .int .i64 0] 0 u3)).drew
      obtain ⟨t0, t1, t2, t3⟩ := four_cells h6
      clear h5 h6
      generalize (World.setCells u3 (w.heap.size + 1) 0 [.slice aw rr.nw cw, .slice as_ rr.ns cs, .int .i64 rr.dice, .int .i64 0]).drew = w9 at *
      go_wp2_with fail
      exact bodyPost_ret (v := .tuple #[.agg #[.slice aw rr.nw cw, .slice as_ rr.ns cs, .int .i64 rr.dice, .int .i64 0], .int .i64 0]) (by simp [results, Tryz.results35, go_sem, t0, t1, t2, t3]) rfl ⟨_, rfl, HR2.out, LZ.out⟩
    · have df : (rr.f != 0) = true := by simp [hf]
      have HZ2 := Lib.hid (HZ.out hf)
      clear HR HZ hf
      go_wp2_with fail
      change bodyPost _ _ _ _ _ (World.setCells u3 (w.heap.size + 1) 0 [.slice none 0 0, .slice none 0 0, .int .i64 0, .int .i64 rr.f])
      have h5 := put_four R3.out (.slice none 0 0) (.slice none 0 0) (.int .i64 0) (.int .i64 rr.f)
      have LZ := Lib.hid (B3.out.trans (put_low7 (show w.heap.size ≤ w.heap.size + 1 by omega) [.slice none 0 0, .slice none 0 0, .int .i64 0, .int .i64 rr.f] 0 u3))
      obtain ⟨t0, t1, t2, t3⟩ := four_cells h5
      clear h5
      generalize World.setCells u3 (w.heap.size + 1) 0 [.slice none 0 0, .slice none 0 0, .int .i64 0, .int .i64 rr.f] = w9 at *
      exact bodyPost_ret (v := .tuple #[.agg #[.slice none 0 0, .slice none 0 0, .int .i64 0, .int .i64 rr.f], .int .i64 0]) (by simp [results, Tryz.results35, go_sem, t0, t1, t2, t3]) rfl ⟨_, rfl, by rw [HZ2.out]; exact out_none (o := { zeroU with f := rr.f }) _ _ rfl rfl, LZ.out⟩
  · have d0 : (mn != 0) = true := by simp [h0]
    have HZ2 : Hid (ou = zeroU) := by show _ = _; rw [hdo.out, if_neg h0]
    clear HO hdo h0 hm
    go_wp2_with (go_at_call 68; refine (HM.out _ B1.out).mono ?_; rintro e u2 ⟨rfl, hb2⟩; have R2 := Lib.hid ((hb2.block _ (lt_of_block R1.out)).trans R1.out); have B2 := Lib.hid (bthen B1.out hb2); clear hb2 n0 n1 n2 n3 n4 n5 z0 z1 z2 z3 zf; obtain ⟨z0, z1, z2, z3⟩ := four_cells R2.out; have zf : ∀ q, u2.frozen? ⟨w.heap.size + 1, q, none⟩ = false := fun q => Lib.frozen_of_heap R2.out q)
    change bodyPost _ _ _ _ _ (World.setCells u2 (w.heap.size + 1) 0 [.slice none 0 0, .slice none 0 0, .int .i64 0, .int .i64 0])
    have h5 := put_four R2.out (.slice none 0 0) (.slice none 0 0) (.int .i64 0) (.int .i64 0)
    have LZ := Lib.hid (B2.out.trans (put_low7 (show w.heap.size ≤ w.heap.size + 1 by omega) [.slice none 0 0, .slice none 0 0, .int .i64 0, .int .i64 0] 0 u2))
    obtain ⟨t0, t1, t2, t3⟩ := four_cells h5
    clear h5
    generalize World.setCells u2 (w.heap.size + 1) 0 [.slice none 0 0, .slice none 0 0, .int .i64 0, .int .i64 0] = w9 at *
    exact bodyPost_ret (v := .tuple #[.agg #[.slice none 0 0, .slice none 0 0, .int .i64 0, .int .i64 0], .int .i64 mn]) (by simp [results, Tryz.results35, go_sem, t0, t1, t2, t3]) rfl ⟨_, rfl, by rw [HZ2.out]; exact out_none (o := zeroU) _ _ rfl rfl, LZ.out⟩

end Go.Proofs.YthkfaeplmmlnlaaGreat
