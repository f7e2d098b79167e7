/- The contracts of needs, mayBeIn, Ins, and of the document's own answer. -/
import Derived.Test.YtehdlpgopcoecaaRows
import Derived.Test.YtehdlpgopcoecaaModelMath
import Derived.Test.YtehdlpgopcoecaaBase
import Derived.WalkKit
import Derived.WalkSpells
import Derived.WalkLawsBesides
import Derived.Lib.Hide
import Derived.WalkSmall
import Derived.Laws.RangeString
import Derived.LoopN
import Derived.Lib.SmallJoins
namespace Go.Proofs.Ytehdlpgopcoecaa
open Go.RowKit
set_option linter.unusedVariables false

/-- the letters of a kind of instruction -/
def lettersK (k : Nat) : ByteArray :=
  match k with
  | 1 => ⟨#[112]⟩
  | 2 => ⟨#[114, 112]⟩
  | 3 => ⟨#[114]⟩
  | 4 => ⟨#[114, 114]⟩
  | 5 => ⟨#[114, 114, 114]⟩
  | _ => ⟨#[]⟩
def isK (k : Nat) : Bool := decide (k < 6)

set_option maxHeartbeats 800000 in
theorem needs_any (op : Int) (w : World) :
    Calls Try.prog 46 #[.int .i64 op] w fun e w' => e = .returned (.tuple #[.string (lettersK (kindI op)), .bool (isK (kindI op))]) ∧ w = w' := by
  have E : Hid (∀ k, kindI op = k → (lettersK (kindI op), isK (kindI op)) = (lettersK k, isK k)) := fun k h => by rw [h]
  generalize lettersK (kindI op) = L at E ⊢
  generalize isK (kindI op) = B at E ⊢
  go_enter Try.func46, Try.ntmps46
  go_wp2_with fail
  all_goals
    go_ret2
    refine ⟨?_, rfl⟩
    simp only [beq_iff_eq, beq_eq_false_iff_ne, ne_eq] at *
    first
      | (obtain ⟨rfl, rfl⟩ := Prod.mk.inj (E.out 0 (by unfold kindI; simp [*]; done)); rfl)
      | (obtain ⟨rfl, rfl⟩ := Prod.mk.inj (E.out 1 (by unfold kindI; simp [*]; done)); rfl)
      | (obtain ⟨rfl, rfl⟩ := Prod.mk.inj (E.out 2 (by unfold kindI; simp [*]; done)); rfl)
      | (obtain ⟨rfl, rfl⟩ := Prod.mk.inj (E.out 3 (by unfold kindI; simp [*]; done)); rfl)
      | (obtain ⟨rfl, rfl⟩ := Prod.mk.inj (E.out 4 (by unfold kindI; simp [*]; done)); rfl)
      | (obtain ⟨rfl, rfl⟩ := Prod.mk.inj (E.out 5 (by unfold kindI; simp [*]; done)); rfl)
      | (obtain ⟨rfl, rfl⟩ := Prod.mk.inj (E.out 6 (by unfold kindI; simp [*]; done)); rfl)

theorem reg_any (n : Int) (w : World) :
    Calls Try.prog 26 #[.int .i64 n] w fun e w' => e = .returned (.bool (regB n)) ∧ w = w' := by
  have E : Hid (∀ b, (decide (0 ≤ n) && decide (n ≤ 7)) = b → regB n = b) := fun b h => h
  generalize regB n = r at E ⊢
  go_enter Try.func26, Try.ntmps26
  go_wp2_with fail
  all_goals
    go_ret
    refine ⟨?_, rfl⟩
    rw [E.out _ rfl]
    simp [*]
    try omega



/-- the world in which the letters are gone through -/
def partsW (w : World) (op a b c : Int) : World := (w.alloc (.cells #[.int .i64 op, .int .i64 a, .int .i64 b, .int .i64 c] 45)).alloc (.cells #[.int .i64 a, .int .i64 b, .int .i64 c] 87)
theorem partsW_size (w : World) (op a b c : Int) : (partsW w op a b c).heap.size = w.heap.size + 1 + 1 := by
  show ((w.heap.push _).push _).size = _
  simp
theorem partsW_at (w : World) (op a b c : Int) (i : Nat) : (partsW w op a b c).cell? ⟨w.heap.size + 1, i, none⟩ = #[Value.int .i64 a, .int .i64 b, .int .i64 c][i]? := by simp [partsW]
theorem iter_cell (W : World) (L : ByteArray) (k : Nat) (p : Addr) (h : p.block < W.heap.size) : (W.iter L k).cell? p = W.cell? p := World.cell?_alloc_lt W _ p h
theorem partsW_iter (w : World) (op a b c : Int) (L : ByteArray) (k i : Nat) : ((partsW w op a b c).iter L k).cell? ⟨w.heap.size + 1, i, none⟩ = #[Value.int .i64 a, .int .i64 b, .int .i64 c][i]? := by
  rw [iter_cell _ _ _ _ (by rw [partsW_size]; show w.heap.size + 1 < _; omega), partsW_at]
theorem partsW_old (w : World) (op a b c : Int) (L : ByteArray) (k q i : Nat) (h : q < w.heap.size) : ((partsW w op a b c).iter L k).cell? ⟨q, i, none⟩ = w.cell? ⟨q, i, none⟩ := by
  rw [iter_cell _ _ _ _ (by rw [partsW_size]; show q < _; omega)]
  unfold partsW
  rw [World.cell?_alloc_lt _ _ _ (by show q < (w.heap.push _).size; simp; omega), World.cell?_alloc_lt _ _ _ h]
theorem partsW_below (w : World) (op a b c : Int) (L : ByteArray) (k : Nat) : Below w.heap.size w ((partsW w op a b c).iter L k) := bthen (bthen (balloc w _) (balloc _ _)) (balloc _ _)
theorem next_at (W : World) (N : Nat) (e : W.heap.size = N) (L : ByteArray) (k : Nat) (h : k < L.size) (x : Nat) (hx : (L[k]'h).toNat = x) (ha : x < 128) (ty : TypeId) :
    (Instr.next (.pointer (some ⟨N, 0, none⟩)) true ty).run Try.prog (W.iter L k) = .ok (.tuple #[.bool true, .int .i64 k, .int .i32 x]) (W.iter L (k + 1)) := by
  subst e hx; exact run_next_ascii W L k ty h ha
theorem next_out (W : World) (N : Nat) (e : W.heap.size = N) (L : ByteArray) (k : Nat) (h : ¬ k < L.size) (ty : TypeId) :
    (Instr.next (.pointer (some ⟨N, 0, none⟩)) true ty).run Try.prog (W.iter L k) = .ok (.tuple #[.bool false]) (W.iter L k) := by
  subst e; exact run_next_end W L k ty h

set_option maxHeartbeats 1600000 in
theorem mayI_0 (op a b c len : Int) (q : Nat) (w : World) (hq : w.cell? ⟨q, 0, none⟩ = some (.int .i64 len)) (hlt : q < w.heap.size)
    (H : Hid (∀ w, Calls Try.prog 46 #[.int .i64 op] w fun e w' => e = .returned (.tuple #[.string ⟨#[]⟩, .bool true]) ∧ w = w')) :
    Calls Try.prog 45 #[.agg #[.int .i64 op, .int .i64 a, .int .i64 b, .int .i64 c], .pointer (some ⟨q, 0, none⟩)] w fun e w' => e = .returned (.bool (kindB 0 a b c len)) ∧ Below w.heap.size w w' := by
  have hB : Hid (∀ k, Below w.heap.size w ((partsW w op a b c).iter ⟨#[]⟩ k)) := partsW_below w op a b c _
  generalize hr : kindB 0 a b c len = r
  have hE := Lib.hid hr
  clear hr
  go_enter Try.func45, Try.ntmps45
  go_wp2_with (go_at_call 46; refine (H.out _).mono ?_; rintro e w' ⟨rfl, rfl⟩)
  have hn0 := next_out _ _ (partsW_size w op a b c) ⟨#[]⟩ 0 (by decide)
  clear hq hlt
  change Code.wp _ _ _ _ (World.iter (partsW w op a b c) _ _)
  generalize partsW w op a b c = W at *
  refine wp_loop_rounds 1 ?_
  repeat' (rw [rounds_succ]; go_wp2_with fail)
  all_goals
    go_ret
    refine ⟨?_, hB.out _⟩
    first
      | (have h : kindB 0 a b c len = true := by (simp [kindB] <;> omega)
         rw [← hE.out, h]
         rfl)
      | (have h : kindB 0 a b c len = false := by (simp [kindB] <;> omega)
         rw [← hE.out, h]
         rfl)

set_option maxHeartbeats 1600000 in
theorem mayI_1 (op a b c len : Int) (q : Nat) (w : World) (hq : w.cell? ⟨q, 0, none⟩ = some (.int .i64 len)) (hlt : q < w.heap.size)
    (H : Hid (∀ w, Calls Try.prog 46 #[.int .i64 op] w fun e w' => e = .returned (.tuple #[.string ⟨#[112]⟩, .bool true]) ∧ w = w')) :
    Calls Try.prog 45 #[.agg #[.int .i64 op, .int .i64 a, .int .i64 b, .int .i64 c], .pointer (some ⟨q, 0, none⟩)] w fun e w' => e = .returned (.bool (kindB 1 a b c len)) ∧ Below w.heap.size w w' := by
  have hB : Hid (∀ k, Below w.heap.size w ((partsW w op a b c).iter ⟨#[112]⟩ k)) := partsW_below w op a b c _
  generalize hr : kindB 1 a b c len = r
  have hE := Lib.hid hr
  clear hr
  go_enter Try.func45, Try.ntmps45
  go_wp2_with (go_at_call 46; refine (H.out _).mono ?_; rintro e w' ⟨rfl, rfl⟩)
  have hn0 := next_at _ _ (partsW_size w op a b c) ⟨#[112]⟩ 0 (by decide) 112 (by decide) (by decide)
  have hc0 : ((partsW w op a b c).iter ⟨#[112]⟩ 1).cell? ⟨w.heap.size + 1, 0, none⟩ = some (.int .i64 a) := partsW_iter ..
  have hq0 : ((partsW w op a b c).iter ⟨#[112]⟩ 1).cell? ⟨q, 0, none⟩ = some (.int .i64 len) := by rw [partsW_old _ _ _ _ _ _ _ _ _ hlt]; exact hq
  have hn1 := next_out _ _ (partsW_size w op a b c) ⟨#[112]⟩ 1 (by decide)
  clear hq hlt
  change Code.wp _ _ _ _ (World.iter (partsW w op a b c) _ _)
  generalize partsW w op a b c = W at *
  refine wp_loop_rounds 2 ?_
  repeat' (rw [rounds_succ]; go_wp2_with fail)
  all_goals
    go_ret
    refine ⟨?_, hB.out _⟩
    first
      | (have h : kindB 1 a b c len = true := by (simp [kindB, plcB] <;> omega)
         rw [← hE.out, h]
         rfl)
      | (have h : kindB 1 a b c len = false := by (simp [kindB, plcB] <;> omega)
         rw [← hE.out, h]
         rfl)

set_option maxHeartbeats 1600000 in
theorem mayI_2 (op a b c len : Int) (q : Nat) (w : World) (hq : w.cell? ⟨q, 0, none⟩ = some (.int .i64 len)) (hlt : q < w.heap.size)
    (H : Hid (∀ w, Calls Try.prog 46 #[.int .i64 op] w fun e w' => e = .returned (.tuple #[.string ⟨#[114, 112]⟩, .bool true]) ∧ w = w')) :
    Calls Try.prog 45 #[.agg #[.int .i64 op, .int .i64 a, .int .i64 b, .int .i64 c], .pointer (some ⟨q, 0, none⟩)] w fun e w' => e = .returned (.bool (kindB 2 a b c len)) ∧ Below w.heap.size w w' := by
  have hB : Hid (∀ k, Below w.heap.size w ((partsW w op a b c).iter ⟨#[114, 112]⟩ k)) := partsW_below w op a b c _
  generalize hr : kindB 2 a b c len = r
  have hE := Lib.hid hr
  clear hr
  go_enter Try.func45, Try.ntmps45
  go_wp2_with (go_at_call 46; refine (H.out _).mono ?_; rintro e w' ⟨rfl, rfl⟩)
  have hn0 := next_at _ _ (partsW_size w op a b c) ⟨#[114, 112]⟩ 0 (by decide) 114 (by decide) (by decide)
  have hc0 : ((partsW w op a b c).iter ⟨#[114, 112]⟩ 1).cell? ⟨w.heap.size + 1, 0, none⟩ = some (.int .i64 a) := partsW_iter ..
  have hn1 := next_at _ _ (partsW_size w op a b c) ⟨#[114, 112]⟩ 1 (by decide) 112 (by decide) (by decide)
  have hc1 : ((partsW w op a b c).iter ⟨#[114, 112]⟩ 2).cell? ⟨w.heap.size + 1, 1, none⟩ = some (.int .i64 b) := partsW_iter ..
  have hq1 : ((partsW w op a b c).iter ⟨#[114, 112]⟩ 2).cell? ⟨q, 0, none⟩ = some (.int .i64 len) := by rw [partsW_old _ _ _ _ _ _ _ _ _ hlt]; exact hq
  have hn2 := next_out _ _ (partsW_size w op a b c) ⟨#[114, 112]⟩ 2 (by decide)
  clear hq hlt
  change Code.wp _ _ _ _ (World.iter (partsW w op a b c) _ _)
  generalize partsW w op a b c = W at *
  refine wp_loop_rounds 3 ?_
  repeat' (rw [rounds_succ]; go_wp2_with fail)
  all_goals
    go_ret
    refine ⟨?_, hB.out _⟩
    first
      | (have h : kindB 2 a b c len = true := by (simp [kindB, regB, plcB] <;> omega)
         rw [← hE.out, h]
         rfl)
      | (have h : kindB 2 a b c len = false := by (simp [kindB, regB, plcB] <;> omega)
         rw [← hE.out, h]
         rfl)

set_option maxHeartbeats 1600000 in
theorem mayI_3 (op a b c len : Int) (q : Nat) (w : World) (hq : w.cell? ⟨q, 0, none⟩ = some (.int .i64 len)) (hlt : q < w.heap.size)
    (H : Hid (∀ w, Calls Try.prog 46 #[.int .i64 op] w fun e w' => e = .returned (.tuple #[.string ⟨#[114]⟩, .bool true]) ∧ w = w')) :
    Calls Try.prog 45 #[.agg #[.int .i64 op, .int .i64 a, .int .i64 b, .int .i64 c], .pointer (some ⟨q, 0, none⟩)] w fun e w' => e = .returned (.bool (kindB 3 a b c len)) ∧ Below w.heap.size w w' := by
  have hB : Hid (∀ k, Below w.heap.size w ((partsW w op a b c).iter ⟨#[114]⟩ k)) := partsW_below w op a b c _
  generalize hr : kindB 3 a b c len = r
  have hE := Lib.hid hr
  clear hr
  go_enter Try.func45, Try.ntmps45
  go_wp2_with (go_at_call 46; refine (H.out _).mono ?_; rintro e w' ⟨rfl, rfl⟩)
  have hn0 := next_at _ _ (partsW_size w op a b c) ⟨#[114]⟩ 0 (by decide) 114 (by decide) (by decide)
  have hc0 : ((partsW w op a b c).iter ⟨#[114]⟩ 1).cell? ⟨w.heap.size + 1, 0, none⟩ = some (.int .i64 a) := partsW_iter ..
  have hn1 := next_out _ _ (partsW_size w op a b c) ⟨#[114]⟩ 1 (by decide)
  clear hq hlt
  change Code.wp _ _ _ _ (World.iter (partsW w op a b c) _ _)
  generalize partsW w op a b c = W at *
  refine wp_loop_rounds 2 ?_
  repeat' (rw [rounds_succ]; go_wp2_with fail)
  all_goals
    go_ret
    refine ⟨?_, hB.out _⟩
    first
      | (have h : kindB 3 a b c len = true := by (simp [kindB, regB] <;> omega)
         rw [← hE.out, h]
         rfl)
      | (have h : kindB 3 a b c len = false := by (simp [kindB, regB] <;> omega)
         rw [← hE.out, h]
         rfl)

set_option maxHeartbeats 1600000 in
theorem mayI_4 (op a b c len : Int) (q : Nat) (w : World) (hq : w.cell? ⟨q, 0, none⟩ = some (.int .i64 len)) (hlt : q < w.heap.size)
    (H : Hid (∀ w, Calls Try.prog 46 #[.int .i64 op] w fun e w' => e = .returned (.tuple #[.string ⟨#[114, 114]⟩, .bool true]) ∧ w = w')) :
    Calls Try.prog 45 #[.agg #[.int .i64 op, .int .i64 a, .int .i64 b, .int .i64 c], .pointer (some ⟨q, 0, none⟩)] w fun e w' => e = .returned (.bool (kindB 4 a b c len)) ∧ Below w.heap.size w w' := by
  have hB : Hid (∀ k, Below w.heap.size w ((partsW w op a b c).iter ⟨#[114, 114]⟩ k)) := partsW_below w op a b c _
  generalize hr : kindB 4 a b c len = r
  have hE := Lib.hid hr
  clear hr
  go_enter Try.func45, Try.ntmps45
  go_wp2_with (go_at_call 46; refine (H.out _).mono ?_; rintro e w' ⟨rfl, rfl⟩)
  have hn0 := next_at _ _ (partsW_size w op a b c) ⟨#[114, 114]⟩ 0 (by decide) 114 (by decide) (by decide)
  have hc0 : ((partsW w op a b c).iter ⟨#[114, 114]⟩ 1).cell? ⟨w.heap.size + 1, 0, none⟩ = some (.int .i64 a) := partsW_iter ..
  have hn1 := next_at _ _ (partsW_size w op a b c) ⟨#[114, 114]⟩ 1 (by decide) 114 (by decide) (by decide)
  have hc1 : ((partsW w op a b c).iter ⟨#[114, 114]⟩ 2).cell? ⟨w.heap.size + 1, 1, none⟩ = some (.int .i64 b) := partsW_iter ..
  have hn2 := next_out _ _ (partsW_size w op a b c) ⟨#[114, 114]⟩ 2 (by decide)
  clear hq hlt
  change Code.wp _ _ _ _ (World.iter (partsW w op a b c) _ _)
  generalize partsW w op a b c = W at *
  refine wp_loop_rounds 3 ?_
  repeat' (rw [rounds_succ]; go_wp2_with fail)
  all_goals
    go_ret
    refine ⟨?_, hB.out _⟩
    first
      | (have h : kindB 4 a b c len = true := by (simp [kindB, regB] <;> omega)
         rw [← hE.out, h]
         rfl)
      | (have h : kindB 4 a b c len = false := by (simp [kindB, regB] <;> omega)
         rw [← hE.out, h]
         rfl)

set_option maxHeartbeats 1600000 in
theorem mayI_5 (op a b c len : Int) (q : Nat) (w : World) (hq : w.cell? ⟨q, 0, none⟩ = some (.int .i64 len)) (hlt : q < w.heap.size)
    (H : Hid (∀ w, Calls Try.prog 46 #[.int .i64 op] w fun e w' => e = .returned (.tuple #[.string ⟨#[114, 114, 114]⟩, .bool true]) ∧ w = w')) :
    Calls Try.prog 45 #[.agg #[.int .i64 op, .int .i64 a, .int .i64 b, .int .i64 c], .pointer (some ⟨q, 0, none⟩)] w fun e w' => e = .returned (.bool (kindB 5 a b c len)) ∧ Below w.heap.size w w' := by
  have hB : Hid (∀ k, Below w.heap.size w ((partsW w op a b c).iter ⟨#[114, 114, 114]⟩ k)) := partsW_below w op a b c _
  generalize hr : kindB 5 a b c len = r
  have hE := Lib.hid hr
  clear hr
  go_enter Try.func45, Try.ntmps45
  go_wp2_with (go_at_call 46; refine (H.out _).mono ?_; rintro e w' ⟨rfl, rfl⟩)
  have hn0 := next_at _ _ (partsW_size w op a b c) ⟨#[114, 114, 114]⟩ 0 (by decide) 114 (by decide) (by decide)
  have hc0 : ((partsW w op a b c).iter ⟨#[114, 114, 114]⟩ 1).cell? ⟨w.heap.size + 1, 0, none⟩ = some (.int .i64 a) := partsW_iter ..
  have hn1 := next_at _ _ (partsW_size w op a b c) ⟨#[114, 114, 114]⟩ 1 (by decide) 114 (by decide) (by decide)
  have hc1 : ((partsW w op a b c).iter ⟨#[114, 114, 114]⟩ 2).cell? ⟨w.heap.size + 1, 1, none⟩ = some (.int .i64 b) := partsW_iter ..
  have hn2 := next_at _ _ (partsW_size w op a b c) ⟨#[114, 114, 114]⟩ 2 (by decide) 114 (by decide) (by decide)
  have hc2 : ((partsW w op a b c).iter ⟨#[114, 114, 114]⟩ 3).cell? ⟨w.heap.size + 1, 2, none⟩ = some (.int .i64 c) := partsW_iter ..
  have hn3 := next_out _ _ (partsW_size w op a b c) ⟨#[114, 114, 114]⟩ 3 (by decide)
  clear hq hlt
  change Code.wp _ _ _ _ (World.iter (partsW w op a b c) _ _)
  generalize partsW w op a b c = W at *
  refine wp_loop_rounds 4 ?_
  repeat' (rw [rounds_succ]; go_wp2_with fail)
  all_goals
    go_ret
    refine ⟨?_, hB.out _⟩
    first
      | (have h : kindB 5 a b c len = true := by (simp [kindB, regB] <;> omega)
         rw [← hE.out, h]
         rfl)
      | (have h : kindB 5 a b c len = false := by (simp [kindB, regB] <;> omega)
         rw [← hE.out, h]
         rfl)

set_option maxHeartbeats 1600000 in
theorem mayI_6 (op a b c len : Int) (q : Nat) (w : World) (hq : w.cell? ⟨q, 0, none⟩ = some (.int .i64 len)) (hlt : q < w.heap.size)
    (H : Hid (∀ w, Calls Try.prog 46 #[.int .i64 op] w fun e w' => e = .returned (.tuple #[.string ⟨#[]⟩, .bool false]) ∧ w = w')) :
    Calls Try.prog 45 #[.agg #[.int .i64 op, .int .i64 a, .int .i64 b, .int .i64 c], .pointer (some ⟨q, 0, none⟩)] w fun e w' => e = .returned (.bool (kindB 6 a b c len)) ∧ Below w.heap.size w w' := by
  have hB : Hid (∀ k, Below w.heap.size w ((partsW w op a b c).iter ⟨#[]⟩ k)) := partsW_below w op a b c _
  generalize hr : kindB 6 a b c len = r
  have hE := Lib.hid hr
  clear hr
  go_enter Try.func45, Try.ntmps45
  go_wp2_with (go_at_call 46; refine (H.out _).mono ?_; rintro e w' ⟨rfl, rfl⟩)
  have hn0 := next_out _ _ (partsW_size w op a b c) ⟨#[]⟩ 0 (by decide)
  clear hq hlt
  change Code.wp _ _ _ _ (World.iter (partsW w op a b c) _ _)
  generalize partsW w op a b c = W at *
  refine wp_loop_rounds 1 ?_
  repeat' (rw [rounds_succ]; go_wp2_with fail)
  all_goals
    go_ret
    refine ⟨?_, hB.out _⟩
    first
      | (have h : kindB 6 a b c len = true := by (simp [kindB] <;> omega)
         rw [← hE.out, h]
         rfl)
      | (have h : kindB 6 a b c len = false := by (simp [kindB] <;> omega)
         rw [← hE.out, h]
         rfl)

/-- may an instruction be in a program of so many? (the function that mayBeIn makes, its box in block q) -/
theorem mayI_any (x : I4) (len : Int) (q : Nat) (w : World) (hq : w.cell? ⟨q, 0, none⟩ = some (.int .i64 len)) (hlt : q < w.heap.size) :
    Calls Try.prog 45 #[.agg #[.int .i64 x.op, .int .i64 x.a, .int .i64 x.b, .int .i64 x.c], .pointer (some ⟨q, 0, none⟩)] w fun e w' => e = .returned (.bool (insB x len)) ∧ Below w.heap.size w w' := by
  have H := needs_any x.op
  have hk : kindI x.op ≤ 6 := by unfold kindI; split <;> (try omega); split <;> (try omega); split <;> (try omega); split <;> (try omega); split <;> (try omega); split <;> omega
  unfold insB
  generalize kindI x.op = k at *
  match k, hk with
  | 0, _ => exact mayI_0 _ _ _ _ _ q w hq hlt H
  | 1, _ => exact mayI_1 _ _ _ _ _ q w hq hlt H
  | 2, _ => exact mayI_2 _ _ _ _ _ q w hq hlt H
  | 3, _ => exact mayI_3 _ _ _ _ _ q w hq hlt H
  | 4, _ => exact mayI_4 _ _ _ _ _ q w hq hlt H
  | 5, _ => exact mayI_5 _ _ _ _ _ q w hq hlt H
  | 6, _ => exact mayI_6 _ _ _ _ _ q w hq hlt H

theorem mayBeIn_any (len : Int) (w : World) :
    Calls Try.prog 38 #[.int .i64 len] w fun e w' => e = .returned (.func (.func 45) #[] #[.pointer (some ⟨w.heap.size, 0, none⟩)]) ∧ w' = w.alloc (.cells #[.int .i64 len] 3) := by
  have hmf : ∀ (fn : Fn) (first cap : Array Value) (w : World), (Instr.makeFunc fn first cap).run Try.prog w = .ok (.func fn first cap) w := fun _ _ _ _ => rfl
  go_enter Try.func38, Try.ntmps38
  go_wp2_with fail
  go_ret
  exact ⟨rfl, rfl⟩


end Go.Proofs.Ytehdlpgopcoecaa
