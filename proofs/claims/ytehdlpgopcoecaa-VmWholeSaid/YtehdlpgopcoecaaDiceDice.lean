/- The contracts of dice.New, take, Next, Count. -/
import Derived.Test.YtehdlpgopcoecaaDiceRoll
import Derived.Lib.Builder
import Derived.Lib.SmallJoins
namespace Go.Proofs.Ytehdlpgopcoecaa
open Go.RowKit

/-- dice with a word and a next count lie in block b -/
def DiceAt (a : Nat) (c : Int) (b : Nat) (w : World) : Prop := w.heap[b]? = some (.cells #[.int .u64 a, .int .i64 c] 74 (0, 0))
theorem diceAt_lt {a : Nat} {c : Int} {b : Nat} {w : World} (h : DiceAt a c b w) : b < w.heap.size := by
  unfold DiceAt at h
  rcases Nat.lt_or_ge b w.heap.size with k | k
  · exact k
  · rw [Array.getElem?_eq_none k] at h; cases h
theorem diceAt_below {a : Nat} {c : Int} {b : Nat} {w w2 : World} (h : DiceAt a c b w) (k : Below w.heap.size w w2) : DiceAt a c b w2 := by
  have := k.block b (diceAt_lt h)
  unfold DiceAt at *
  rw [this, h]
theorem diceAt_drew {a : Nat} {c : Int} {b : Nat} {w : World} (h : DiceAt a c b w) : DiceAt a c b w.drew := h
theorem diceAt_new (a : Nat) (c : Int) (w : World) : DiceAt a c w.heap.size (w.alloc (.cells #[.int .u64 a, .int .i64 c] 74)) :=
  heap_alloc_new w _
theorem diceAt_set {a : Nat} {c : Int} {b : Nat} {w : World} (h : DiceAt a c b w) (d : Int) : DiceAt a d b (w.setCell ⟨b, 1, none⟩ (.int .i64 d)) := by
  unfold DiceAt at *
  rw [Joins.block_setCell h]
  rfl
theorem diceAt_other {a : Nat} {c : Int} {b k : Nat} {w : World} (h : DiceAt a c b w) (hk : b ≠ k) (v : Value) : DiceAt a c b (w.setCell ⟨k, 1, none⟩ v) := by
  unfold DiceAt at *
  rw [Below.heap_setCell w ⟨k, 1, none⟩ v b hk, h]

theorem new_any (s p c : Int) (w : World) :
    Calls Try.prog 32 #[.int .i64 s, .int .i64 p, .int .i64 c] w fun e w' => e = .returned (.pointer (some ⟨w.heap.size, 0, none⟩)) ∧ w' = w.alloc (.cells #[.int .u64 (wordN s p), .int .i64 c] 74) := by
  have H := Lib.hid (wordOf_any s p)
  generalize wordN s p = a at H ⊢
  go_enter Try.func32, Try.ntmps32
  go_wp2_with (go_at_call 39; refine (H.out _).mono ?_; rintro e w' ⟨rfl, rfl⟩)
  go_ret
  exact ⟨rfl, rfl⟩

theorem take4_any (a : Nat) (c : Int) (b : Nat) (w : World) (h : DiceAt a c b w) :
    Calls Try.prog 51 #[.pointer (some ⟨b, 0, none⟩), .func (.func 52) #[.int .u64 a] #[]] w fun e w' => e = .returned (.int .u64 (behindN a c)) ∧ w' = w.setCell ⟨b, 1, none⟩ (.int .i64 (wrap64 (c + 1))) := by
  have H := Lib.hid (wroll_any a c)
  generalize behindN a c = q at H ⊢
  have c1 : w.cell? ⟨b, 1, none⟩ = some (.int .i64 c) := by rw [Lib.cell_of_heap h]; rfl
  have f1 : w.frozen? ⟨b, 1, none⟩ = false := Lib.frozen_of_heap h 1
  clear h
  go_enter Try.func51, Try.ntmps51
  go_wp2_with (go_at_call 52; refine (H.out _).mono ?_; rintro e w' ⟨rfl, rfl⟩)
  go_ret
  exact ⟨rfl, rfl⟩

/-- what may not be rolled is not rolled -/
theorem next_low (p : Option Addr) (n : Int) (hn : n < 1) (w : World) :
    Calls Try.prog 48 #[.pointer p, .int .i64 n] w fun e w' => e = .returned (.tuple #[.int .i64 0, .bool false]) ∧ w = w' := by
  cases p
  all_goals
    go_enter Try.func48, Try.ntmps48
    go_wp2_with fail
    exact bodyPost_ret (v := .tuple #[.int .i64 0, .bool false]) (by simp [results, Try.results48, go_sem]) rfl ⟨rfl, rfl⟩
/-- nil dice roll nothing -/
theorem next_nil (n : Int) (w : World) :
    Calls Try.prog 48 #[.pointer none, .int .i64 n] w fun e w' => e = .returned (.tuple #[.int .i64 0, .bool false]) ∧ w = w' := by
  go_enter Try.func48, Try.ntmps48
  go_wp2_with fail
  exact bodyPost_ret (v := .tuple #[.int .i64 0, .bool false]) (by simp [results, Try.results48, go_sem]) rfl ⟨rfl, rfl⟩
/-- the next roll -/
theorem next_pos (a : Nat) (c n : Int) (b : Nat) (h1 : 1 ≤ n) (hn : n ≤ 9223372036854775807) (w : World) (h : DiceAt a c b w) :
    Calls Try.prog 48 #[.pointer (some ⟨b, 0, none⟩), .int .i64 n] w fun e w' => e = .returned (.tuple #[.int .i64 (belowN (behindN a c) n), .bool true]) ∧ w' = w.setCell ⟨b, 1, none⟩ (.int .i64 (wrap64 (c + 1))) := by
  have hmf : ∀ (fn : Fn) (first cap : Array Value) (w : World), (Instr.makeFunc fn first cap).run Try.prog w = .ok (.func fn first cap) w := fun _ _ _ _ => rfl
  have H := Lib.hid (take4_any a c b w h)
  have H2 := Lib.hid (below_any (behindN a c) n (behindN_lt a c) hn)
  have c0 : w.cell? ⟨b, 0, none⟩ = some (.int .u64 a) := by rw [Lib.cell_of_heap h]; rfl
  generalize belowN (behindN a c) n = r at H2 ⊢
  generalize behindN a c = q at H H2
  clear h
  go_enter Try.func48, Try.ntmps48
  go_wp2_with (first | (go_at_call 51; refine H.out.mono ?_; rintro e w' ⟨rfl, rfl⟩) | (go_at_call 50; refine (H2.out _).mono ?_; rintro e w' ⟨rfl, rfl⟩))
  exact bodyPost_ret (v := .tuple #[.int .i64 r, .bool true]) (by simp [results, Try.results48, go_sem]) rfl ⟨rfl, rfl⟩

theorem count_nil (w : World) :
    Calls Try.prog 25 #[.pointer none] w fun e w' => e = .returned (.int .i64 0) ∧ w = w' := by
  go_enter Try.func25, Try.ntmps25
  go_wp2_with fail
  go_ret
  exact ⟨rfl, rfl⟩
theorem count_any (a : Nat) (c : Int) (b : Nat) (w : World) (h : DiceAt a c b w) :
    Calls Try.prog 25 #[.pointer (some ⟨b, 0, none⟩)] w fun e w' => e = .returned (.int .i64 c) ∧ w = w' := by
  have c1 : w.cell? ⟨b, 1, none⟩ = some (.int .i64 c) := by rw [Lib.cell_of_heap h]; rfl
  clear h
  go_enter Try.func25, Try.ntmps25
  go_wp2_with fail
  go_ret
  exact ⟨rfl, rfl⟩

end Go.Proofs.Ytehdlpgopcoecaa
