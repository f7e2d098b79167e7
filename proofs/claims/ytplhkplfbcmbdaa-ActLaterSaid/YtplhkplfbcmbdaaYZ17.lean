/- The contracts of dice.New, take, Next, Count. The program's machine in memory: one block with the registers and all that is told of a run, its dice, its words and what was sent in rows of their own. The contracts of the program's must, place, calculated, roll. -/
import Derived.Lib.Builder
import Derived.Lib.SmallJoins
import Derived.Test.YtplhkplfbcmbdaaYZ2
import Derived.Test.YtplhkplfbcmbdaaYZ4
namespace Go.Proofs.Ytplhkplfbcmbdaa
open Go.RowKit

/-- dice with a word and a next count lie in block b -/
def DiceAt (a : Nat) (c : Int) (b : Nat) (w : World) : Prop := w.heap[b]? = some (.cells #[.int .u64 a, .int .i64 c] 134 (0, 0))
theorem diceAt_lt {a : Nat} {c : Int} {b : Nat} {w : World} (h : DiceAt a c b w) : b < w.heap.size := by
  unfold DiceAt at h
  rcases Nat.lt_or_ge b w.heap.size with k | k
  · exact k
  · rw [Array.getElem?_eq_none k] at h; cases h
theorem diceAt_below {a : Nat} {c : Int} {b : Nat} {w w2 : World} (h : DiceAt a c b w) (k : Below w.heap.size w w2) : DiceAt a c b w2 := by
  have := k.block b (diceAt_lt h)
  unfold DiceAt at *
  rw [this, h]
theorem diceAt_drew {a : Nat} {c : Int} {b : Nat} {w : World} (h : DiceAt a c b w) : DiceAt a c b w.drew := h
theorem diceAt_new (a : Nat) (c : Int) (w : World) : DiceAt a c w.heap.size (w.alloc (.cells #[.int .u64 a, .int .i64 c] 134)) :=
  heap_alloc_new w _
theorem diceAt_set {a : Nat} {c : Int} {b : Nat} {w : World} (h : DiceAt a c b w) (d : Int) : DiceAt a d b (w.setCell ⟨b, 1, none⟩ (.int .i64 d)) := by
  unfold DiceAt at *
  rw [Joins.block_setCell h]
  rfl
theorem diceAt_other {a : Nat} {c : Int} {b k : Nat} {w : World} (h : DiceAt a c b w) (hk : b ≠ k) (v : Value) : DiceAt a c b (w.setCell ⟨k, 1, none⟩ v) := by
  unfold DiceAt at *
  rw [Below.heap_setCell w ⟨k, 1, none⟩ v b hk, h]

theorem new_any (s p c : Int) (w : World) :
    Calls Try.prog 86 #[.int .i64 s, .int .i64 p, .int .i64 c] w fun e w' => e = .returned (.pointer (some ⟨w.heap.size, 0, none⟩)) ∧ w' = w.alloc (.cells #[.int .u64 (wordN s p), .int .i64 c] 134) := by
  have H := Lib.hid (wordOf_any s p)
  generalize wordN s p = a at H ⊢
  go_enter Try.func86, Try.ntmps86
  go_wp2_with (go_at_call 93; refine (H.out _).mono ?_; rintro e w' ⟨rfl, rfl⟩)
  go_ret
  exact ⟨rfl, rfl⟩

theorem take4_any (a : Nat) (c : Int) (b : Nat) (w : World) (h : DiceAt a c b w) :
    Calls Try.prog 106 #[.pointer (some ⟨b, 0, none⟩), .func (.func 107) #[.int .u64 a] #[]] w fun e w' => e = .returned (.int .u64 (behindN a c)) ∧ w' = w.setCell ⟨b, 1, none⟩ (.int .i64 (wrap64 (c + 1))) := by
  have H := Lib.hid (wroll_any a c)
  generalize behindN a c = q at H ⊢
  have c1 : w.cell? ⟨b, 1, none⟩ = some (.int .i64 c) := by rw [Lib.cell_of_heap h]; rfl
  have f1 : w.frozen? ⟨b, 1, none⟩ = false := Lib.frozen_of_heap h 1
  clear h
  go_enter Try.func106, Try.ntmps106
  go_wp2_with (go_at_call 107; refine (H.out _).mono ?_; rintro e w' ⟨rfl, rfl⟩)
  go_ret
  exact ⟨rfl, rfl⟩

/-- what may not be rolled is not rolled -/
theorem next_low (p : Option Addr) (n : Int) (hn : n < 1) (w : World) :
    Calls Try.prog 103 #[.pointer p, .int .i64 n] w fun e w' => e = .returned (.tuple #[.int .i64 0, .bool false]) ∧ w = w' := by
  cases p
  all_goals
    go_enter Try.func103, Try.ntmps103
    go_wp2_with fail
    exact bodyPost_ret (v := .tuple #[.int .i64 0, .bool false]) (by simp [results, Try.results103, go_sem]) rfl ⟨rfl, rfl⟩
/-- nil dice roll nothing -/
theorem next_nil (n : Int) (w : World) :
    Calls Try.prog 103 #[.pointer none, .int .i64 n] w fun e w' => e = .returned (.tuple #[.int .i64 0, .bool false]) ∧ w = w' := by
  go_enter Try.func103, Try.ntmps103
  go_wp2_with fail
  exact bodyPost_ret (v := .tuple #[.int .i64 0, .bool false]) (by simp [results, Try.results103, go_sem]) rfl ⟨rfl, rfl⟩
/-- the next roll -/
theorem next_pos (a : Nat) (c n : Int) (b : Nat) (h1 : 1 ≤ n) (hn : n ≤ 9223372036854775807) (w : World) (h : DiceAt a c b w) :
    Calls Try.prog 103 #[.pointer (some ⟨b, 0, none⟩), .int .i64 n] w fun e w' => e = .returned (.tuple #[.int .i64 (belowN (behindN a c) n), .bool true]) ∧ w' = w.setCell ⟨b, 1, none⟩ (.int .i64 (wrap64 (c + 1))) := by
  have hmf : ∀ (fn : Fn) (first cap : Array Value) (w : World), (Instr.makeFunc fn first cap).run Try.prog w = .ok (.func fn first cap) w := fun _ _ _ _ => rfl
  have H := Lib.hid (take4_any a c b w h)
  have H2 := Lib.hid (below_any (behindN a c) n (behindN_lt a c) hn)
  have c0 : w.cell? ⟨b, 0, none⟩ = some (.int .u64 a) := by rw [Lib.cell_of_heap h]; rfl
  generalize belowN (behindN a c) n = r at H2 ⊢
  generalize behindN a c = q at H H2
  clear h
  go_enter Try.func103, Try.ntmps103
  go_wp2_with (first | (go_at_call 106; refine H.out.mono ?_; rintro e w' ⟨rfl, rfl⟩) | (go_at_call 105; refine (H2.out _).mono ?_; rintro e w' ⟨rfl, rfl⟩))
  exact bodyPost_ret (v := .tuple #[.int .i64 r, .bool true]) (by simp [results, Try.results103, go_sem]) rfl ⟨rfl, rfl⟩

theorem count_nil (w : World) :
    Calls Try.prog 81 #[.pointer none] w fun e w' => e = .returned (.int .i64 0) ∧ w = w' := by
  go_enter Try.func81, Try.ntmps81
  go_wp2_with fail
  go_ret
  exact ⟨rfl, rfl⟩
theorem count_any (a : Nat) (c : Int) (b : Nat) (w : World) (h : DiceAt a c b w) :
    Calls Try.prog 81 #[.pointer (some ⟨b, 0, none⟩)] w fun e w' => e = .returned (.int .i64 c) ∧ w = w' := by
  have c1 : w.cell? ⟨b, 1, none⟩ = some (.int .i64 c) := by rw [Lib.cell_of_heap h]; rfl
  clear h
  go_enter Try.func81, Try.ntmps81
  go_wp2_with fail
  go_ret
  exact ⟨rfl, rfl⟩

end Go.Proofs.Ytplhkplfbcmbdaa
namespace Go.Proofs.Ytplhkplfbcmbdaa
open Go.RowKit
set_option linter.unusedVariables false
set_option maxRecDepth 100000

/-- the machine's cells -/
def vmC (g : Nat → Int) (vw : Value) (bd : Nat) (lps : Int) (vs : Value) (pc n f : Int) : Array Value :=
  #[.int .i64 (g 0), .int .i64 (g 1), .int .i64 (g 2), .int .i64 (g 3), .int .i64 (g 4), .int .i64 (g 5), .int .i64 (g 6), .int .i64 (g 7), vw, .pointer (some ⟨bd, 0, none⟩), .int .i64 lps, vs, .int .i64 pc, .int .i64 n, .int .i64 f]
theorem vmC_at (g : Nat → Int) (vw : Value) (bd : Nat) (lps : Int) (vs : Value) (pc n f : Int) {i : Nat} (hi : i < 8) : (vmC g vw bd lps vs pc n f)[i]? = some (.int .i64 (g i)) := by
  have : i = 0 ∨ i = 1 ∨ i = 2 ∨ i = 3 ∨ i = 4 ∨ i = 5 ∨ i = 6 ∨ i = 7 := by omega
  rcases this with rfl | rfl | rfl | rfl | rfl | rfl | rfl | rfl <;> rfl
theorem vmC_set (g : Nat → Int) (vw : Value) (bd : Nat) (lps : Int) (vs : Value) (pc n f : Int) {i : Nat} (hi : i < 8) (v : Int) : (vmC g vw bd lps vs pc n f).setIfInBounds i (.int .i64 v) = vmC (upd g i v) vw bd lps vs pc n f := by
  have : i = 0 ∨ i = 1 ∨ i = 2 ∨ i = 3 ∨ i = 4 ∨ i = 5 ∨ i = 6 ∨ i = 7 := by omega
  rcases this with rfl | rfl | rfl | rfl | rfl | rfl | rfl | rfl <;> rfl

/-- the machine lies in block P, its dice in block bd -/
structure VmAt (base P bd a : Nat) (lps : Int) (vw vs : Value) (r : Mch) (u : World) : Prop where
  lo : base ≤ P
  lo2 : base ≤ bd
  box : u.heap[P]? = some (.cells (vmC r.g vw bd lps vs (r.pc : Int) (r.n : Int) r.f) 125 (0, 0))
  dice : u.heap[bd]? = some (.cells #[.int .u64 a, .int .i64 r.dice] 134 (0, 0))
  w : u.ownsRow base 3 1 vw r.nw (rowCells 1 (gW r.w) r.nw)
  s : u.ownsRow base 86 3 vs r.ns (rowCells 3 (gS r.sn) r.ns)
section
variable {base P bd a : Nat} {lps : Int} {vw vs : Value} {r : Mch} {u : World}
theorem VmAt.ne (h : VmAt base P bd a lps vw vs r u) : P ≠ bd := by
  rintro rfl
  have := h.box.symm.trans h.dice
  simp only [Option.some.injEq, Obj.cells.injEq] at this
  exact absurd this.2.1 (by decide)
theorem VmAt.below (h : VmAt base P bd a lps vw vs r u) {u2 : World} (k : Below u.heap.size u u2) : VmAt base P bd a lps vw vs r u2 :=
  ⟨h.lo, h.lo2, (k.block _ (lt_of_block h.box)).trans h.box, (k.block _ (lt_of_block h.dice)).trans h.dice, own_below h.w k, own_below h.s k⟩
theorem VmAt.drew (h : VmAt base P bd a lps vw vs r u) : VmAt base P bd a lps vw vs r u.drew := h.below (bdrew u)
theorem VmAt.drewN (h : VmAt base P bd a lps vw vs r u) (n : Nat) : VmAt base P bd a lps vw vs r (u.drewN n) := h.below (below_drewN (Below.refl _ _) n)
theorem VmAt.reg (h : VmAt base P bd a lps vw vs r u) {i : Nat} (hi : i < 8) : u.cell? ⟨P, i, none⟩ = some (.int .i64 (r.g i)) := by
  rw [Lib.cell_of_heap h.box]; exact vmC_at r.g vw bd lps vs _ _ _ hi
theorem VmAt.fz (h : VmAt base P bd a lps vw vs r u) (i : Nat) : u.frozen? ⟨P, i, none⟩ = false := Lib.frozen_of_heap h.box i
theorem VmAt.cells (h : VmAt base P bd a lps vw vs r u) : u.cell? ⟨P, 8, none⟩ = some vw ∧ u.cell? ⟨P, 9, none⟩ = some (.pointer (some ⟨bd, 0, none⟩)) ∧ u.cell? ⟨P, 10, none⟩ = some (.int .i64 lps) ∧ u.cell? ⟨P, 11, none⟩ = some vs ∧ u.cell? ⟨P, 12, none⟩ = some (.int .i64 (r.pc : Int)) ∧ u.cell? ⟨P, 13, none⟩ = some (.int .i64 (r.n : Int)) ∧ u.cell? ⟨P, 14, none⟩ = some (.int .i64 r.f) ∧ ∀ q, u.frozen? ⟨P, q, none⟩ = false := by
  refine ⟨?_, ?_, ?_, ?_, ?_, ?_, ?_, fun q => Lib.frozen_of_heap h.box q⟩ <;> (rw [Lib.cell_of_heap h.box]; rfl)
theorem VmAt.form (h : VmAt base P bd a lps vw vs r u) : ∃ a c, vw = .slice a r.nw c := by
  rcases h.w.2 with ⟨rfl, h0⟩ | ⟨b, cap, cur, rfl, _⟩
  · exact ⟨none, 0, by rw [h0]⟩
  · exact ⟨_, _, rfl⟩
theorem VmAt.form2 (h : VmAt base P bd a lps vw vs r u) : ∃ a c, vs = .slice a r.ns c := by
  rcases h.s.2 with ⟨rfl, h0⟩ | ⟨b, cap, cur, rfl, _⟩
  · exact ⟨none, 0, by rw [h0]⟩
  · exact ⟨_, _, rfl⟩
/-- a store into the machine's block -/
theorem VmAt.putP (h : VmAt base P bd a lps vw vs r u) {o : Nat} {v : Value} {vs2 : Value} {r2 : Mch} (hn : r2.nw = r.nw) (hw : r2.w = r.w) (hd : r2.dice = r.dice)
    (hb : (vmC r.g vw bd lps vs (r.pc : Int) (r.n : Int) r.f).setIfInBounds o v = vmC r2.g vw bd lps vs2 (r2.pc : Int) (r2.n : Int) r2.f)
    (hs : u.ownsRow base 86 3 vs2 r2.ns (rowCells 3 (gS r2.sn) r2.ns)) : VmAt base P bd a lps vw vs2 r2 (u.setCell ⟨P, o, none⟩ v) := by
  have hne := h.ne
  refine ⟨h.lo, h.lo2, ?_, ?_, ?_, own_setCell hs (own_not hs h.box (by decide))⟩
  · have := Joins.block_setCell (i := o) h.box v
    rw [hb] at this
    exact this
  · rw [hd]; exact (Below.heap_setCell u ⟨P, o, none⟩ _ _ (by show bd ≠ P; omega)).trans h.dice
  · rw [hn, hw]; exact own_setCell h.w (own_not h.w h.box (by decide))
theorem VmAt.setReg (h : VmAt base P bd a lps vw vs r u) {i : Nat} (hi : i < 8) (v : Int) : VmAt base P bd a lps vw vs { r with g := upd r.g i v } (u.setCell ⟨P, i, none⟩ (.int .i64 v)) := h.putP rfl rfl rfl (vmC_set _ _ _ _ _ _ _ _ hi v) h.s
theorem VmAt.setPc (h : VmAt base P bd a lps vw vs r u) (p : Nat) : VmAt base P bd a lps vw vs { r with pc := p } (u.setCell ⟨P, 12, none⟩ (.int .i64 (p : Int))) := h.putP rfl rfl rfl rfl h.s
theorem VmAt.setN (h : VmAt base P bd a lps vw vs r u) (p : Nat) : VmAt base P bd a lps vw vs { r with n := p } (u.setCell ⟨P, 13, none⟩ (.int .i64 (p : Int))) := h.putP rfl rfl rfl rfl h.s
theorem VmAt.setF (h : VmAt base P bd a lps vw vs r u) (d : Int) : VmAt base P bd a lps vw vs { r with f := d } (u.setCell ⟨P, 14, none⟩ (.int .i64 d)) := h.putP rfl rfl rfl rfl h.s
theorem VmAt.setDice (h : VmAt base P bd a lps vw vs r u) (d : Int) : VmAt base P bd a lps vw vs { r with dice := d } (u.setCell ⟨bd, 1, none⟩ (.int .i64 d)) := by
  have hne := h.ne
  refine ⟨h.lo, h.lo2, (Below.heap_setCell u ⟨bd, 1, none⟩ _ _ hne).trans h.box, ?_, own_setCell h.w (own_not h.w h.dice (by decide)), own_setCell h.s (own_not h.s h.dice (by decide))⟩
  exact Joins.block_setCell (i := 1) h.dice _
/-- the words' row: where there are any -/
theorem VmAt.words (h : VmAt base P bd a lps vw vs r u) {k : Nat} (hk : k < r.nw) : ∃ bw cap, vw = .slice (some ⟨bw, 0, none⟩) r.nw cap ∧ bw ≠ P ∧ base ≤ bw ∧ r.nw ≤ cap ∧ cap ≤ maxLen ∧ u.cell? ⟨bw, k, none⟩ = some (.int .i64 (r.w k)) ∧ (∀ q, u.frozen? ⟨bw, q, none⟩ = false) ∧
    ∀ v, VmAt base P bd a lps vw vs { r with w := upd r.w k v } (u.setCell ⟨bw, k, none⟩ (.int .i64 v)) := by
  have hw := h.w
  have hwP := own_not h.w h.box (by decide)
  have hwD := own_not h.w h.dice (by decide)
  rcases hw.2 with ⟨rfl, h0⟩ | ⟨bw, cap, cur, rfl, l1, l2, l3, l4, l5, l6⟩
  · omega
  have n2 : bw ≠ P := by rintro rfl; exact hwP rfl
  have n3 : bw ≠ bd := by rintro rfl; exact hwD rfl
  have at_ : ∀ j, j < r.nw → cur[j]? = some (.int .i64 (r.w j)) := fun j hj => by
    have e := rowCells_at (gW r.w) (C := 1) (n := r.nw) (i := j) (j := 0) hj (by omega)
    rw [← l6, List.getElem?_take, if_pos (by omega)] at e
    rw [← Array.getElem?_toList]
    simpa [gW] using e
  refine ⟨bw, cap, rfl, n2, l1, l3, l4, ?_, fun q => Lib.frozen_of_heap l2 q, fun v => ?_⟩
  · rw [Lib.cell_of_heap l2]; exact at_ k hk
  refine ⟨h.lo, h.lo2, (Below.heap_setCell u ⟨bw, k, none⟩ _ _ (by show P ≠ bw; omega)).trans h.box, (Below.heap_setCell u ⟨bw, k, none⟩ _ _ (by show bd ≠ bw; omega)).trans h.dice, ?_, own_setCell h.s (own_not h.s l2 (by decide))⟩
  have hh := Joins.block_setCell (i := k) l2 (.int .i64 v)
  refine ⟨by rw [rowCells_len], .inr ⟨bw, cap, _, rfl, l1, hh, l3, l4, by simpa using l5, ?_⟩⟩
  apply List.ext_getElem?
  intro j
  rw [List.getElem?_take]
  by_cases hj : j < r.nw * 1
  · rw [if_pos hj]
    have e := rowCells_at (gW (upd r.w k v)) (C := 1) (n := r.nw) (i := j) (j := 0) (by omega) (by omega)
    rw [show j * 1 + 0 = j by omega] at e
    rw [show rowCells 1 (gW ({ r with w := upd r.w k v } : Mch).w) ({ r with w := upd r.w k v } : Mch).nw = rowCells 1 (gW (upd r.w k v)) r.nw from rfl, e, Array.getElem?_toList, Array.getElem?_setIfInBounds]
    have hsz : j < cur.size := by rw [l5]; omega
    by_cases e2 : k = j
    · subst e2
      simp [upd, gW, hsz]
    · rw [if_neg e2, at_ j (by omega)]
      simp [upd, gW, show ¬ j = k by omega]
  · rw [if_neg hj, List.getElem?_eq_none (by rw [rowCells_len]; show _ ≤ _; exact Nat.le_of_not_lt hj)]
/-- one was sent -/
theorem VmAt.sent (h : VmAt base P bd a lps vw vs r u) (x : Snt) {w4 : World} {v' : Value}
    (hown : w4.ownsRow base 86 3 v' (r.ns + 1) (rowCells 3 (gS r.sn) r.ns ++ [.int .i64 x.dst, .int .i64 x.dl, .int .i64 x.pay])) (hg : u.grownBy w4 vs.ownBlock) :
    w4.heap[P]? = some (.cells (vmC r.g vw bd lps vs (r.pc : Int) (r.n : Int) r.f) 125 (0, 0)) ∧
    VmAt base P bd a lps vw v' { r with ns := r.ns + 1, sn := fun i => if i = r.ns then x else r.sn i } (w4.setCell ⟨P, 11, none⟩ v') := by
  have e1 : rowCells 3 (gS r.sn) r.ns = rowCells 3 (gS fun i => if i = r.ns then x else r.sn i) r.ns := by
    unfold rowCells
    refine List.map_congr_left fun k hk => ?_
    rw [List.mem_range] at hk
    have : k / 3 ≠ r.ns := by have := (Nat.div_lt_iff_lt_mul (show 0 < 3 by omega)).2 hk; omega
    simp only [gS, if_neg this]
  rw [e1, rowCells_succ (C := 3) (by omega) (gS fun i => if i = r.ns then x else r.sn i) r.ns [.int .i64 x.dst, .int .i64 x.dl, .int .i64 x.pay] rfl (fun j hj => by
    have : j = 0 ∨ j = 1 ∨ j = 2 := by omega
    rcases this with rfl | rfl | rfl <;> simp [gS])] at hown
  have hp := grown_keep7 h.s hg h.box (by decide)
  have hb := grown_keep7 h.s hg h.dice (by decide)
  have hne := h.ne
  refine ⟨hp, h.lo, h.lo2, ?_, (Below.heap_setCell w4 ⟨P, 11, none⟩ _ _ (by show bd ≠ P; omega)).trans hb, own_setCell (grown_own h.s hg h.w (by decide)) (own_not h.w h.box (by decide)), own_setCell hown (own_not hown hp (by decide))⟩
  exact Joins.block_setCell (i := 11) hp v'
end

end Go.Proofs.Ytplhkplfbcmbdaa
namespace Go.Proofs.Ytplhkplfbcmbdaa
open Go.RowKit
set_option linter.unusedVariables false
set_option maxRecDepth 100000

theorem must_ok (k : Int) (w : World) : Calls Try.prog 94 #[.bool true, .int .i64 k] w fun e w' => e = .returned (.tuple #[]) ∧ w' = w := by
  go_enter Try.func94, Try.ntmps94
  go_wp2_with fail
  go_end0
  exact ⟨rfl, rfl⟩
theorem must_bad (k : Int) (w : World) : Calls Try.prog 94 #[.bool false, .int .i64 k] w fun e w' => e = .panicked [{ v := .iface 123 (.int .i64 k), recovered := false }] ∧ w' = w := by
  go_enter Try.func94, Try.ntmps94
  go_wp2_with fail
  exact ⟨rfl, rfl, rfl⟩

section
variable {base P bd a : Nat} {lps : Int} {vw vs : Value} {r : Mch}
/-- a word's place -/
theorem place_ok (n : Int) (h0 : 0 ≤ n) (h1 : n < (r.nw : Int)) (w : World) (hr : VmAt base P bd a lps vw vs r w) :
    Calls Try.prog 98 #[.pointer (some ⟨P, 0, none⟩), .int .i64 n] w fun e w' => e = .returned (.int .i64 n) ∧ w' = w := by
  have HM := Lib.hid (must_ok 3)
  obtain ⟨aw, cw, rfl⟩ := hr.form
  obtain ⟨p8, p9, p10, p11, p12, p13, p14, pf⟩ := hr.cells
  have d0 : decide ((0 : Int) ≤ n) = true := by simp [h0]
  have d1 : decide (n < (r.nw : Int)) = true := by simp [h1]
  clear hr h0 h1
  go_enter Try.func98, Try.ntmps98
  go_wp2_with (go_at_call 94; refine (HM.out _).mono ?_; rintro e w1 ⟨rfl, rfl⟩)
  go_ret
  exact ⟨rfl, rfl⟩
theorem place_low (n : Int) (h0 : n < 0) (w : World) (hr : VmAt base P bd a lps vw vs r w) :
    Calls Try.prog 98 #[.pointer (some ⟨P, 0, none⟩), .int .i64 n] w fun e w' => e = .panicked [{ v := .iface 123 (.int .i64 3), recovered := false }] ∧ w' = w := by
  have HM := Lib.hid (must_bad 3)
  have d0 : decide ((0 : Int) ≤ n) = false := by rw [decide_eq_false_iff_not]; omega
  clear hr h0
  go_enter Try.func98, Try.ntmps98
  go_wp2_with (go_at_call 94; refine (HM.out _).mono ?_; rintro e w1 ⟨rfl, rfl⟩)
  exact ⟨rfl, rfl, rfl⟩
theorem place_high (n : Int) (h0 : 0 ≤ n) (h1 : (r.nw : Int) ≤ n) (w : World) (hr : VmAt base P bd a lps vw vs r w) :
    Calls Try.prog 98 #[.pointer (some ⟨P, 0, none⟩), .int .i64 n] w fun e w' => e = .panicked [{ v := .iface 123 (.int .i64 3), recovered := false }] ∧ w' = w := by
  have HM := Lib.hid (must_bad 3)
  obtain ⟨aw, cw, rfl⟩ := hr.form
  obtain ⟨p8, p9, p10, p11, p12, p13, p14, pf⟩ := hr.cells
  have d0 : decide ((0 : Int) ≤ n) = true := by simp [h0]
  have d1 : decide (n < (r.nw : Int)) = false := by rw [decide_eq_false_iff_not]; omega
  clear hr h0 h1
  go_enter Try.func98, Try.ntmps98
  go_wp2_with (go_at_call 94; refine (HM.out _).mono ?_; rintro e w1 ⟨rfl, rfl⟩)
  exact ⟨rfl, rfl, rfl⟩

/-- a roll -/
theorem roll7_low (n : Int) (hn : n < 1) (w : World) (hr : VmAt base P bd a lps vw vs r w) :
    Calls Try.prog 96 #[.pointer (some ⟨P, 0, none⟩), .int .i64 n] w fun e w' => e = .panicked [{ v := .iface 123 (.int .i64 4), recovered := false }] ∧ w' = w := by
  have HM := Lib.hid (must_bad 4)
  have HN := Lib.hid (next_low (some ⟨bd, 0, none⟩) n hn)
  obtain ⟨p8, p9, p10, p11, p12, p13, p14, pf⟩ := hr.cells
  clear hr hn
  go_enter Try.func96, Try.ntmps96
  go_wp2_with (first | (go_at_call 103; refine (HN.out _).mono ?_; rintro e w1 ⟨rfl, rfl⟩) | (go_at_call 94; refine (HM.out _).mono ?_; rintro e w1 ⟨rfl, rfl⟩))
  exact ⟨rfl, rfl, rfl⟩
theorem roll7_pos (n : Int) (h1 : 1 ≤ n) (hn : n ≤ 9223372036854775807) (w : World) (hr : VmAt base P bd a lps vw vs r w) :
    Calls Try.prog 96 #[.pointer (some ⟨P, 0, none⟩), .int .i64 n] w fun e w' => e = .returned (.int .i64 (belowN (behindN a r.dice) n)) ∧ w' = w.setCell ⟨bd, 1, none⟩ (.int .i64 (wrap64 (r.dice + 1))) := by
  have HM := Lib.hid (must_ok 4)
  have HN := Lib.hid (next_pos a r.dice n bd h1 hn w hr.dice)
  obtain ⟨p8, p9, p10, p11, p12, p13, p14, pf⟩ := hr.cells
  generalize belowN (behindN a r.dice) n = q at *
  clear hr h1 hn
  go_enter Try.func96, Try.ntmps96
  go_wp2_with (first | (go_at_call 103; refine HN.out.mono ?_; rintro e w1 ⟨rfl, rfl⟩) | (go_at_call 94; refine (HM.out _).mono ?_; rintro e w1 ⟨rfl, rfl⟩))
  go_ret
  exact ⟨rfl, rfl⟩
end

/-- what computes -/
theorem calc_ok (op b c : Int) (hb : r64v b) (h3 : 3 ≤ op) (h8 : op ≤ 8) (hf : twoF op c = 0) (w : World) :
    Calls Try.prog 95 #[.int .i64 op, .int .i64 b, .int .i64 c] w fun e w' => e = .returned (.int .i64 (twoV op b c)) ∧ w' = w := by
  have HM := Lib.hid (must_ok 2)
  have hop : op = 3 ∨ op = 4 ∨ op = 5 ∨ op = 6 ∨ op = 7 ∨ op = 8 := by omega
  clear h3 h8
  rcases hop with rfl | rfl | rfl | rfl | rfl | rfl
  · show Calls _ _ _ _ fun e w' => e = .returned (.int .i64 (wrap64 (b + c))) ∧ _
    clear hf
    go_enter Try.func95, Try.ntmps95
    go_wp2_with fail
    go_ret
    exact ⟨rfl, rfl⟩
  · show Calls _ _ _ _ fun e w' => e = .returned (.int .i64 (wrap64 (b - c))) ∧ _
    clear hf
    go_enter Try.func95, Try.ntmps95
    go_wp2_with fail
    go_ret
    exact ⟨rfl, rfl⟩
  · show Calls _ _ _ _ fun e w' => e = .returned (.int .i64 (wrap64 (b * c))) ∧ _
    clear hf
    go_enter Try.func95, Try.ntmps95
    go_wp2_with fail
    go_ret
    exact ⟨rfl, rfl⟩
  · have h0 : c ≠ 0 := by rintro rfl; exact absurd hf (by decide)
    have d0 : (c != 0) = true := by simp [h0]
    have e0 : (c == 0) = false := by simp [h0]
    show Calls _ _ _ _ fun e w' => e = .returned (.int .i64 (wrap64 (b.tdiv c))) ∧ _
    clear hf
    go_enter Try.func95, Try.ntmps95
    go_wp2_with (go_at_call 94; refine (HM.out _).mono ?_; rintro e w1 ⟨rfl, rfl⟩)
    go_ret
    exact ⟨rfl, rfl⟩
  · have h0 : c ≠ 0 := by rintro rfl; exact absurd hf (by decide)
    have d0 : (c != 0) = true := by simp [h0]
    have e0 : (c == 0) = false := by simp [h0]
    have e1 : twoV 7 b c = b.tmod c := by
      show wrap64 (b.tmod c) = _
      have h2 : -9223372036854775808 ≤ b.tmod c ∧ b.tmod c ≤ 9223372036854775807 := by
        obtain ⟨l, u⟩ := hb
        have : (b.tmod c).natAbs ≤ b.natAbs := by rw [Int.natAbs_tmod]; exact Nat.mod_le _ _
        have h2 : b ≤ 0 → b.tmod c ≤ 0 := fun hb => by
          have := Int.tmod_nonneg c (show 0 ≤ -b by omega)
          rw [Int.neg_tmod] at this
          omega
        omega
      unfold wrap64; omega
    rw [e1]
    clear hf e1
    go_enter Try.func95, Try.ntmps95
    go_wp2_with (go_at_call 94; refine (HM.out _).mono ?_; rintro e w1 ⟨rfl, rfl⟩)
    go_ret
    exact ⟨rfl, rfl⟩
  · by_cases h0 : b < c
    · have d0 : decide (b < c) = true := by simp [h0]
      have e2 : twoV 8 b c = 1 := by unfold twoV; simp [h0]
      rw [e2]
      clear e2 hf
      go_enter Try.func95, Try.ntmps95
      go_wp2_with fail
      go_ret
      exact ⟨rfl, rfl⟩
    · have d0 : decide (b < c) = false := by simp [h0]
      have e2 : twoV 8 b c = 0 := by unfold twoV; simp [h0]
      rw [e2]
      clear e2 hf
      go_enter Try.func95, Try.ntmps95
      go_wp2_with fail
      go_ret
      exact ⟨rfl, rfl⟩
theorem calc_bad (op b c : Int) (hf : twoF op c ≠ 0) (w : World) :
    Calls Try.prog 95 #[.int .i64 op, .int .i64 b, .int .i64 c] w fun e w' => e = .panicked [{ v := .iface 123 (.int .i64 2), recovered := false }] ∧ w' = w := by
  have HM := Lib.hid (must_bad 2)
  have h : (op = 6 ∨ op = 7) ∧ c = 0 := by
    refine Classical.byContradiction fun h => ?_
    unfold twoF at hf
    rw [if_neg h] at hf
    exact hf rfl
  clear hf
  obtain ⟨rfl | rfl, rfl⟩ := h
  all_goals
    go_enter Try.func95, Try.ntmps95
    go_wp2_with (go_at_call 94; refine (HM.out _).mono ?_; rintro e w1 ⟨rfl, rfl⟩)
    exact ⟨rfl, rfl, rfl⟩

end Go.Proofs.Ytplhkplfbcmbdaa
