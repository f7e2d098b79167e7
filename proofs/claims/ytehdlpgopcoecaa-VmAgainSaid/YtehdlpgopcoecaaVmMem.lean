/- The document's machine in memory: registers in a block of their own, words, what was sent, and the struct that holds them. -/
import Derived.Test.YtehdlpgopcoecaaVmMath
import Derived.Test.YtehdlpgopcoecaaOwnRows
import Derived.Deep.RegionHeld3
namespace Go.Proofs.Ytehdlpgopcoecaa
open Go.RowKit
set_option linter.unusedVariables false
set_option maxRecDepth 100000

def regs (g : Nat → Int) : Array Value := #[.int .i64 (g 0), .int .i64 (g 1), .int .i64 (g 2), .int .i64 (g 3), .int .i64 (g 4), .int .i64 (g 5), .int .i64 (g 6), .int .i64 (g 7)]
theorem regs_at (g : Nat → Int) {i : Nat} (hi : i < 8) : (regs g)[i]? = some (.int .i64 (g i)) := by
  have : i = 0 ∨ i = 1 ∨ i = 2 ∨ i = 3 ∨ i = 4 ∨ i = 5 ∨ i = 6 ∨ i = 7 := by omega
  rcases this with rfl | rfl | rfl | rfl | rfl | rfl | rfl | rfl <;> rfl
theorem regs_set (g : Nat → Int) {i : Nat} (hi : i < 8) (v : Int) : (regs g).setIfInBounds i (.int .i64 v) = regs (upd g i v) := by
  have : i = 0 ∨ i = 1 ∨ i = 2 ∨ i = 3 ∨ i = 4 ∨ i = 5 ∨ i = 6 ∨ i = 7 := by omega
  rcases this with rfl | rfl | rfl | rfl | rfl | rfl | rfl | rfl <;> rfl
/-- the cells of what was sent -/
def gS (f : Nat → Snt) : Nat → Nat → Value := fun i j => match j with
  | 0 => .int .i64 (f i).dst
  | 1 => .int .i64 (f i).dl
  | _ => .int .i64 (f i).pay

/-- the machine lies in block P, its registers in block bg, its words and what it sent in rows of their own -/
structure RunAt (base P bg : Nat) (vw vs : Value) (r : Mch) (u : World) : Prop where
  lo : base ≤ P
  lo2 : base ≤ bg
  regs : u.heap[bg]? = some (.cells (regs r.g) 3 (0, 0))
  box : u.heap[P]? = some (.cells #[.slice (some ⟨bg, 0, none⟩) 8 8, vw, vs, .int .i64 r.dice, .int .i64 (r.pc : Int), .int .i64 (r.n : Int), .int .i64 r.f] 38 (0, 0))
  w : u.ownsRow base 3 1 vw r.nw (rowCells 1 (gW r.w) r.nw)
  wne : vw.ownBlock ≠ some bg
  s : u.ownsRow base 42 3 vs r.ns (rowCells 3 (gS r.sn) r.ns)
section
variable {base P bg : Nat} {vw vs : Value} {r : Mch} {u : World}
theorem RunAt.ne (h : RunAt base P bg vw vs r u) : P ≠ bg := by
  rintro rfl
  have := h.regs.symm.trans h.box
  simp only [Option.some.injEq, Obj.cells.injEq] at this
  exact absurd this.2.1 (by decide)
theorem RunAt.below (h : RunAt base P bg vw vs r u) {u2 : World} (k : Below u.heap.size u u2) : RunAt base P bg vw vs r u2 :=
  ⟨h.lo, h.lo2, (k.block _ (lt_of_block h.regs)).trans h.regs, (k.block _ (lt_of_block h.box)).trans h.box, own_below h.w k, h.wne, own_below h.s k⟩
theorem RunAt.drew (h : RunAt base P bg vw vs r u) : RunAt base P bg vw vs r u.drew := h.below (bdrew u)
theorem RunAt.drewN (h : RunAt base P bg vw vs r u) (n : Nat) : RunAt base P bg vw vs r (u.drewN n) := h.below (below_drewN (Below.refl _ _) n)
theorem RunAt.reg (h : RunAt base P bg vw vs r u) {i : Nat} (hi : i < 8) : u.cell? ⟨bg, i, none⟩ = some (.int .i64 (r.g i)) := by
  rw [Lib.cell_of_heap h.regs]; exact regs_at r.g hi
theorem RunAt.regF (h : RunAt base P bg vw vs r u) (i : Nat) : u.frozen? ⟨bg, i, none⟩ = false := Lib.frozen_of_heap h.regs i
theorem RunAt.cells (h : RunAt base P bg vw vs r u) : u.cell? ⟨P, 0, none⟩ = some (.slice (some ⟨bg, 0, none⟩) 8 8) ∧ u.cell? ⟨P, 1, none⟩ = some vw ∧ u.cell? ⟨P, 2, none⟩ = some vs ∧ u.cell? ⟨P, 3, none⟩ = some (.int .i64 r.dice) ∧ u.cell? ⟨P, 4, none⟩ = some (.int .i64 (r.pc : Int)) ∧ u.cell? ⟨P, 5, none⟩ = some (.int .i64 (r.n : Int)) ∧ u.cell? ⟨P, 6, none⟩ = some (.int .i64 r.f) ∧ ∀ q, u.frozen? ⟨P, q, none⟩ = false := by
  refine ⟨?_, ?_, ?_, ?_, ?_, ?_, ?_, fun q => Lib.frozen_of_heap h.box q⟩ <;> (rw [Lib.cell_of_heap h.box]; rfl)
theorem RunAt.form (h : RunAt base P bg vw vs r u) : ∃ a c, vw = .slice a r.nw c := by
  rcases h.w.2 with ⟨rfl, h0⟩ | ⟨b, cap, cur, rfl, _⟩
  · exact ⟨none, 0, by rw [h0]⟩
  · exact ⟨_, _, rfl⟩
theorem RunAt.form2 (h : RunAt base P bg vw vs r u) : ∃ a c, vs = .slice a r.ns c := by
  rcases h.s.2 with ⟨rfl, h0⟩ | ⟨b, cap, cur, rfl, _⟩
  · exact ⟨none, 0, by rw [h0]⟩
  · exact ⟨_, _, rfl⟩
/-- a row apart from a block of another type -/
theorem own_not {w : World} {b : Nat} {E t : TypeId} {C n : Nat} {v : Value} {xs : List Value} {k : Nat} {c : Array Value} {f : Nat × Nat} (h : w.ownsRow b E C v n xs) (hk : w.heap[k]? = some (.cells c t f)) (hne : t ≠ E) : v.ownBlock ≠ some k := by
  intro e
  rcases h.2 with ⟨rfl, _⟩ | ⟨g, cap, cur, rfl, _, r3, _⟩
  · simp [Value.ownBlock] at e
  · simp only [Value.ownBlock, Option.some.injEq] at e
    subst e
    rw [hk] at r3
    simp only [Option.some.injEq, Obj.cells.injEq] at r3
    exact hne r3.2.1
theorem own_setCell {w : World} {b : Nat} {E : TypeId} {C n : Nat} {v : Value} {xs : List Value} {k o : Nat} {x : Value} (h : w.ownsRow b E C v n xs) (hne : v.ownBlock ≠ some k) : (w.setCell ⟨k, o, none⟩ x).ownsRow b E C v n xs :=
  own_kept h fun g e => Below.heap_setCell w ⟨k, o, none⟩ x g (by rintro rfl; exact hne e)
theorem RunAt.setReg (h : RunAt base P bg vw vs r u) {i : Nat} (hi : i < 8) (v : Int) : RunAt base P bg vw vs { r with g := upd r.g i v } (u.setCell ⟨bg, i, none⟩ (.int .i64 v)) := by
  have hne := h.ne
  refine ⟨h.lo, h.lo2, ?_, (Below.heap_setCell u ⟨bg, i, none⟩ _ _ hne).trans h.box, own_setCell h.w h.wne, h.wne, own_setCell h.s (own_not h.s h.regs (by decide))⟩
  have := Joins.block_setCell (i := i) h.regs (.int .i64 v)
  rw [regs_set r.g hi] at this
  exact this
theorem RunAt.putP (h : RunAt base P bg vw vs r u) {o : Nat} {v : Value} {vs2 : Value} {r2 : Mch} (hg : r2.g = r.g) (hn : r2.nw = r.nw) (hw : r2.w = r.w)
    (hb : (#[.slice (some ⟨bg, 0, none⟩) 8 8, vw, vs, .int .i64 r.dice, .int .i64 (r.pc : Int), .int .i64 (r.n : Int), .int .i64 r.f] : Array Value).setIfInBounds o v = #[.slice (some ⟨bg, 0, none⟩) 8 8, vw, vs2, .int .i64 r2.dice, .int .i64 (r2.pc : Int), .int .i64 (r2.n : Int), .int .i64 r2.f])
    (hs : u.ownsRow base 42 3 vs2 r2.ns (rowCells 3 (gS r2.sn) r2.ns)) : RunAt base P bg vw vs2 r2 (u.setCell ⟨P, o, none⟩ v) := by
  have hne := h.ne
  refine ⟨h.lo, h.lo2, ?_, ?_, ?_, h.wne, own_setCell hs (own_not hs h.box (by decide))⟩
  · rw [hg]; exact (Below.heap_setCell u ⟨P, o, none⟩ _ _ (by show bg ≠ P; omega)).trans h.regs
  · have := Joins.block_setCell (i := o) h.box v
    rw [hb] at this
    exact this
  · rw [hn, hw]; exact own_setCell h.w (own_not h.w h.box (by decide))
theorem RunAt.setPc (h : RunAt base P bg vw vs r u) (p : Nat) : RunAt base P bg vw vs { r with pc := p } (u.setCell ⟨P, 4, none⟩ (.int .i64 (p : Int))) := h.putP rfl rfl rfl rfl h.s
theorem RunAt.setN (h : RunAt base P bg vw vs r u) (p : Nat) : RunAt base P bg vw vs { r with n := p } (u.setCell ⟨P, 5, none⟩ (.int .i64 (p : Int))) := h.putP rfl rfl rfl rfl h.s
theorem RunAt.setDice (h : RunAt base P bg vw vs r u) (d : Int) : RunAt base P bg vw vs { r with dice := d } (u.setCell ⟨P, 3, none⟩ (.int .i64 d)) := h.putP rfl rfl rfl rfl h.s
theorem RunAt.setF (h : RunAt base P bg vw vs r u) (d : Int) : RunAt base P bg vw vs { r with f := d } (u.setCell ⟨P, 6, none⟩ (.int .i64 d)) := h.putP rfl rfl rfl rfl h.s
/-- the words' row: where there are any -/
theorem RunAt.words (h : RunAt base P bg vw vs r u) {k : Nat} (hk : k < r.nw) : ∃ bw cap, vw = .slice (some ⟨bw, 0, none⟩) r.nw cap ∧ bw ≠ bg ∧ bw ≠ P ∧ base ≤ bw ∧ r.nw ≤ cap ∧ cap ≤ maxLen ∧ u.cell? ⟨bw, k, none⟩ = some (.int .i64 (r.w k)) ∧ (∀ q, u.frozen? ⟨bw, q, none⟩ = false) ∧
    ∀ v, RunAt base P bg vw vs { r with w := upd r.w k v } (u.setCell ⟨bw, k, none⟩ (.int .i64 v)) := by
  have hw := h.w
  have hwne := h.wne
  have hwP := own_not h.w h.box (by decide)
  rcases hw.2 with ⟨rfl, h0⟩ | ⟨bw, cap, cur, rfl, l1, l2, l3, l4, l5, l6⟩
  · omega
  have n1 : bw ≠ bg := by rintro rfl; exact hwne rfl
  have n2 : bw ≠ P := by rintro rfl; exact hwP rfl
  have at_ : ∀ j, j < r.nw → cur[j]? = some (.int .i64 (r.w j)) := fun j hj => by
    have e := rowCells_at (gW r.w) (C := 1) (n := r.nw) (i := j) (j := 0) hj (by omega)
    rw [← l6, List.getElem?_take, if_pos (by omega)] at e
    rw [← Array.getElem?_toList]
    simpa [gW] using e
  refine ⟨bw, cap, rfl, n1, n2, l1, l3, l4, ?_, fun q => Lib.frozen_of_heap l2 q, fun v => ?_⟩
  · rw [Lib.cell_of_heap l2]; exact at_ k hk
  refine ⟨h.lo, h.lo2, (Below.heap_setCell u ⟨bw, k, none⟩ _ _ (by show bg ≠ bw; omega)).trans h.regs, (Below.heap_setCell u ⟨bw, k, none⟩ _ _ (by show P ≠ bw; omega)).trans h.box, ?_, hwne, own_setCell h.s (own_not h.s l2 (by decide))⟩
  have hh := Joins.block_setCell (i := k) l2 (.int .i64 v)
  refine ⟨by rw [rowCells_len], .inr ⟨bw, cap, _, rfl, l1, hh, l3, l4, by simpa using l5, ?_⟩⟩
  apply List.ext_getElem?
  intro j
  rw [List.getElem?_take]
  by_cases hj : j < r.nw * 1
  · rw [if_pos hj]
    have e := rowCells_at (gW (upd r.w k v)) (C := 1) (n := r.nw) (i := j) (j := 0) (by omega) (by omega)
    rw [show j * 1 + 0 = j by omega] at e
    rw [show rowCells 1 (gW ({ r with w := upd r.w k v } : Mch).w) ({ r with w := upd r.w k v } : Mch).nw = rowCells 1 (gW (upd r.w k v)) r.nw from rfl, e, Array.getElem?_toList, Array.getElem?_setIfInBounds]
    have hsz : j < cur.size := by rw [l5]; omega
    by_cases e2 : k = j
    · subst e2
      simp [upd, gW, hsz]
    · rw [if_neg e2, at_ j (by omega)]
      simp [upd, gW, show ¬ j = k by omega]
  · rw [if_neg hj, List.getElem?_eq_none (by rw [rowCells_len]; show _ ≤ _; exact Nat.le_of_not_lt hj)]
end

end Go.Proofs.Ytehdlpgopcoecaa
