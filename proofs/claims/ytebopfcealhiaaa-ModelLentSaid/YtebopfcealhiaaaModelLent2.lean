/- What may be read and written of the second copy. -/
import Derived.Test.YtebopfcealhiaaaModelLent1
namespace Go.Proofs.Ytebopfcealhiaaa
open Go.RowKit
set_option linter.unusedVariables false

theorem newM_slices {m : Mdl} {a b c d : Value} {base : Nat} {W : World} (h : NewM m a b c d base W) : (∃ p n k, a = .slice p n k) ∧ (∃ p n k, b = .slice p n k) ∧ (∃ p n k, c = .slice p n k) ∧ (∃ p n k, d = .slice p n k) := by
  obtain ⟨h1, ⟨g2, h2, _⟩, ⟨g3, h3, _⟩, h4⟩ := h
  obtain ⟨p1, _, e1, _⟩ := h1.form
  obtain ⟨p2, _, e2, _⟩ := h2.form
  obtain ⟨p3, _, e3, _⟩ := h3.form
  obtain ⟨p4, _, e4, _⟩ := h4.form
  exact ⟨⟨p1, _, _, e1⟩, ⟨p2, _, _, e2⟩, ⟨p3, _, _, e3⟩, ⟨p4, _, _, e4⟩⟩
theorem newM_forms {m : Mdl} {a b c d : Value} {base : Nat} {W : World} (h : NewM m a b c d base W) : ∃ p1 p2 p3 p4, a = .slice p1 m.nd m.nd ∧ b = .slice p2 m.np m.np ∧ c = .slice p3 m.nl m.nl ∧ d = .slice p4 m.ni m.ni := by
  obtain ⟨h1, ⟨g2, h2, _⟩, ⟨g3, h3, _⟩, h4⟩ := h
  obtain ⟨p1, _, e1, _⟩ := h1.form
  obtain ⟨p2, _, e2, _⟩ := h2.form
  obtain ⟨p3, _, e3, _⟩ := h3.form
  obtain ⟨p4, _, e4, _⟩ := h4.form
  exact ⟨p1, p2, p3, p4, e1, e2, e3, e4⟩
theorem box6_of {W : World} {B : Nat} {c0 c1 c2 c3 c4 c5 : Value} {T : TypeId} {fr : Nat × Nat} (h : W.heap[B]? = some (.cells #[c0, c1, c2, c3, c4, c5] T fr)) : Box6 c0 c1 c2 c3 c4 c5 B W := by
  refine ⟨lt_of_block h, ?_, ?_, ?_, ?_, ?_, ?_⟩ <;> (rw [Lib.cell_of_heap h]; rfl)
theorem Shp.form {C : Nat} {E : TypeId} {n top : Nat} {v : Value} {W : World} (h : Shp C E n v top W) : ∃ a, v = .slice a n n := by
  rcases h with ⟨rfl, rfl⟩ | ⟨h0, b, cs, h1, h2, _⟩
  · exact ⟨none, rfl⟩
  · exact ⟨_, h2⟩
/-- may be written: the C cells of row i -/
def May (C : Nat) (E : TypeId) (a : Option Addr) (i top : Nat) (W : World) (b : Nat) : Prop :=
  a = some ⟨b, 0, none⟩ ∧ top ≤ b ∧ (∃ cs, W.heap[b]? = some (.cells cs E (0, 0))) ∧ (∀ j, j < C → ∃ u, W.cell? ⟨b, i * C + j, none⟩ = some u) ∧ ∀ q, W.frozen? ⟨b, q, none⟩ = false
theorem Shp.may {C : Nat} (hC : 0 < C) {E : TypeId} {n top : Nat} {a : Option Addr} {W : World} (h : Shp C E n (.slice a n n) top W) {i : Nat} (hi : i < n) : ∃ b, May C E a i top W b := by
  obtain ⟨b, h1, h2, h3, _, h5⟩ := h.cell hi hC
  have e : a = some ⟨b, 0, none⟩ := by simpa using h2
  refine ⟨b, e, h1, h3, fun j hj => ?_, h5⟩
  obtain ⟨b2, _, k2, _, k4, _⟩ := h.cell hi hj
  have e2 : a = some ⟨b2, 0, none⟩ := by simpa using k2
  rw [e] at e2
  have e3 : b = b2 := by simpa using e2
  subst e3
  exact k4
/-- program j of the second copy -/
theorem Lent.prog {w : World} {m : Mdl} {mb : Array Value} {Ba Bb top : Nat} {va pa la ia vb lb ib : Value} {aP : Option Addr} {W : World} (h : Lent w m mb Ba Bb top va pa la ia vb (.slice aP m.np m.np) lb ib W) {j : Nat} (hj : j < m.np) :
    ∃ BP a, aP = some ⟨BP, 0, none⟩ ∧ W.cell? ⟨BP, j, none⟩ = some (.slice a (m.pl j) (m.pl j)) ∧ ∀ k, k < m.pl j → ∃ b, May 4 34 a k top W b := by
  obtain ⟨g, h1, h2⟩ := h.bp
  rcases h1 with ⟨e, _⟩ | ⟨h0, B, q1, q2, q3⟩
  · omega
  · obtain ⟨a, ea⟩ := (h2 j hj).form
    refine ⟨B, a, by simpa using q2, ?_, fun k hk => ?_⟩
    · rw [Lib.cell_of_heap q3, List.getElem?_toArray]
      have := rowCells_at (gV g) hj (show 0 < 1 by omega)
      rw [show j * 1 + 0 = j by omega] at this
      rw [this]
      show some (g j) = _
      rw [ea]
    · have := h2 j hj
      rw [ea] at this
      exact this.may (by omega) hk
/-- process j of the second copy -/
theorem Lent.proc {w : World} {m : Mdl} {mb : Array Value} {Ba Bb top : Nat} {va pa la ia vb pb ib : Value} {aL : Option Addr} {W : World} (h : Lent w m mb Ba Bb top va pa la ia vb pb (.slice aL m.nl m.nl) ib W) {j : Nat} (hj : j < m.nl) :
    ∃ BL a, aL = some ⟨BL, 0, none⟩ ∧ (∃ u, W.cell? ⟨BL, j * 2, none⟩ = some (.int .i64 u)) ∧ W.cell? ⟨BL, j * 2 + 1, none⟩ = some (.slice a (m.wl j) (m.wl j)) ∧ (∀ q, W.frozen? ⟨BL, q, none⟩ = false) ∧ (∀ k, k < m.wl j → ∃ b, May 1 3 a k top W b)
      ∧ ∀ u : Int, Lent w m mb Ba Bb top va pa la ia vb pb (.slice aL m.nl m.nl) ib (W.setCell ⟨BL, j * 2, none⟩ (.int .i64 u)) := by
  obtain ⟨lp, g, h1, h2⟩ := h.bl
  rcases h1 with ⟨e, _⟩ | ⟨h0, B, q1, q2, q3⟩
  · omega
  · obtain ⟨a, ea⟩ := (h2 j hj).form
    refine ⟨B, a, by simpa using q2, ⟨lp j, ?_⟩, ?_, fun q => Lib.frozen_of_heap q3 q, fun k hk => ?_, fun u => h.setLP hj q2 q3 h2 q1 u⟩
    · rw [Lib.cell_of_heap q3, List.getElem?_toArray]
      exact rowCells_at (gL lp g) hj (show 0 < 2 by omega)
    · rw [Lib.cell_of_heap q3, List.getElem?_toArray, rowCells_at (gL lp g) hj (show 1 < 2 by omega)]
      show some (g j) = _
      rw [ea]
    · have := h2 j hj
      rw [ea] at this
      exact this.may (by omega) hk
/-- one cell of a list is written -/
theorem Lent.put {w : World} {m : Mdl} {mb : Array Value} {Ba Bb top : Nat} {va pa la ia vb pb lb ib : Value} {W : World} (h : Lent w m mb Ba Bb top va pa la ia vb pb lb ib W) {C : Nat} {E : TypeId} {a : Option Addr} {i b : Nat} (hm : May C E a i top W b) (h1 : E ≠ 28) (h2 : E ≠ 38) (h3 : E ≠ 41) (q : Nat) (u : Value) : Lent w m mb Ba Bb top va pa la ia vb pb lb ib (W.setCell ⟨b, q, none⟩ u) := by
  obtain ⟨_, ht, ⟨cs, hc⟩, _⟩ := hm
  exact h.set hc ht h1 h2 h3 q u
theorem Lent.put4 {w : World} {m : Mdl} {mb : Array Value} {Ba Bb top : Nat} {va pa la ia vb pb lb ib : Value} {W : World} (h : Lent w m mb Ba Bb top va pa la ia vb pb lb ib W) {C : Nat} {a : Option Addr} {i b : Nat} (hm : May C 34 a i top W b) (q0 q1 q2 q3 : Nat) (u0 u1 u2 u3 : Value) :
    Lent w m mb Ba Bb top va pa la ia vb pb lb ib ((((W.setCell ⟨b, q0, none⟩ u0).setCell ⟨b, q1, none⟩ u1).setCell ⟨b, q2, none⟩ u2).setCell ⟨b, q3, none⟩ u3) := by
  obtain ⟨_, ht, ⟨cs, hc⟩, _⟩ := hm
  have c1 := Joins.block_setCell (i := q0) hc u0
  have c2 := Joins.block_setCell (i := q1) c1 u1
  have c3 := Joins.block_setCell (i := q2) c2 u2
  exact (((h.set hc ht (by decide) (by decide) (by decide) q0 u0).set c1 ht (by decide) (by decide) (by decide) q1 u1).set c2 ht (by decide) (by decide) (by decide) q2 u2).set c3 ht (by decide) (by decide) (by decide) q3 u3

end Go.Proofs.Ytebopfcealhiaaa
