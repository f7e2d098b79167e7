/- Two copies, of which one is written into: what stays. -/
import Derived.Test.YtebopfcealhiaaaModelLaws3
namespace Go.Proofs.Ytebopfcealhiaaa
open Go.RowKit
set_option linter.unusedVariables false

/-- a slice in a block below top, known whole -/
def FreshU (C : Nat) (E : TypeId) (g : Nat → Nat → Value) (n : Nat) (v : Value) (top : Nat) (W : World) : Prop :=
  (n = 0 ∧ v = .slice none 0 0) ∨ (0 < n ∧ ∃ b, b < top ∧ v = .slice (some ⟨b, 0, none⟩) n n ∧ W.heap[b]? = some (.cells (rowCells C g n).toArray E (0, 0)))
theorem Fresh.u {C : Nat} {E : TypeId} {g : Nat → Nat → Value} {n base : Nat} {v : Value} {W : World} (h : Fresh C E g n v base W) : FreshU C E g n v W.heap.size W := by
  rcases h with h | ⟨h0, b, h1, h2, h3⟩
  · exact .inl h
  · exact .inr ⟨h0, b, lt_of_block h3, h2, h3⟩
theorem FreshU.fresh {C : Nat} {E : TypeId} {g : Nat → Nat → Value} {n top : Nat} {v : Value} {W : World} (h : FreshU C E g n v top W) : Fresh C E g n v 0 W := by
  rcases h with h | ⟨h0, b, h1, h2, h3⟩
  · exact .inl h
  · exact .inr ⟨h0, b, Nat.zero_le _, h2, h3⟩
theorem FreshU.below {C : Nat} {E : TypeId} {g : Nat → Nat → Value} {n top : Nat} {v : Value} {W W2 : World} (h : FreshU C E g n v top W) (k : Below W.heap.size W W2) : FreshU C E g n v top W2 := by
  rcases h with h | ⟨h0, b, h1, h2, h3⟩
  · exact .inl h
  · exact .inr ⟨h0, b, h1, h2, by rw [k.block b (lt_of_block h3)]; exact h3⟩
theorem FreshU.set {C : Nat} {E : TypeId} {g : Nat → Nat → Value} {n top B : Nat} {v : Value} {W : World} (h : FreshU C E g n v top W) (hB : top ≤ B) (i : Nat) (u : Value) : FreshU C E g n v top (W.setCell ⟨B, i, none⟩ u) := by
  rcases h with h | ⟨h0, b, h1, h2, h3⟩
  · exact .inl h
  · exact .inr ⟨h0, b, h1, h2, by rw [Below.heap_setCell _ _ _ _ (show b ≠ B by omega), h3]⟩
theorem FreshU.six {C : Nat} {E T : TypeId} {g : Nat → Nat → Value} {n top B : Nat} {v : Value} {W : World} {cs : Array Value} {fr : Nat × Nat} (h : FreshU C E g n v top W) (hB : W.heap[B]? = some (.cells cs T fr)) (hT : T ≠ E) (u0 u1 u2 u3 u4 u5 : Value) : FreshU C E g n v top (six W B u0 u1 u2 u3 u4 u5) := by
  rcases h with h | ⟨h0, b, h1, h2, h3⟩
  · exact .inl h
  · exact .inr ⟨h0, b, h1, h2, by rw [six_other (by rintro (rfl : b = B); rw [hB] at h3; simp at h3; exact hT h3.2.1), h3]⟩

/-- a model below top -/
structure NewU (m : Mdl) (vd vp vl vi : Value) (top : Nat) (W : World) : Prop where
  d : FreshU 1 22 (gF m.d) m.nd vd top W
  p : ∃ g, FreshU 1 38 (gV g) m.np vp top W ∧ ∀ i, i < m.np → FreshU 4 34 (gI (m.pr i)) (m.pl i) (g i) top W
  l : ∃ g, FreshU 2 41 (gL m.lp g) m.nl vl top W ∧ ∀ i, i < m.nl → FreshU 1 3 (gW (m.wd i)) (m.wl i) (g i) top W
  i : FreshU 3 43 (gE m.ev) m.ni vi top W
theorem NewM.u {m : Mdl} {vd vp vl vi : Value} {base : Nat} {W : World} (h : NewM m vd vp vl vi base W) : NewU m vd vp vl vi W.heap.size W := by
  obtain ⟨h1, ⟨g2, h2, h3⟩, ⟨g4, h4, h5⟩, h6⟩ := h
  exact ⟨h1.u, ⟨g2, h2.u, fun i hi => (h3 i hi).u⟩, ⟨g4, h4.u, fun i hi => (h5 i hi).u⟩, h6.u⟩
theorem NewU.below {m : Mdl} {vd vp vl vi : Value} {top : Nat} {W W2 : World} (h : NewU m vd vp vl vi top W) (k : Below W.heap.size W W2) : NewU m vd vp vl vi top W2 := by
  obtain ⟨h1, ⟨g2, h2, h3⟩, ⟨g4, h4, h5⟩, h6⟩ := h
  exact ⟨h1.below k, ⟨g2, h2.below k, fun i hi => (h3 i hi).below k⟩, ⟨g4, h4.below k, fun i hi => (h5 i hi).below k⟩, h6.below k⟩
theorem NewU.set {m : Mdl} {vd vp vl vi : Value} {top B : Nat} {W : World} (h : NewU m vd vp vl vi top W) (hB : top ≤ B) (i : Nat) (u : Value) : NewU m vd vp vl vi top (W.setCell ⟨B, i, none⟩ u) := by
  obtain ⟨h1, ⟨g2, h2, h3⟩, ⟨g4, h4, h5⟩, h6⟩ := h
  exact ⟨h1.set hB i u, ⟨g2, h2.set hB i u, fun q hq => (h3 q hq).set hB i u⟩, ⟨g4, h4.set hB i u, fun q hq => (h5 q hq).set hB i u⟩, h6.set hB i u⟩
theorem NewU.six {m : Mdl} {vd vp vl vi : Value} {top B : Nat} {W : World} {cs : Array Value} {fr : Nat × Nat} (h : NewU m vd vp vl vi top W) (hB : W.heap[B]? = some (.cells cs 28 fr)) (u0 u1 u2 u3 u4 u5 : Value) : NewU m vd vp vl vi top (six W B u0 u1 u2 u3 u4 u5) := by
  obtain ⟨h1, ⟨g2, h2, h3⟩, ⟨g4, h4, h5⟩, h6⟩ := h
  exact ⟨h1.six hB (by decide) .., ⟨g2, h2.six hB (by decide) .., fun q hq => (h3 q hq).six hB (by decide) ..⟩, ⟨g4, h4.six hB (by decide) .., fun q hq => (h5 q hq).six hB (by decide) ..⟩, h6.six hB (by decide) ..⟩
theorem NewU.mdl {m : Mdl} {vd vp vl vi : Value} {top : Nat} {W : World} (h : NewU m vd vp vl vi top W) (s : Small m) : MdlAt m vd vp vl vi W := by
  obtain ⟨h1, ⟨g2, h2, h3⟩, ⟨g4, h4, h5⟩, h6⟩ := h
  exact ⟨h1.fresh.sl s.d, ⟨g2, h2.fresh.sl s.p, fun i hi => (h3 i hi).fresh.sl (s.pl i hi)⟩, ⟨g4, h4.fresh.sl s.l, fun i hi => (h5 i hi).fresh.sl (s.wl i hi)⟩, h6.fresh.sl s.i⟩

/-- a slice in a block of its own from top on: its shape alone -/
def Shp (C : Nat) (E : TypeId) (n : Nat) (v : Value) (top : Nat) (W : World) : Prop :=
  (n = 0 ∧ v = .slice none 0 0) ∨ (0 < n ∧ ∃ b, ∃ cs : Array Value, top ≤ b ∧ v = .slice (some ⟨b, 0, none⟩) n n ∧ W.heap[b]? = some (.cells cs E (0, 0)) ∧ cs.size = n * C)
theorem Fresh.shp {C : Nat} {E : TypeId} {g : Nat → Nat → Value} {n base : Nat} {v : Value} {W : World} (h : Fresh C E g n v base W) : Shp C E n v base W := by
  rcases h with h | ⟨h0, b, h1, h2, h3⟩
  · exact .inl h
  · exact .inr ⟨h0, b, _, h1, h2, h3, by simp [rowCells_len]⟩
theorem Shp.set {C : Nat} {E : TypeId} {n top : Nat} {v : Value} {W : World} (h : Shp C E n v top W) (B i : Nat) (u : Value) : Shp C E n v top (W.setCell ⟨B, i, none⟩ u) := by
  rcases h with h | ⟨h0, b, cs, h1, h2, h3, h4⟩
  · exact .inl h
  · by_cases e : b = B
    · subst e
      exact .inr ⟨h0, b, _, h1, h2, Joins.block_setCell h3 u, by simpa using h4⟩
    · exact .inr ⟨h0, b, cs, h1, h2, by rw [Below.heap_setCell _ _ _ _ (show b ≠ B from e), h3], h4⟩
theorem Shp.below {C : Nat} {E : TypeId} {n top : Nat} {v : Value} {W W2 : World} (h : Shp C E n v top W) (k : Below W.heap.size W W2) : Shp C E n v top W2 := by
  rcases h with h | ⟨h0, b, cs, h1, h2, h3, h4⟩
  · exact .inl h
  · exact .inr ⟨h0, b, cs, h1, h2, by rw [k.block b (lt_of_block h3)]; exact h3, h4⟩
/-- one cell of it may be written -/
theorem Shp.cell {C : Nat} {E : TypeId} {n top : Nat} {v : Value} {W : World} (h : Shp C E n v top W) {i j : Nat} (hi : i < n) (hj : j < C) :
    ∃ b, top ≤ b ∧ v = .slice (some ⟨b, 0, none⟩) n n ∧ (∃ cs, W.heap[b]? = some (.cells cs E (0, 0))) ∧ (∃ u, W.cell? ⟨b, i * C + j, none⟩ = some u) ∧ ∀ q, W.frozen? ⟨b, q, none⟩ = false := by
  rcases h with ⟨rfl, _⟩ | ⟨h0, b, cs, h1, h2, h3, h4⟩
  · omega
  · have hlt : i * C + j < cs.size := by
      rw [h4]
      have : (i + 1) * C ≤ n * C := Nat.mul_le_mul_right C hi
      rw [Nat.add_mul, Nat.one_mul] at this
      omega
    exact ⟨b, h1, h2, ⟨cs, h3⟩, ⟨cs[i * C + j], by rw [Lib.cell_of_heap h3, Array.getElem?_eq_getElem hlt]⟩, fun q => Lib.frozen_of_heap h3 q⟩

/-- while the second copy is written into -/
structure Lent (w : World) (m : Mdl) (mb : Array Value) (Ba Bb top : Nat) (va pa la ia vb pb lb ib : Value) (W : World) : Prop where
  bel : Below w.heap.size w W
  tw : w.heap.size ≤ top
  box : W.heap[w.heap.size]? = some (.cells mb 28 (0, 0))
  ha : W.heap[Ba]? = some (.cells #[.int .i64 m.seed, .float .f64 m.fin, va, pa, la, ia] 28 (0, 0))
  hb : W.heap[Bb]? = some (.cells #[.int .i64 m.seed, .float .f64 m.fin, vb, pb, lb, ib] 28 (0, 0))
  a : NewU m va pa la ia top W
  bd : Shp 1 22 m.nd vb top W
  bp : ∃ g, Fresh 1 38 (gV g) m.np pb top W ∧ ∀ i, i < m.np → Shp 4 34 (m.pl i) (g i) top W
  bl : ∃ lp, ∃ g, Fresh 2 41 (gL lp g) m.nl lb top W ∧ ∀ i, i < m.nl → Shp 1 3 (m.wl i) (g i) top W
  bi : Shp 3 43 m.ni ib top W
theorem Lent.set {w : World} {m : Mdl} {mb : Array Value} {Ba Bb top : Nat} {va pa la ia vb pb lb ib : Value} {W : World} (h : Lent w m mb Ba Bb top va pa la ia vb pb lb ib W) {B : Nat} {cs : Array Value} {T : TypeId} {fr : Nat × Nat} (hB : W.heap[B]? = some (.cells cs T fr)) (ht : top ≤ B)
    (h1 : T ≠ 28) (h2 : T ≠ 38) (h3 : T ≠ 41) (i : Nat) (u : Value) : Lent w m mb Ba Bb top va pa la ia vb pb lb ib (W.setCell ⟨B, i, none⟩ u) := by
  have ne : ∀ {b : Nat} {c : Array Value} {f : Nat × Nat}, W.heap[b]? = some (.cells c 28 f) → b ≠ B := fun hx => by rintro rfl; rw [hB] at hx; simp at hx; exact h1 hx.2.1
  obtain ⟨gp, p1, p2⟩ := h.bp
  obtain ⟨lp, gl, l1, l2⟩ := h.bl
  exact ⟨h.bel.setCell (Nat.le_trans h.tw ht) u, h.tw, by rw [Below.heap_setCell _ _ _ _ (ne h.box)]; exact h.box, by rw [Below.heap_setCell _ _ _ _ (ne h.ha)]; exact h.ha, by rw [Below.heap_setCell _ _ _ _ (ne h.hb)]; exact h.hb, h.a.set ht i u, h.bd.set B i u,
    ⟨gp, p1.set hB h2 i u, fun q hq => (p2 q hq).set B i u⟩, ⟨lp, gl, l1.set hB h3 i u, fun q hq => (l2 q hq).set B i u⟩, h.bi.set B i u⟩
theorem Lent.below {w : World} {m : Mdl} {mb : Array Value} {Ba Bb top : Nat} {va pa la ia vb pb lb ib : Value} {W W2 : World} (h : Lent w m mb Ba Bb top va pa la ia vb pb lb ib W) (k : Below W.heap.size W W2) : Lent w m mb Ba Bb top va pa la ia vb pb lb ib W2 := by
  obtain ⟨gp, p1, p2⟩ := h.bp
  obtain ⟨lp, gl, l1, l2⟩ := h.bl
  exact ⟨bthen h.bel k, h.tw, by rw [k.block _ (lt_of_block h.box)]; exact h.box, by rw [k.block _ (lt_of_block h.ha)]; exact h.ha, by rw [k.block _ (lt_of_block h.hb)]; exact h.hb, h.a.below k, h.bd.below k, ⟨gp, p1.below k, fun q hq => (p2 q hq).below k⟩, ⟨lp, gl, l1.below k, fun q hq => (l2 q hq).below k⟩, h.bi.below k⟩
/-- a process's Program is written -/
theorem Lent.setLP {w : World} {m : Mdl} {mb : Array Value} {Ba Bb top : Nat} {va pa la ia vb pb lb ib : Value} {W : World} (h : Lent w m mb Ba Bb top va pa la ia vb pb lb ib W) {lp : Nat → Int} {g : Nat → Value} {B j : Nat} (hj : j < m.nl) (hv : lb = .slice (some ⟨B, 0, none⟩) m.nl m.nl)
    (hB : W.heap[B]? = some (.cells (rowCells 2 (gL lp g) m.nl).toArray 41 (0, 0))) (hg : ∀ i, i < m.nl → Shp 1 3 (m.wl i) (g i) top W) (ht : top ≤ B) (u : Int) : Lent w m mb Ba Bb top va pa la ia vb pb lb ib (W.setCell ⟨B, j * 2, none⟩ (.int .i64 u)) := by
  have ne : ∀ {b : Nat} {c : Array Value} {f : Nat × Nat}, W.heap[b]? = some (.cells c 28 f) → b ≠ B := fun hx => by rintro rfl; rw [hB] at hx; simp at hx
  obtain ⟨gp, p1, p2⟩ := h.bp
  refine ⟨h.bel.setCell (Nat.le_trans h.tw ht) _, h.tw, by rw [Below.heap_setCell _ _ _ _ (ne h.box)]; exact h.box, by rw [Below.heap_setCell _ _ _ _ (ne h.ha)]; exact h.ha, by rw [Below.heap_setCell _ _ _ _ (ne h.hb)]; exact h.hb, h.a.set ht _ _, h.bd.set B _ _,
    ⟨gp, p1.set hB (by decide) _ _, fun q hq => (p2 q hq).set B _ _⟩, ⟨fun i => if i = j then u else lp i, g, .inr ⟨by omega, B, ht, hv, ?_⟩, fun q hq => (hg q hq).set B _ _⟩, h.bi.set B _ _⟩
  rw [Joins.block_setCell hB, rowCells_set (by omega) (gL lp g) (gL (fun i => if i = j then u else lp i) g) m.nl (j * 2) (.int .i64 u)]
  intro i hi q hq
  rcases (show q = 0 ∨ q = 1 by omega) with rfl | rfl
  · by_cases e : i = j
    · simp [gL, e]
    · rw [if_neg (by omega)]; simp [gL, e]
  · rw [if_neg (by omega)]; rfl
/-- behind both stores -/
theorem Lent.start {w : World} {m : Mdl} {mb : Array Value} {Ba Bb top : Nat} {va pa la ia vb pb lb ib : Value} {W : World} {c0 c1 c2 c3 c4 c5 d0 d1 d2 d3 d4 d5 : Value} (h1 : Below w.heap.size w W) (h2 : w.heap.size ≤ top) (h3 : W.heap[w.heap.size]? = some (.cells mb 28 (0, 0)))
    (h4 : W.heap[Ba]? = some (.cells #[c0, c1, c2, c3, c4, c5] 28 (0, 0))) (h5 : W.heap[Bb]? = some (.cells #[d0, d1, d2, d3, d4, d5] 28 (0, 0))) (ha : w.heap.size < Ba) (hb : w.heap.size < Bb) (hne : Ba ≠ Bb) (h6 : NewU m va pa la ia top W) (h7 : NewM m vb pb lb ib top W) :
    Lent w m mb Ba Bb top va pa la ia vb pb lb ib (six (six W Ba (.int .i64 m.seed) (.float .f64 m.fin) va pa la ia) Bb (.int .i64 m.seed) (.float .f64 m.fin) vb pb lb ib) := by
  have k5 : (six W Ba (.int .i64 m.seed) (.float .f64 m.fin) va pa la ia).heap[Bb]? = some (.cells #[d0, d1, d2, d3, d4, d5] 28 (0, 0)) := by rw [six_other hne.symm]; exact h5
  obtain ⟨b1, ⟨gp, p1, p2⟩, ⟨gl, l1, l2⟩, b4⟩ := h7
  refine ⟨six_below (six_below h1 (by omega) ..) (by omega) .., h2, ?_, ?_, six_heap k5 .., (h6.six h4 ..).six k5 .., (six_fresh (six_fresh b1 h4 (by decide) ..) k5 (by decide) ..).shp,
    ⟨gp, six_fresh (six_fresh p1 h4 (by decide) ..) k5 (by decide) .., fun q hq => (six_fresh (six_fresh (p2 q hq) h4 (by decide) ..) k5 (by decide) ..).shp⟩, ⟨m.lp, gl, six_fresh (six_fresh l1 h4 (by decide) ..) k5 (by decide) .., fun q hq => (six_fresh (six_fresh (l2 q hq) h4 (by decide) ..) k5 (by decide) ..).shp⟩,
    (six_fresh (six_fresh b4 h4 (by decide) ..) k5 (by decide) ..).shp⟩
  · rw [six_other (by omega), six_other (by omega)]; exact h3
  · rw [six_other hne]; exact six_heap h4 ..

end Go.Proofs.Ytebopfcealhiaaa
