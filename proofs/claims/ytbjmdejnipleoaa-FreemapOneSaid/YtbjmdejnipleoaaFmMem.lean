/- The document's map of pages in memory. -/
import Derived.Test.YtbjmdejnipleoaaFmMath
import Derived.Test.YtbjmdejnipleoaaRowB
namespace Go.Proofs.Ytbjmdejnipleoaa
open Go.RowKit Go.Deep
set_option linter.unusedVariables false
set_option linter.unusedSimpArgs false
set_option maxRecDepth 100000

def gK (K : Nat → Nat) : Nat → Nat → Value := fun i _ => .int .i64 (K i : Int)
/-- n numbers in a row of their own, from base on -/
theorem zrow_up {n base : Nat} {v : Value} {a b : World} (h : n = 0 ∧ ∃ ao c, v = .slice ao 0 c ∧ c ≤ 9223372036854775807 ∧ ∀ p, ao = some p → base ≤ p.block ∧ p.block < a.heap.size) (k : a.heap.size ≤ b.heap.size) : n = 0 ∧ ∃ ao c, v = .slice ao 0 c ∧ c ≤ 9223372036854775807 ∧ ∀ p, ao = some p → base ≤ p.block ∧ p.block < b.heap.size := by
  obtain ⟨h0, ao, c, e, hc, hp⟩ := h
  exact ⟨h0, ao, c, e, hc, fun p h1 => ⟨(hp p h1).1, Nat.lt_of_lt_of_le (hp p h1).2 k⟩⟩
def KRow (base n : Nat) (K : Nat → Nat) (v : Value) (u : World) : Prop := (n = 0 ∧ ∃ a c, v = .slice a 0 c ∧ c ≤ 9223372036854775807 ∧ ∀ p, a = some p → base ≤ p.block ∧ p.block < u.heap.size) ∨ (0 < n ∧ ∃ b c, v = .slice (some ⟨b, 0, none⟩) n c ∧ base ≤ b ∧ RowB 3 1 b (gK K) n v u)
structure RFm (base Q n : Nat) (K : Nat → Nat) (u : World) : Prop where
  box : ∃ v, u.heap[Q]? = some (.cells #[v] 34 (0, 0)) ∧ KRow base n K v u
  lo : base ≤ Q
/-- the map's own blocks -/
def Rb (Q : Nat) (u : World) (k : Nat) : Prop := k = Q ∨ ∃ v, u.heap[Q]? = some (.cells #[v] 34 (0, 0)) ∧ v.ownBlock = some k
def Rnew (Q : Nat) (u u2 : World) : Prop := ∀ k, Rb Q u2 k → Rb Q u k ∨ u.heap.size ≤ k
def QS (Q : Nat) : Nat → Bool := fun k => k == Q
theorem QS.a (Q : Nat) : QS Q Q = true := by simp [QS]
theorem QS.no {Q k : Nat} (h : k ≠ Q) : QS Q k = false := by simp [QS, h]
section
variable {base Q n : Nat} {K K2 : Nat → Nat} {v : Value} {u u2 : World}
theorem KRow.below (h : KRow base n K v u) (k : Below u.heap.size u u2) : KRow base n K v u2 := by
  rcases h with h | ⟨h0, b, c, e, hb, hr⟩
  · exact .inl (zrow_up h k.size)
  · exact .inr ⟨h0, b, c, e, hb, hr.kept (k.block _ hr.lt)⟩
theorem KRow.kept (h : KRow base n K v u) (S : Nat → Bool) (hS : ∀ b, v.ownBlock = some b → S b = false) (k : KpS S u u2) : KRow base n K v u2 := by
  rcases h with h | ⟨h0, b, c, e, hb, hr⟩
  · exact .inl (zrow_up h k.size)
  · exact .inr ⟨h0, b, c, e, hb, hr.kept (k.blk hr.lt (hS b (by rw [e]; rfl)))⟩
theorem KRow.congr (h : KRow base n K v u) (e : ∀ i, i < n → K2 i = K i) : KRow base n K2 v u := by
  rcases h with h | ⟨h0, b, c, e1, hb, hr⟩
  · exact .inl h
  · exact .inr ⟨h0, b, c, e1, hb, hr.congr fun i hi j hj => by unfold gK; rw [e i hi]⟩
theorem KRow.of {xs : List Value} (h : u.ownsRow base 3 1 v n xs) (hx : xs = rowCells 1 (gK K) n) : KRow base n K v u := by
  subst hx
  by_cases h0 : n = 0
  · subst h0
    rcases h.2 with ⟨e, _⟩ | ⟨g, cap, cur, e, hb, hg, _, hm, _⟩
    · exact .inl ⟨rfl, _, _, e, by omega, fun p hp => by cases hp⟩
    · exact .inl ⟨rfl, _, _, e, by unfold maxLen at hm; omega, fun p hp => by
        simp only [Option.some.injEq] at hp
        subst hp
        exact ⟨hb, lt_of_block hg⟩⟩
  · obtain ⟨b, hb, hv, hr⟩ := RowB.of h (by omega)
    obtain ⟨c, e, _⟩ := hr.v
    exact .inr ⟨by omega, b, c, e, hb, hr⟩
theorem KRow.sl (h : KRow base n K v u) : Sl 1 (gK K) n v u := by
  rcases h with ⟨rfl, a, c, rfl, hc, _⟩ | ⟨h0, b, c, rfl, hb, hr⟩
  · exact ⟨a, c, rfl, Nat.zero_le _, hc, fun h => absurd h (Nat.lt_irrefl 0)⟩
  · obtain ⟨c2, e, h1, h2⟩ := hr.v
    exact ⟨_, _, e, h1, h2, fun _ => ⟨b, 0, rfl, hr.lt, fun i hi j hj => by rw [Nat.zero_add]; exact hr.c i hi j hj⟩⟩
theorem RFm.lt (h : RFm base Q n K u) : Q < u.heap.size := by
  obtain ⟨v, e, _⟩ := h.box
  exact lt_of_block e
theorem RFm.below (h : RFm base Q n K u) (k : Below u.heap.size u u2) : RFm base Q n K u2 := by
  obtain ⟨v, e, hr⟩ := h.box
  exact ⟨⟨v, (k.block _ (lt_of_block e)).trans e, hr.below k⟩, h.lo⟩
theorem RFm.mono {base2 : Nat} (h : RFm base Q n K u) (hb : base2 ≤ base) : RFm base2 Q n K u := by
  obtain ⟨v, e, hr⟩ := h.box
  refine ⟨⟨v, e, ?_⟩, Nat.le_trans hb h.lo⟩
  rcases hr with ⟨hr, a, c, e1, hc, hp⟩ | ⟨h0, b, c, e1, h1, hr⟩
  · exact .inl ⟨hr, a, c, e1, hc, fun p h1 => ⟨Nat.le_trans hb (hp p h1).1, (hp p h1).2⟩⟩
  · exact .inr ⟨h0, b, c, e1, Nat.le_trans hb h1, hr⟩
theorem RFm.bot (h : RFm base Q n K u) (k : KpS (QS Q) u u2) (hb : base ≤ u.heap.size) : Below base u u2 :=
  k.bot hb fun q hq => QS.no (by have := h.lo; omega)
theorem RFm.rlt (h : RFm base Q n K u) {k : Nat} (hk : Rb Q u k) : k < u.heap.size := by
  rcases hk with rfl | ⟨v, e, hv⟩
  · exact h.lt
  · obtain ⟨v2, e2, hr⟩ := h.box
    rw [e] at e2
    simp only [Option.some.injEq, Obj.cells.injEq, and_true, true_and] at e2
    obtain rfl : v = v2 := by simpa using e2
    rcases hr with ⟨rfl, a, c, rfl, hc, hp⟩ | ⟨h0, b, c, rfl, h1, hr⟩
    · cases a with
      | none => cases hv
      | some p =>
        simp only [Value.ownBlock, Option.some.injEq] at hv
        subst hv
        exact (hp p rfl).2
    · simp only [Value.ownBlock, Option.some.injEq] at hv
      subst hv
      exact hr.lt
/-- other blocks are written: this one stays -/
theorem RFm.stays (h : RFm base Q n K u) {S : Nat → Bool} (hS : ∀ k, Rb Q u k → S k = false) (k : KpS S u u2) : RFm base Q n K u2 ∧ ∀ k, Rb Q u2 k → Rb Q u k := by
  obtain ⟨v, e, hr⟩ := h.box
  have e2 := (k.blk (lt_of_block e) (hS Q (.inl rfl))).trans e
  refine ⟨⟨⟨v, e2, ?_⟩, h.lo⟩, fun q hq => ?_⟩
  · rcases hr with hr | ⟨h0, b, c, e1, h1, hr⟩
    · exact .inl (zrow_up hr k.size)
    · exact .inr ⟨h0, b, c, e1, h1, hr.kept (k.blk hr.lt (hS b (.inr ⟨v, e, by rw [e1]; rfl⟩)))⟩
  · rcases hq with rfl | ⟨v2, e3, hv⟩
    · exact .inl rfl
    · rw [e2] at e3
      simp only [Option.some.injEq, Obj.cells.injEq, and_true, true_and] at e3
      obtain rfl : v = v2 := by simpa using e3
      exact .inr ⟨v, e, hv⟩
theorem Rnew.refl (Q : Nat) (u : World) : Rnew Q u u := fun k hk => .inl hk
theorem Rnew.box {w : Value} (h : u2.heap[Q]? = some (.cells #[w] 34 (0, 0))) (hw : ∀ k, w.ownBlock = some k → u.heap.size ≤ k) : Rnew Q u u2 := fun k hk => by
  rcases hk with rfl | ⟨v, e, hv⟩
  · exact .inl (.inl rfl)
  · rw [h] at e
    simp only [Option.some.injEq, Obj.cells.injEq, and_true, true_and] at e
    obtain rfl : w = v := by simpa using e
    exact .inr (hw k hv)
end

end Go.Proofs.Ytbjmdejnipleoaa
