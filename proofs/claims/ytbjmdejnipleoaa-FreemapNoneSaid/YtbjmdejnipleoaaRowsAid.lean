/- Slices that came in, as rows: what the frames share. -/
import Derived.Test.YtbjmdejnipleoaaModelMem
import Derived.Test.YtbjmdejnipleoaaFrameAid
namespace Go.Proofs.Ytbjmdejnipleoaa
open Go.ChangeShapes Go.WideShapes Go.ChangeAt Go.RowKit Go.Joins
set_option linter.unusedVariables false
set_option maxRecDepth 100000

theorem rows_sl {C : Nat} (hC : 0 < C) {ok : List Value → Prop} {w : World} {a : Option Addr} {len cap : Nat} (h : CellRows C ok w a len cap) :
    ∃ f : Nat → List Value, (∀ i, i < len → (f i).length = C ∧ ok (f i)) ∧ Sl C (fun i j => (f i).getD j undef) len (.slice a len cap) w := by
  rcases h with ⟨rfl, rfl, rfl⟩ | ⟨x, rfl, hl, hm, hc⟩
  · exact ⟨fun _ => [], fun i hi => absurd hi (Nat.not_lt_zero i), none, 0, rfl, Nat.le_refl _, by omega, fun h => absurd h (Nat.lt_irrefl 0)⟩
  · have hex : ∀ i, ∃ cs : List Value, i < len → cs.length = C ∧ ok cs ∧ ∀ j, j < C → w.cell? (x.add (i * C + j)) = cs[j]? := fun i => by
      by_cases hi : i < len
      · obtain ⟨cs, h1, h2, h3⟩ := hc i hi; exact ⟨cs, fun _ => ⟨h1, h2, h3⟩⟩
      · exact ⟨[], fun h => absurd h hi⟩
    obtain ⟨f, hf⟩ : ∃ f : Nat → List Value, ∀ i, i < len → (f i).length = C ∧ ok (f i) ∧ ∀ j, j < C → w.cell? (x.add (i * C + j)) = (f i)[j]? := ⟨fun i => Classical.choose (hex i), fun i => Classical.choose_spec (hex i)⟩
    refine ⟨f, fun i hi => ⟨(hf i hi).1, (hf i hi).2.1⟩, some x, cap, rfl, hl, hm, fun hn => ?_⟩
    have h0 := (hf 0 hn).2.2 0 hC
    rw [Nat.zero_mul, List.getElem?_eq_getElem (by rw [(hf 0 hn).1]; exact hC)] at h0
    obtain ⟨b, off, spot⟩ := x
    have hspot : spot = none := by simpa [Addr.add] using World.cell?_spot h0
    subst hspot
    refine ⟨b, off, rfl, ?_, fun i hi j hj => ?_⟩
    · rw [add_plain] at h0
      rcases Nat.lt_or_ge b w.heap.size with h' | h'
      · exact h'
      · simp [World.cell?, Array.getElem?_eq_none h'] at h0
    · have := (hf i hi).2.2 j hj
      rw [add_plain] at this
      rw [Nat.add_assoc, this, List.getElem?_eq_getElem (by rw [(hf i hi).1]; exact hj)]
      simp [List.getD, List.getElem?_eq_getElem (show j < (f i).length by rw [(hf i hi).1]; exact hj)]

theorem choose_fn {α : Type} {n : Nat} {p : Nat → α → Prop} (d : α) (h : ∀ i, i < n → ∃ x, p i x) : ∃ f : Nat → α, ∀ i, i < n → p i (f i) := by
  have hex : ∀ i, ∃ x, i < n → p i x := fun i => by
    by_cases hi : i < n
    · obtain ⟨x, hx⟩ := h i hi; exact ⟨x, fun _ => hx⟩
    · exact ⟨d, fun h => absurd h hi⟩
  exact ⟨fun i => Classical.choose (hex i), fun i => Classical.choose_spec (hex i)⟩

section
variable {H : Type} {enc : TypeId × Value → H} {W : World}

/-- what a slice's one cell is -/
theorem slice_cell {P : Program} {base fuel : Nat} {t e : TypeId} {c : Value} {x : DataW H × List MemPlace} (ht : P.underlying t = some (.slice e)) (hf : DataW.trod enc P W base (fun _ => true) true fuel t [c] = some x) : ∃ a len cap, c = .slice a len cap := by
  rcases Go.Deep.open_slice ht hf with ⟨hcs, _⟩ | ⟨y, l, cp, m, n, D, Pl, hcs, _⟩
  · exact ⟨none, 0, 0, by simpa using hcs⟩
  · exact ⟨some y, l, cp, by simpa using hcs⟩

end

end Go.Proofs.Ytbjmdejnipleoaa
