/- All of memory with one block hidden. -/
import Derived.Laws.OwnMore
import Derived.Test.YtaaagmcdbmppmaaYModelMem
import Derived.Test.YtaaagmcdbmppmaaYZ15
namespace Go.Proofs.Ytaaagmcdbmppmaa
open Go.RowKit
set_option linter.unusedVariables false

/-- the world with block tb hidden -/
def Hd (tb : Nat) (w : World) : World := { w with heap := w.heap.modify tb fun _ => .finalizers #[] none }
theorem Hd.size (tb : Nat) (w : World) : (Hd tb w).heap.size = w.heap.size := by simp [Hd]
theorem Hd.block (tb k : Nat) (w : World) : (Hd tb w).heap[k]? = if tb = k then (w.heap[k]?).map (fun _ => Obj.finalizers #[] none) else w.heap[k]? := by
  simp only [Hd, Array.getElem?_modify]
theorem Hd.other {tb k : Nat} (w : World) (h : tb ≠ k) : (Hd tb w).heap[k]? = w.heap[k]? := by rw [Hd.block, if_neg h]
theorem Hd.cells {tb k : Nat} {w : World} {c : Array Value} {t : TypeId} {f : Nat × Nat} (h : (Hd tb w).heap[k]? = some (.cells c t f)) : tb ≠ k ∧ w.heap[k]? = some (.cells c t f) := by
  rw [Hd.block] at h
  by_cases e : tb = k
  · rw [if_pos e] at h
    cases hw : w.heap[k]? with
    | none => rw [hw] at h; cases h
    | some o => rw [hw] at h; simp at h
  · rw [if_neg e] at h; exact ⟨e, h⟩
theorem Hd.cell {tb : Nat} {w : World} {a : Addr} {v : Value} (h : (Hd tb w).cell? a = some v) : w.cell? a = some v := by
  obtain ⟨c, t, f, e⟩ := cell_block h
  obtain ⟨h1, h2⟩ := Hd.cells e
  rw [← h]
  exact World.cell?_of_block (by rw [e, h2])
theorem Hd.below {tb B : Nat} {w w2 : World} (h : Below B w w2) : Below B (Hd tb w) (Hd tb w2) :=
  ⟨h.os, h.tape, h.output, by rw [Hd.size, Hd.size]; exact h.size, fun k hk => by rw [Hd.block, Hd.block, h.block k hk]⟩

/-- all but block tb is as it was -/
def Kp (tb : Nat) (w w2 : World) : Prop := Below w.heap.size (Hd tb w) (Hd tb w2)
theorem Kp.refl (tb : Nat) (w : World) : Kp tb w w := Below.refl _ _
theorem Kp.size {tb : Nat} {w w2 : World} (h : Kp tb w w2) : w.heap.size ≤ w2.heap.size := by have := Below.size h; rwa [Hd.size, Hd.size] at this
theorem Kp.trans {tb : Nat} {a b c : World} (h : Kp tb a b) (k : Kp tb b c) : Kp tb a c := Below.trans h (Below.mono k h.size)
theorem Kp.of {tb : Nat} {a b : World} (h : Below a.heap.size a b) : Kp tb a b := Hd.below h
theorem Kp.on {tb : Nat} {a b c : World} (h : Kp tb a b) (k : Below b.heap.size b c) : Kp tb a c := h.trans (Kp.of k)
theorem Kp.low {tb : Nat} {a b c : World} (h : Kp tb a b) (k : Below a.heap.size b c) : Kp tb a c := Below.trans h (Hd.below k)
theorem Kp.blk {tb k : Nat} {a b : World} (h : Kp tb a b) (hk : k < a.heap.size) (hne : tb ≠ k) : b.heap[k]? = a.heap[k]? := by
  have := Below.block h k hk
  rwa [Hd.other _ hne, Hd.other _ hne] at this
theorem Kp.set (tb o : Nat) (v : Value) (w : World) : Kp tb w (w.setCell ⟨tb, o, none⟩ v) := by
  refine ⟨rfl, rfl, rfl, by rw [Hd.size, Hd.size, World.size_setCell]; exact Nat.le_refl _, fun k hk => ?_⟩
  rw [Hd.block, Hd.block]
  by_cases e : tb = k
  · subst e
    rw [if_pos rfl, if_pos rfl]
    have h1 : tb < w.heap.size := hk
    rw [Array.getElem?_eq_getElem h1, Array.getElem?_eq_getElem (by rw [World.size_setCell]; exact h1)]
    rfl
  · rw [if_neg e, if_neg e]
    exact Below.heap_setCell _ _ _ _ (fun h => e h.symm)
theorem Kp.bot {tb B : Nat} {a b : World} (h : Kp tb a b) (hB : B ≤ a.heap.size) (ht : B ≤ tb) : Below B a b := by
  have k : Below a.heap.size (Hd tb a) (Hd tb b) := h
  exact ⟨k.os, k.tape, k.output, h.size, fun i hi => h.blk (by omega) (by omega)⟩
theorem Kp.drew (tb : Nat) (w : World) : Kp tb w w.drew := Kp.of (bdrew w)
/-- hiding a block, and what is done to memory -/
theorem hd_types {B : Nat} {W : World} {cs : Array Value} {E : TypeId} {fr : Nat × Nat} (hB : W.heap[B]? = some (.cells cs E fr)) :
    ∀ (k : Nat) (c : Array Value) (t : TypeId) (f : Nat × Nat), t ≠ E → W.heap[k]? = some (Obj.cells c t f) → (Hd B W).heap[k]? = some (Obj.cells c t f) := by
  intro k c t f hne hc
  rw [Hd.other]
  · exact hc
  · rintro rfl
    rw [hc] at hB
    simp only [Option.some.injEq, Obj.cells.injEq] at hB
    exact hne hB.2.1
theorem hd_set_self (X o : Nat) (v : Value) (W : World) : Hd X (W.setCell ⟨X, o, none⟩ v) = Hd X W := by
  unfold Hd World.setCell
  simp only [World.mk.injEq, and_true]
  apply Array.ext_getElem?
  intro k
  simp only [Array.getElem?_modify]
  by_cases e : X = k
  · simp [e, Function.comp_def]
  · simp [e]
theorem hd_set_other {X tb : Nat} (h : tb ≠ X) (o : Nat) (v : Value) (W : World) : Hd X (W.setCell ⟨tb, o, none⟩ v) = (Hd X W).setCell ⟨tb, o, none⟩ v := by
  unfold Hd World.setCell
  simp only [World.mk.injEq, and_true]
  apply Array.ext_getElem?
  intro k
  simp only [Array.getElem?_modify]
  by_cases e : X = k
  · subst e
    simp [h]
  · simp [e]
theorem hd_sets_self (X : Nat) : ∀ (l : List Value) (o : Nat) (W : World), Hd X (W.setCells X o l) = Hd X W
  | [], _, W => rfl
  | v :: l, o, W => (hd_sets_self X l (o + 1) _).trans (hd_set_self X o v W)
theorem hd_sets_other {X tb : Nat} (h : tb ≠ X) : ∀ (l : List Value) (o : Nat) (W : World), Hd X (W.setCells tb o l) = (Hd X W).setCells tb o l
  | [], _, W => rfl
  | v :: l, o, W => by
    show Hd X ((W.setCell ⟨tb, o, none⟩ v).setCells tb (o + 1) l) = ((Hd X W).setCell ⟨tb, o, none⟩ v).setCells tb (o + 1) l
    rw [hd_sets_other h l (o + 1) _, hd_set_other h]
theorem hd_alloc {X : Nat} {W : World} (h : X < W.heap.size) (o : Obj) : Hd X (W.alloc o) = (Hd X W).alloc o := by
  unfold Hd World.alloc
  simp only [World.mk.injEq, and_true]
  apply Array.ext_getElem?
  intro k
  simp only [Array.getElem?_modify, Array.getElem?_push, Array.size_modify]
  by_cases e : X = k
  · subst e
    have : X ≠ W.heap.size := by omega
    simp [this]
  · simp [e]
theorem hd_grown {X : Nat} {w w4 : World} {row : Option Nat} (h : w.grownBy w4 row) : (Hd X w).grownBy (Hd X w4) row :=
  ⟨h.os, h.tape, h.output, by rw [Hd.size, Hd.size]; exact h.size, fun k hk hne => by rw [Hd.block, Hd.block, h.block k (by rwa [Hd.size] at hk) hne]⟩

end Go.Proofs.Ytaaagmcdbmppmaa
