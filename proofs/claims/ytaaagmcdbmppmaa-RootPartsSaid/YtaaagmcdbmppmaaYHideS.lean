/- All of memory with a set of blocks hidden. -/
import Derived.Laws.OwnMore
import Derived.Test.YtaaagmcdbmppmaaYModelMem
import Derived.Test.YtaaagmcdbmppmaaYZ15
import Derived.Test.YtaaagmcdbmppmaaYHide
namespace Go.Proofs.Ytaaagmcdbmppmaa
open Go.RowKit
set_option linter.unusedVariables false
set_option maxRecDepth 100000

/-- the world with the blocks of S hidden -/
def HdS (S : Nat → Bool) (w : World) : World := { w with heap := w.heap.mapIdx fun i o => if S i then .finalizers #[] none else o }
theorem HdS.size (S : Nat → Bool) (w : World) : (HdS S w).heap.size = w.heap.size := by simp [HdS]
theorem HdS.block (S : Nat → Bool) (k : Nat) (w : World) : (HdS S w).heap[k]? = (w.heap[k]?).map (fun o => if S k then Obj.finalizers #[] none else o) := by
  simp only [HdS, Array.getElem?_mapIdx]
theorem HdS.other {S : Nat → Bool} {k : Nat} (w : World) (h : S k = false) : (HdS S w).heap[k]? = w.heap[k]? := by
  rw [HdS.block, h]
  cases w.heap[k]? <;> rfl
theorem HdS.hid {S : Nat → Bool} {k : Nat} {w w2 : World} (h : S k = true) (h1 : k < w.heap.size) (h2 : k < w2.heap.size) : (HdS S w2).heap[k]? = (HdS S w).heap[k]? := by
  rw [HdS.block, HdS.block, h, Array.getElem?_eq_getElem h1, Array.getElem?_eq_getElem h2]; rfl
theorem HdS.cells {S : Nat → Bool} {k : Nat} {w : World} {c : Array Value} {t : TypeId} {f : Nat × Nat} (h : (HdS S w).heap[k]? = some (.cells c t f)) : S k = false ∧ w.heap[k]? = some (.cells c t f) := by
  cases e : S k with
  | false => exact ⟨rfl, by rwa [HdS.other w e] at h⟩
  | true =>
    rw [HdS.block, e] at h
    cases hw : w.heap[k]? with
    | none => rw [hw] at h; cases h
    | some o => rw [hw] at h; simp at h
theorem HdS.cell {S : Nat → Bool} {w : World} {a : Addr} {v : Value} (h : (HdS S w).cell? a = some v) : w.cell? a = some v := by
  obtain ⟨c, t, f, e⟩ := cell_block h
  obtain ⟨h1, h2⟩ := HdS.cells e
  rw [← h]
  exact World.cell?_of_block (by rw [e, h2])
theorem HdS.below {S : Nat → Bool} {B : Nat} {w w2 : World} (h : Below B w w2) : Below B (HdS S w) (HdS S w2) :=
  ⟨h.os, h.tape, h.output, by rw [HdS.size, HdS.size]; exact h.size, fun k hk => by rw [HdS.block, HdS.block, h.block k hk]⟩
theorem HdS.below2 {S S2 : Nat → Bool} {B : Nat} {w w2 : World} (h : Below B w w2) (e : ∀ k, k < B → S2 k = S k) : Below B (HdS S w) (HdS S2 w2) :=
  ⟨h.os, h.tape, h.output, by rw [HdS.size, HdS.size]; exact h.size, fun k hk => by rw [HdS.block, HdS.block, h.block k hk, e k hk]⟩
/-- a row of the call's own, apart from what is hidden -/
theorem own_hdS {S : Nat → Bool} {u : World} {b : Nat} {E : TypeId} {C n : Nat} {v : Value} {xs : List Value} (h : u.ownsRow b E C v n xs) (hne : ∀ g, v.ownBlock = some g → S g = false) : (HdS S u).ownsRow b E C v n xs :=
  own_kept h fun g hg => HdS.other _ (hne g hg)
theorem Sl.hds {S : Nat → Bool} {u : World} {C n : Nat} {g : Nat → Nat → Value} {v : Value} (h : Sl C g n v (HdS S u)) : Sl C g n v u := by
  obtain ⟨a, c, e, h1, h2, h3⟩ := h
  refine ⟨a, c, e, h1, h2, fun h0 => ?_⟩
  obtain ⟨b, o, e2, h4, h5⟩ := h3 h0
  exact ⟨b, o, e2, by rw [HdS.size] at h4; exact h4, fun i hi j hj => HdS.cell (h5 i hi j hj)⟩
theorem MdlAt.hds {S : Nat → Bool} {u : World} {m : Mdl} {vd vp vl vi : Value} (h : MdlAt m vd vp vl vi (HdS S u)) : MdlAt m vd vp vl vi u := by
  obtain ⟨g, p1, p2⟩ := h.p
  obtain ⟨g2, l1, l2⟩ := h.l
  exact ⟨h.d.hds, ⟨g, p1.hds, fun i hi => (p2 i hi).hds⟩, ⟨g2, l1.hds, fun i hi => (l2 i hi).hds⟩, h.i.hds⟩

/-- all but the blocks of S is as it was -/
def KpS (S : Nat → Bool) (w w2 : World) : Prop := Below w.heap.size (HdS S w) (HdS S w2)
theorem KpS.refl (S : Nat → Bool) (w : World) : KpS S w w := Below.refl _ _
theorem KpS.size {S : Nat → Bool} {w w2 : World} (h : KpS S w w2) : w.heap.size ≤ w2.heap.size := by have := Below.size h; rwa [HdS.size, HdS.size] at this
theorem KpS.trans {S : Nat → Bool} {a b c : World} (h : KpS S a b) (k : KpS S b c) : KpS S a c := Below.trans h (Below.mono k h.size)
theorem KpS.of {S : Nat → Bool} {a b : World} (h : Below a.heap.size a b) : KpS S a b := HdS.below h
theorem KpS.on {S : Nat → Bool} {a b c : World} (h : KpS S a b) (k : Below b.heap.size b c) : KpS S a c := h.trans (KpS.of k)
theorem KpS.low {S : Nat → Bool} {a b c : World} (h : KpS S a b) (k : Below a.heap.size b c) : KpS S a c := Below.trans h (HdS.below k)
theorem KpS.hd {S : Nat → Bool} {u u2 : World} (k : KpS S u u2) : Below (HdS S u).heap.size (HdS S u) (HdS S u2) := by rw [HdS.size]; exact k
theorem KpS.blk {S : Nat → Bool} {k : Nat} {a b : World} (h : KpS S a b) (hk : k < a.heap.size) (hne : S k = false) : b.heap[k]? = a.heap[k]? := by
  have := Below.block h k hk
  rwa [HdS.other _ hne, HdS.other _ hne] at this
theorem KpS.mono {S T : Nat → Bool} {a b : World} (h : KpS S a b) (e : ∀ k, S k = true → T k = true) : KpS T a b := by
  have k : Below a.heap.size (HdS S a) (HdS S b) := h
  refine ⟨k.os, k.tape, k.output, by rw [HdS.size, HdS.size]; exact h.size, fun i hi => ?_⟩
  cases c : T i with
  | true => exact HdS.hid c hi (Nat.lt_of_lt_of_le hi h.size)
  | false =>
    rw [HdS.other _ c, HdS.other _ c]
    refine h.blk hi ?_
    cases c2 : S i with
    | false => rfl
    | true => rw [e i c2] at c; cases c
theorem KpS.bot {S : Nat → Bool} {B : Nat} {a b : World} (h : KpS S a b) (hB : B ≤ a.heap.size) (ht : ∀ k, k < B → S k = false) : Below B a b := by
  have k : Below a.heap.size (HdS S a) (HdS S b) := h
  exact ⟨k.os, k.tape, k.output, h.size, fun i hi => h.blk (by omega) (ht i hi)⟩
theorem KpS.grown {S : Nat → Bool} {b : Nat} {w w2 : World} (h : w.grownBy w2 (some b)) (hb : S b = true) : KpS S w w2 := by
  refine ⟨h.os, h.tape, h.output, by rw [HdS.size, HdS.size]; exact h.size, fun k hk => ?_⟩
  by_cases e : k = b
  · subst e; exact HdS.hid hb hk (Nat.lt_of_lt_of_le hk h.size)
  · rw [HdS.block, HdS.block, h.block k hk (fun e2 => e (by injection e2))]
theorem KpS.set {S : Nat → Bool} {b : Nat} (hb : S b = true) (o : Nat) (v : Value) (w : World) : KpS S w (w.setCell ⟨b, o, none⟩ v) := by
  refine ⟨rfl, rfl, rfl, by rw [HdS.size, HdS.size, World.size_setCell]; exact Nat.le_refl _, fun k hk => ?_⟩
  by_cases e : k = b
  · subst e; exact HdS.hid hb hk (by rw [World.size_setCell]; exact hk)
  · rw [HdS.block, HdS.block, Below.heap_setCell _ _ _ _ e]
theorem KpS.sets {S : Nat → Bool} {b : Nat} (hb : S b = true) : ∀ (l : List Value) (o : Nat) (w : World), KpS S w (w.setCells b o l)
  | [], _, w => KpS.refl S w
  | v :: l, o, w => (KpS.set hb o v w).trans (KpS.sets hb l (o + 1) _)

end Go.Proofs.Ytaaagmcdbmppmaa
