/- Small lemmas that the frames share: a slice of integers that came in, opened; structs of five and six fields by value. Models in memory: rows of cells, slices of them, and what stays when new memory is made. The cells of rows, as a list. Rows that a call made, each in a block of its own: what stays of them when memory is written elsewhere. All of memory with a set of blocks hidden. A row in a block of its own that is written again and again: how its cells are told, a store of an element or of a cell. Whole numbers from 0 on in a row of their own; a list of them in new memory. (Moved out of FmMem, FmRef1, FmRef2, FmBoth, FmP2, FmP3.) -/
import Derived.WalkKit
import Derived.ProofKit
import Derived.OpenShut
import Derived.ShutString
import Derived.ChangeOld
import Derived.Below
import Derived.Lib.SmallJoins
import Derived.Deep.Slices
import Derived.WalkSpells
import Derived.WalkLawsBesides
import Derived.Lib.Hide
import Derived.WalkSmall
import Derived.Deep.RegionHeld3
import Derived.BigQuiet
import Derived.Deep.QuietTactic
import Derived.Laws.OwnMore
import Derived.Laws.IdiomCopy
import Derived.Test.YtdpmpmaepjgndaaGreatRows
import Derived.Test.YtdpmpmaepjgndaaGreatYZ1
import Derived.Test.YtdpmpmaepjgndaaGreatYZ0
namespace Go.Proofs.YtdpmpmaepjgndaaGreat
open Go.ChangeShapes Go.WideShapes Go.ChangeAt Go.RowKit Go.Joins

theorem list3 {α : Type} {l : List α} (h : l.length = 3) : ∃ c0 c1 c2, l = [c0, c1, c2] := by
  match l, h with
  | [c0, c1, c2], _ => exact ⟨c0, c1, c2, rfl⟩
theorem list4 {α : Type} {l : List α} (h : l.length = 4) : ∃ c0 c1 c2 c3, l = [c0, c1, c2, c3] := by
  match l, h with
  | [c0, c1, c2, c3], _ => exact ⟨c0, c1, c2, c3, rfl⟩
theorem list6 {α : Type} {l : List α} (h : l.length = 6) : ∃ c0 c1 c2 c3 c4 c5, l = [c0, c1, c2, c3, c4, c5] := by
  match l, h with
  | [c0, c1, c2, c3, c4, c5], _ => exact ⟨c0, c1, c2, c3, c4, c5, rfl⟩
section
variable {H : Type} {enc : TypeId × Value → H} {P : Program} {w : World}
/-- the fields of a struct that lies in the cells cs: field i, of type T, at cell o, k cells wide, reads as data -/
theorem struct_cells {base fuel : Nat} {spare : Nat → Bool} {held : Bool} {t : TypeId} {fs : Array Field} {cs : List Value} {x : DataW H × List MemPlace} (hs : P.underlying t = some (.struct fs)) (h : DataW.trod enc P w base spare held fuel t cs = some x) :
    ∃ n, ∀ (i : Nat) (T : TypeId) (o k : Nat), fs[i]?.map (fun f => (f.type, f.offset)) = some (T, o) → P.cellsOf T = k → ∃ y, DataW.trod enc P w base spare held n T ((cs.drop o).take k) = some y := by
  obtain ⟨xs, n, _, _, _, hlen, hg⟩ := DataW.trod_struct hs h
  refine ⟨n, fun i T o k hi hk => ?_⟩
  obtain ⟨f, hf, e⟩ := Option.map_eq_some_iff.1 hi
  simp only [Prod.mk.injEq] at e
  have hlt : i < xs.length := by have := (Array.getElem?_eq_some_iff.1 hf).1; omega
  have := hg i f hf
  rw [e.1, e.2, hk, List.getElem?_eq_getElem hlt] at this
  exact ⟨_, this⟩

/-- a struct that came in by value: its cells, and its fields' readings -/
theorem open_struct {r : Reach} {b0 base : Nat} {spare : Nat → Bool} {held : Bool} {t : TypeId} {fs : Array Field} {v : Value} {d : DataW H} {p : List MemPlace} (hs : P.underlying t = some (.struct fs)) (hv : Value.okWide P w r b0 t v) (h : DataW.Trod enc P w base spare held t v d p) :
    ∃ (cs : List Value) (n : Nat), v = .agg cs.toArray ∧ cs.length = P.cellsOf t ∧
      ∀ (i : Nat) (T : TypeId) (o k : Nat), fs[i]?.map (fun f => (f.type, f.offset)) = some (T, o) → P.cellsOf T = k → ∃ y, DataW.trod enc P w base spare held n T ((cs.drop o).take k) = some y := by
  obtain ⟨cs, rfl, hsz⟩ := okWide_struct hs hv
  obtain ⟨fuel, hf⟩ := h
  obtain ⟨n, hn⟩ := struct_cells hs hf
  exact ⟨cs.toList, n, by simp, by simpa using hsz, fun i T o k hi hk => by simpa [Value.cells] using hn i T o k hi hk⟩

/-- a slice that came in: nil, or elements of C cells each, of which 'ok' tells what they are -/
def CellRows (C : Nat) (ok : List Value → Prop) (w : World) (a : Option Addr) (len cap : Nat) : Prop :=
  (a = none ∧ len = 0 ∧ cap = 0) ∨
  ∃ x, a = some x ∧ len ≤ cap ∧ cap ≤ maxLen ∧ ∀ i, i < len → ∃ cs, cs.length = C ∧ ok cs ∧ ∀ j, j < C → w.cell? (x.add (i * C + j)) = cs[j]?

theorem cellRows_of {base fuel C : Nat} {t e : TypeId} {a : Option Addr} {len cap : Nat} {x : DataW H × List MemPlace} {ok : List Value → Prop} (ht : P.underlying t = some (.slice e)) (hc : P.cellsOf e = C)
    (hf : DataW.trod enc P w base (fun _ => true) true fuel t [.slice a len cap] = some x)
    (hok : ∀ (cs : List Value) (m : Nat) (y : DataW H × List MemPlace), cs.length = C → DataW.trod enc P w base (fun _ => true) true m e cs = some y → ok cs) : CellRows C ok w a len cap := by
  rcases Go.Deep.open_slice ht hf with ⟨hcs, _⟩ | ⟨y, l, cp, m, n, D, Pl, hcs, _, hl, hm, hmm, _, hi⟩
  · simp at hcs
    exact .inl hcs
  · simp at hcs
    obtain ⟨rfl, rfl, rfl⟩ := hcs
    refine .inr ⟨y, rfl, hl, hm, fun i hlt => ?_⟩
    obtain ⟨cs, h1, h2⟩ := hi i (by rw [hmm]; simp; omega)
    rw [hc] at h1
    obtain ⟨_, h3, h4⟩ := World.cells?_some h1
    refine ⟨cs, h3, hok cs n _ h3 h2, fun j hj => ?_⟩
    rw [← Go.Deep.add_add]
    exact h4 j hj
end

end Go.Proofs.YtdpmpmaepjgndaaGreat
namespace Go.Proofs.YtdpmpmaepjgndaaGreat
open Go.RowKit
set_option linter.unusedVariables false

/-- rows of C cells in a block: cell j of row i is g i j -/
def At (C : Nat) (g : Nat → Nat → Value) (n b o : Nat) (w : World) : Prop :=
  b < w.heap.size ∧ ∀ i, i < n → ∀ j, j < C → w.cell? ⟨b, o + i * C + j, none⟩ = some (g i j)
theorem At.below {C : Nat} {g : Nat → Nat → Value} {n b o : Nat} {w w2 : World} (h : At C g n b o w) (k : Below w.heap.size w w2) : At C g n b o w2 :=
  ⟨Nat.lt_of_lt_of_le h.1 k.size, fun i hi j hj => by rw [k.cell (p := ⟨b, o + i * C + j, none⟩) h.1]; exact h.2 i hi j hj⟩
/-- a slice of rows -/
def Sl (C : Nat) (g : Nat → Nat → Value) (n : Nat) (v : Value) (w : World) : Prop :=
  ∃ ao cap, v = .slice ao n cap ∧ n ≤ cap ∧ cap ≤ 9223372036854775807 ∧ (0 < n → ∃ b o, ao = some ⟨b, o, none⟩ ∧ At C g n b o w)
theorem Sl.below {C : Nat} {g : Nat → Nat → Value} {n : Nat} {v : Value} {w w2 : World} (h : Sl C g n v w) (k : Below w.heap.size w w2) : Sl C g n v w2 := by
  obtain ⟨ao, cap, e, h1, h2, h3⟩ := h
  exact ⟨ao, cap, e, h1, h2, fun hn => by obtain ⟨b, o, e2, ha⟩ := h3 hn; exact ⟨b, o, e2, ha.below k⟩⟩
theorem Sl.congr {C : Nat} {g g2 : Nat → Nat → Value} {n : Nat} {v : Value} {w : World} (h : Sl C g n v w) (e : ∀ i, i < n → ∀ j, j < C → g i j = g2 i j) : Sl C g2 n v w := by
  obtain ⟨ao, cap, ev, h1, h2, h3⟩ := h
  exact ⟨ao, cap, ev, h1, h2, fun hn => by
    obtain ⟨b, o, e2, ha⟩ := h3 hn
    exact ⟨b, o, e2, ha.1, fun i hi j hj => by rw [← e i hi j hj]; exact ha.2 i hi j hj⟩⟩

def gW (d : Nat → Int) : Nat → Nat → Value := fun i _ => .int .i64 (d i)
theorem At.one {g : Nat → Nat → Value} {n b o : Nat} {w : World} (h : At 1 g n b o w) (i : Nat) (hi : i < n) : w.cell? ⟨b, o + i, none⟩ = some (g i 0) := by
  have := h.2 i hi 0 (by omega)
  simpa using this
theorem bdrew (w : World) : Below w.heap.size w w.drew := (Below.refl _ _).drew

end Go.Proofs.YtdpmpmaepjgndaaGreat
namespace Go.Proofs.YtdpmpmaepjgndaaGreat
open Go.RowKit
set_option linter.unusedVariables false

/-- the cells of n rows of C -/
def rowCells (C : Nat) (g : Nat → Nat → Value) (n : Nat) : List Value := (List.range (n * C)).map fun k => g (k / C) (k % C)
theorem rowCells_len (C : Nat) (g : Nat → Nat → Value) (n : Nat) : (rowCells C g n).length = n * C := by simp [rowCells]
theorem rowCells_at {C : Nat} (g : Nat → Nat → Value) {n i j : Nat} (hi : i < n) (hj : j < C) : (rowCells C g n)[i * C + j]? = some (g i j) := by
  have h : i * C + j < n * C := by
    have : (i + 1) * C ≤ n * C := Nat.mul_le_mul_right C hi
    rw [Nat.add_mul, Nat.one_mul] at this
    omega
  have e1 : (i * C + j) / C = i := by
    rw [Nat.mul_comm, Nat.mul_add_div (by omega), Nat.div_eq_of_lt hj]; omega
  have e2 : (i * C + j) % C = j := by
    rw [Nat.mul_comm, Nat.mul_add_mod]; exact Nat.mod_eq_of_lt hj
  simp [rowCells, h, e1, e2]
theorem rowCells_of {C : Nat} (hC : 0 < C) (g : Nat → Nat → Value) {n k : Nat} {v : Value} (h : (rowCells C g n)[k]? = some v) : k < n * C ∧ k / C < n ∧ k % C < C ∧ v = g (k / C) (k % C) := by
  have hk : k < n * C := by
    rcases Nat.lt_or_ge k (n * C) with h' | h'
    · exact h'
    · rw [List.getElem?_eq_none (by rw [rowCells_len]; exact h')] at h; cases h
  refine ⟨hk, (Nat.div_lt_iff_lt_mul hC).2 hk, Nat.mod_lt _ hC, ?_⟩
  simp [rowCells, hk] at h
  exact h.symm

end Go.Proofs.YtdpmpmaepjgndaaGreat
namespace Go.Proofs.YtdpmpmaepjgndaaGreat
open Go.RowKit
set_option linter.unusedVariables false

theorem cell_block {w : World} {a : Addr} {v : Value} (h : w.cell? a = some v) : ∃ c t f, w.heap[a.block]? = some (.cells c t f) := by
  unfold World.cell? at h
  split at h
  · exact ⟨_, _, _, by assumption⟩
  · cases h
theorem own_kept {w w2 : World} {b : Nat} {E : TypeId} {C n : Nat} {v : Value} {xs : List Value} (h : w.ownsRow b E C v n xs) (k : ∀ g, v.ownBlock = some g → w2.heap[g]? = w.heap[g]?) : w2.ownsRow b E C v n xs := by
  obtain ⟨h1, h2⟩ := h
  refine ⟨h1, ?_⟩
  rcases h2 with h2 | ⟨g, cap, cur, rfl, r2, r3, r4⟩
  · exact .inl h2
  · exact .inr ⟨g, cap, cur, rfl, r2, by rw [k g rfl]; exact r3, r4⟩
theorem own_lt {w : World} {b : Nat} {E : TypeId} {C n : Nat} {v : Value} {xs : List Value} (h : w.ownsRow b E C v n xs) {g : Nat} (e : v.ownBlock = some g) : b ≤ g ∧ g < w.heap.size := h.lt g e
theorem own_below {u u2 : World} {b : Nat} {E : TypeId} {C n : Nat} {v : Value} {xs : List Value} (h : u.ownsRow b E C v n xs) (k : Below u.heap.size u u2) : u2.ownsRow b E C v n xs :=
  own_kept h fun g e => k.block g (own_lt h e).2
theorem rowCells_succ {C : Nat} (hC : 0 < C) (g : Nat → Nat → Value) (n : Nat) (l : List Value) (hl : l.length = C) (h : ∀ j, j < C → l[j]? = some (g n j)) : rowCells C g n ++ l = rowCells C g (n + 1) := by
  apply List.ext_getElem?
  intro k
  rcases Nat.lt_or_ge k (n * C) with hk | hk
  · rw [List.getElem?_append_left (by rw [rowCells_len]; exact hk)]
    have e : (n + 1) * C = n * C + C := by rw [Nat.add_mul, Nat.one_mul]
    simp [rowCells, hk, show k < (n + 1) * C by omega]
  · rw [List.getElem?_append_right (by rw [rowCells_len]; exact hk), rowCells_len]
    rcases Nat.lt_or_ge (k - n * C) C with h2 | h2
    · rw [h _ h2]
      have := rowCells_at g (n := n + 1) (i := n) (j := k - n * C) (by omega) h2
      rw [show n * C + (k - n * C) = k by omega] at this
      exact this.symm
    · rw [List.getElem?_eq_none (by omega), List.getElem?_eq_none (by rw [rowCells_len, Nat.add_mul, Nat.one_mul]; omega)]

/-- a row that was made is a slice of rows -/
theorem own_sl {u : World} {b : Nat} {E : TypeId} {C : Nat} {v : Value} {n : Nat} {g : Nat → Nat → Value} (h : u.ownsRow b E C v n (rowCells C g n)) : Sl C g n v u := by
  rcases h.2 with ⟨rfl, rfl⟩ | ⟨b, cap, cur, rfl, _, h3, h4, h5, h6, h7⟩
  · exact ⟨none, 0, rfl, Nat.le_refl _, by omega, fun h => absurd h (Nat.lt_irrefl 0)⟩
  · refine ⟨_, cap, rfl, h4, by unfold maxLen at h5; omega, fun _ => ⟨b, 0, rfl, lt_of_block h3, fun i hi j hj => ?_⟩⟩
    have hk : i * C + j < n * C := by
      have : (i + 1) * C ≤ n * C := Nat.mul_le_mul_right C hi
      rw [Nat.add_mul, Nat.one_mul] at this
      omega
    rw [Lib.cell_of_heap h3, Nat.zero_add, ← Array.getElem?_toList]
    have e := rowCells_at g hi hj
    rw [← h7, List.getElem?_take, if_pos hk] at e
    exact e

end Go.Proofs.YtdpmpmaepjgndaaGreat
namespace Go.Proofs.YtdpmpmaepjgndaaGreat
open Go.RowKit
set_option linter.unusedVariables false
set_option maxRecDepth 100000

/-- the world with the blocks of S hidden -/
def HdS (S : Nat → Bool) (w : World) : World := { w with heap := w.heap.mapIdx fun i o => if S i then .finalizers #[] none else o }
theorem HdS.size (S : Nat → Bool) (w : World) : (HdS S w).heap.size = w.heap.size := by simp [HdS]
theorem HdS.block (S : Nat → Bool) (k : Nat) (w : World) : (HdS S w).heap[k]? = (w.heap[k]?).map (fun o => if S k then Obj.finalizers #[] none else o) := by
  simp only [HdS, Array.getElem?_mapIdx]
theorem HdS.other {S : Nat → Bool} {k : Nat} (w : World) (h : S k = false) : (HdS S w).heap[k]? = w.heap[k]? := by
  rw [HdS.block, h]
  cases w.heap[k]? <;> rfl
theorem HdS.hid {S : Nat → Bool} {k : Nat} {w w2 : World} (h : S k = true) (h1 : k < w.heap.size) (h2 : k < w2.heap.size) : (HdS S w2).heap[k]? = (HdS S w).heap[k]? := by
  rw [HdS.block, HdS.block, h, Array.getElem?_eq_getElem h1, Array.getElem?_eq_getElem h2]; rfl
theorem HdS.cells {S : Nat → Bool} {k : Nat} {w : World} {c : Array Value} {t : TypeId} {f : Nat × Nat} (h : (HdS S w).heap[k]? = some (.cells c t f)) : S k = false ∧ w.heap[k]? = some (.cells c t f) := by
  cases e : S k with
  | false => exact ⟨rfl, by rwa [HdS.other w e] at h⟩
  | true =>
    rw [HdS.block, e] at h
    cases hw : w.heap[k]? with
    | none => rw [hw] at h; cases h
    | some o => rw [hw] at h; simp at h
theorem HdS.cell {S : Nat → Bool} {w : World} {a : Addr} {v : Value} (h : (HdS S w).cell? a = some v) : w.cell? a = some v := by
  obtain ⟨c, t, f, e⟩ := cell_block h
  obtain ⟨h1, h2⟩ := HdS.cells e
  rw [← h]
  exact World.cell?_of_block (by rw [e, h2])
theorem HdS.below {S : Nat → Bool} {B : Nat} {w w2 : World} (h : Below B w w2) : Below B (HdS S w) (HdS S w2) :=
  ⟨h.os, h.tape, h.output, by rw [HdS.size, HdS.size]; exact h.size, fun k hk => by rw [HdS.block, HdS.block, h.block k hk]⟩
theorem Sl.hds {S : Nat → Bool} {u : World} {C n : Nat} {g : Nat → Nat → Value} {v : Value} (h : Sl C g n v (HdS S u)) : Sl C g n v u := by
  obtain ⟨a, c, e, h1, h2, h3⟩ := h
  refine ⟨a, c, e, h1, h2, fun h0 => ?_⟩
  obtain ⟨b, o, e2, h4, h5⟩ := h3 h0
  exact ⟨b, o, e2, by rw [HdS.size] at h4; exact h4, fun i hi j hj => HdS.cell (h5 i hi j hj)⟩
/-- all but the blocks of S is as it was -/
def KpS (S : Nat → Bool) (w w2 : World) : Prop := Below w.heap.size (HdS S w) (HdS S w2)
theorem KpS.refl (S : Nat → Bool) (w : World) : KpS S w w := Below.refl _ _
theorem KpS.size {S : Nat → Bool} {w w2 : World} (h : KpS S w w2) : w.heap.size ≤ w2.heap.size := by have := Below.size h; rwa [HdS.size, HdS.size] at this
theorem KpS.trans {S : Nat → Bool} {a b c : World} (h : KpS S a b) (k : KpS S b c) : KpS S a c := Below.trans h (Below.mono k h.size)
theorem KpS.of {S : Nat → Bool} {a b : World} (h : Below a.heap.size a b) : KpS S a b := HdS.below h
theorem KpS.on {S : Nat → Bool} {a b c : World} (h : KpS S a b) (k : Below b.heap.size b c) : KpS S a c := h.trans (KpS.of k)
theorem KpS.hd {S : Nat → Bool} {u u2 : World} (k : KpS S u u2) : Below (HdS S u).heap.size (HdS S u) (HdS S u2) := by rw [HdS.size]; exact k
theorem KpS.blk {S : Nat → Bool} {k : Nat} {a b : World} (h : KpS S a b) (hk : k < a.heap.size) (hne : S k = false) : b.heap[k]? = a.heap[k]? := by
  have := Below.block h k hk
  rwa [HdS.other _ hne, HdS.other _ hne] at this
theorem KpS.mono {S T : Nat → Bool} {a b : World} (h : KpS S a b) (e : ∀ k, S k = true → T k = true) : KpS T a b := by
  have k : Below a.heap.size (HdS S a) (HdS S b) := h
  refine ⟨k.os, k.tape, k.output, by rw [HdS.size, HdS.size]; exact h.size, fun i hi => ?_⟩
  cases c : T i with
  | true => exact HdS.hid c hi (Nat.lt_of_lt_of_le hi h.size)
  | false =>
    rw [HdS.other _ c, HdS.other _ c]
    refine h.blk hi ?_
    cases c2 : S i with
    | false => rfl
    | true => rw [e i c2] at c; cases c
theorem KpS.bot {S : Nat → Bool} {B : Nat} {a b : World} (h : KpS S a b) (hB : B ≤ a.heap.size) (ht : ∀ k, k < B → S k = false) : Below B a b := by
  have k : Below a.heap.size (HdS S a) (HdS S b) := h
  exact ⟨k.os, k.tape, k.output, h.size, fun i hi => h.blk (by omega) (ht i hi)⟩
theorem KpS.grown {S : Nat → Bool} {b : Nat} {w w2 : World} (h : w.grownBy w2 (some b)) (hb : S b = true) : KpS S w w2 := by
  refine ⟨h.os, h.tape, h.output, by rw [HdS.size, HdS.size]; exact h.size, fun k hk => ?_⟩
  by_cases e : k = b
  · subst e; exact HdS.hid hb hk (Nat.lt_of_lt_of_le hk h.size)
  · rw [HdS.block, HdS.block, h.block k hk (fun e2 => e (by injection e2))]
theorem KpS.set {S : Nat → Bool} {b : Nat} (hb : S b = true) (o : Nat) (v : Value) (w : World) : KpS S w (w.setCell ⟨b, o, none⟩ v) := by
  refine ⟨rfl, rfl, rfl, by rw [HdS.size, HdS.size, World.size_setCell]; exact Nat.le_refl _, fun k hk => ?_⟩
  by_cases e : k = b
  · subst e; exact HdS.hid hb hk (by rw [World.size_setCell]; exact hk)
  · rw [HdS.block, HdS.block, Below.heap_setCell _ _ _ _ e]
theorem KpS.sets {S : Nat → Bool} {b : Nat} (hb : S b = true) : ∀ (l : List Value) (o : Nat) (w : World), KpS S w (w.setCells b o l)
  | [], _, w => KpS.refl S w
  | v :: l, o, w => (KpS.set hb o v w).trans (KpS.sets hb l (o + 1) _)

end Go.Proofs.YtdpmpmaepjgndaaGreat
namespace Go.Proofs.YtdpmpmaepjgndaaGreat
open Go.RowKit
set_option linter.unusedVariables false
set_option maxRecDepth 100000

/-- the slice v: n elements of C cells, in block b from its beginning on -/
structure RowB (T : TypeId) (C B : Nat) (G : Nat → Nat → Value) (n : Nat) (v : Value) (u : World) : Prop where
  v : ∃ c, v = .slice (some ⟨B, 0, none⟩) n c ∧ n ≤ c ∧ c ≤ 9223372036854775807
  b : ∃ cs, u.heap[B]? = some (.cells cs T (0, 0))
  c : ∀ i, i < n → ∀ j, j < C → u.cell? ⟨B, i * C + j, none⟩ = some (G i j)
section
variable {T : TypeId} {C b n : Nat} {G : Nat → Nat → Value} {v : Value} {u u2 : World}
theorem RowB.kept (h : RowB T C b G n v u) (e : u2.heap[b]? = u.heap[b]?) : RowB T C b G n v u2 :=
  ⟨h.v, by rw [e]; exact h.b, fun i hi j hj => by have := h.c i hi j hj; rw [← this]; exact World.cell?_of_block e⟩
theorem RowB.congr {G2 : Nat → Nat → Value} (h : RowB T C b G n v u) (e : ∀ i, i < n → ∀ j, j < C → G2 i j = G i j) : RowB T C b G2 n v u :=
  ⟨h.v, h.b, fun i hi j hj => by rw [e i hi j hj]; exact h.c i hi j hj⟩
theorem RowB.of {base : Nat} (h : u.ownsRow base T C v n (rowCells C G n)) (hn : 0 < n) : ∃ b, base ≤ b ∧ v.ownBlock = some b ∧ RowB T C b G n v u := by
  have hs := own_sl h
  rcases h.2 with ⟨_, h0⟩ | ⟨g, cap, cur, rfl, h1, h2, h3, h4, h5, h6⟩
  · omega
  · obtain ⟨a, c, e, s1, s2, s3⟩ := hs
    simp only [Value.slice.injEq, true_and] at e
    obtain ⟨rfl, rfl⟩ := e
    obtain ⟨b, o, e2, hA⟩ := s3 hn
    simp only [Option.some.injEq, Addr.mk.injEq, and_true] at e2
    obtain ⟨rfl, rfl⟩ := e2
    refine ⟨g, h1, rfl, ⟨_, rfl, s1, s2⟩, ⟨_, h2⟩, fun i hi j hj => ?_⟩
    have := hA.2 i hi j hj
    rwa [Nat.zero_add] at this
theorem RowB.lt (h : RowB T C b G n v u) : b < u.heap.size := by
  obtain ⟨cs, e⟩ := h.b
  exact lt_of_block e
theorem RowB.frozen (h : RowB T C b G n v u) (o : Nat) : u.frozen? ⟨b, o, none⟩ = false := by
  obtain ⟨cs, e⟩ := h.b
  simp [World.frozen?, e]
/-- a store of one cell -/
theorem RowB.set1 (h : RowB T C b G n v u) {i j : Nat} (hi : i < n) (hj : j < C) (x : Value) {G2 : Nat → Nat → Value}
    (h0 : G2 i j = x) (ho : ∀ i2, i2 < n → ∀ j2, j2 < C → ¬ (i2 = i ∧ j2 = j) → G2 i2 j2 = G i2 j2) : RowB T C b G2 n v (u.setCell ⟨b, i * C + j, none⟩ x) := by
  obtain ⟨cs, e⟩ := h.b
  refine ⟨h.v, ⟨_, Joins.block_setCell e x⟩, fun i2 hi2 j2 hj2 => ?_⟩
  by_cases c : i2 = i ∧ j2 = j
  · obtain ⟨rfl, rfl⟩ := c
    have := World.cell?_setCells_in b [x] (i2 * C + j2) u (fun q hq => by
      obtain rfl : q = 0 := by simpa using hq
      rw [Nat.add_zero, h.c i2 hi j2 hj]; rfl) 0 (by simp)
    rw [Nat.add_zero] at this
    rw [h0]; exact this
  · rw [ho i2 hi2 j2 hj2 c]
    have := World.cell?_setCells_out b [x] (i * C + j) u ⟨b, i2 * C + j2, none⟩ (fun _ _ => by
      show i2 * C + j2 < i * C + j ∨ i * C + j + 1 ≤ i2 * C + j2
      have hne : i2 * C + j2 ≠ i * C + j := by
        intro he
        apply c
        have d1 : i2 = i := by
          have := congrArg (· / C) he
          simp only [Nat.mul_comm _ C, Nat.mul_add_div (show 0 < C by omega), Nat.div_eq_of_lt hj2, Nat.div_eq_of_lt hj, Nat.add_zero] at this
          exact this
        subst d1
        exact ⟨rfl, by omega⟩
      omega)
    have e3 : u.setCells b (i * C + j) [x] = u.setCell ⟨b, i * C + j, none⟩ x := rfl
    rw [← e3, this]
    exact h.c i2 hi2 j2 hj2
end
section
variable {T : TypeId} {b n : Nat} {G : Nat → Nat → Value} {v : Value} {u : World}
theorem RowB.cell1 (h : RowB T 1 b G n v u) {i : Nat} (hi : i < n) : u.cell? ⟨b, i, none⟩ = some (G i 0) := by
  have := h.c i hi 0 (by omega)
  rwa [Nat.mul_one, Nat.add_zero] at this
theorem RowB.put1 (h : RowB T 1 b G n v u) {i : Nat} (hi : i < n) (x : Value) {G2 : Nat → Nat → Value} (h0 : G2 i 0 = x) (ho : ∀ k, k < n → k ≠ i → G2 k 0 = G k 0) : RowB T 1 b G2 n v (u.setCell ⟨b, i, none⟩ x) := by
  have := h.set1 (j := 0) hi (by omega) x (G2 := G2) h0 (fun i2 h2 j2 hj2 hne => by
    obtain rfl : j2 = 0 := by omega
    exact ho i2 h2 fun e => hne ⟨e, rfl⟩)
  rwa [Nat.mul_one, Nat.add_zero] at this
end

end Go.Proofs.YtdpmpmaepjgndaaGreat
namespace Go.Proofs.YtdpmpmaepjgndaaGreat
open Go.RowKit
set_option linter.unusedVariables false
set_option linter.unusedSimpArgs false
set_option maxRecDepth 100000

theorem heap_lt12 {u : World} {B : Nat} {o : Obj} (h : u.heap[B]? = some o) : B < u.heap.size := (Array.getElem?_eq_some_iff.1 h).1
theorem set_else12 {w : World} {P o q : Nat} (v : Value) (h : q ≠ P) : (w.setCell ⟨P, o, none⟩ v).heap[q]? = w.heap[q]? := Below.heap_setCell _ _ _ _ h
theorem infoInt12 : (Tryz.prog.info? 3).map (fun i => (i.zero, i.size, i.bytes)) = some (some (.int .i64 0), 1, 8) := by kernel_rfl
def gK (K : Nat → Nat) : Nat → Nat → Value := fun i _ => .int .i64 (K i : Int)
/-- n numbers in a row of their own, from base on -/
theorem zrow_up {n base : Nat} {v : Value} {a b : World} (h : n = 0 ∧ ∃ ao c, v = .slice ao 0 c ∧ c ≤ 9223372036854775807 ∧ ∀ p, ao = some p → base ≤ p.block ∧ p.block < a.heap.size) (k : a.heap.size ≤ b.heap.size) : n = 0 ∧ ∃ ao c, v = .slice ao 0 c ∧ c ≤ 9223372036854775807 ∧ ∀ p, ao = some p → base ≤ p.block ∧ p.block < b.heap.size := by
  obtain ⟨h0, ao, c, e, hc, hp⟩ := h
  exact ⟨h0, ao, c, e, hc, fun p h1 => ⟨(hp p h1).1, Nat.lt_of_lt_of_le (hp p h1).2 k⟩⟩
def KRow (base n : Nat) (K : Nat → Nat) (v : Value) (u : World) : Prop := (n = 0 ∧ ∃ a c, v = .slice a 0 c ∧ c ≤ 9223372036854775807 ∧ ∀ p, a = some p → base ≤ p.block ∧ p.block < u.heap.size) ∨ (0 < n ∧ ∃ b c, v = .slice (some ⟨b, 0, none⟩) n c ∧ base ≤ b ∧ RowB 3 1 b (gK K) n v u)
section
variable {base n : Nat} {K K2 : Nat → Nat} {v : Value} {u u2 : World}
theorem KRow.below (h : KRow base n K v u) (k : Below u.heap.size u u2) : KRow base n K v u2 := by
  rcases h with h | ⟨h0, b, c, e, hb, hr⟩
  · exact .inl (zrow_up h k.size)
  · exact .inr ⟨h0, b, c, e, hb, hr.kept (k.block _ hr.lt)⟩
theorem KRow.kept (h : KRow base n K v u) (S : Nat → Bool) (hS : ∀ b, v.ownBlock = some b → S b = false) (k : KpS S u u2) : KRow base n K v u2 := by
  rcases h with h | ⟨h0, b, c, e, hb, hr⟩
  · exact .inl (zrow_up h k.size)
  · exact .inr ⟨h0, b, c, e, hb, hr.kept (k.blk hr.lt (hS b (by rw [e]; rfl)))⟩
theorem KRow.congr (h : KRow base n K v u) (e : ∀ i, i < n → K2 i = K i) : KRow base n K2 v u := by
  rcases h with h | ⟨h0, b, c, e1, hb, hr⟩
  · exact .inl h
  · exact .inr ⟨h0, b, c, e1, hb, hr.congr fun i hi j hj => by unfold gK; rw [e i hi]⟩
theorem KRow.of {xs : List Value} (h : u.ownsRow base 3 1 v n xs) (hx : xs = rowCells 1 (gK K) n) : KRow base n K v u := by
  subst hx
  by_cases h0 : n = 0
  · subst h0
    rcases h.2 with ⟨e, _⟩ | ⟨g, cap, cur, e, hb, hg, _, hm, _⟩
    · exact .inl ⟨rfl, _, _, e, by omega, fun p hp => by cases hp⟩
    · exact .inl ⟨rfl, _, _, e, by unfold maxLen at hm; omega, fun p hp => by
        simp only [Option.some.injEq] at hp
        subst hp
        exact ⟨hb, lt_of_block hg⟩⟩
  · obtain ⟨b, hb, hv, hr⟩ := RowB.of h (by omega)
    obtain ⟨c, e, _⟩ := hr.v
    exact .inr ⟨by omega, b, c, e, hb, hr⟩
theorem KRow.sl (h : KRow base n K v u) : Sl 1 (gK K) n v u := by
  rcases h with ⟨rfl, a, c, rfl, hc, _⟩ | ⟨h0, b, c, rfl, hb, hr⟩
  · exact ⟨a, c, rfl, Nat.zero_le _, hc, fun h => absurd h (Nat.lt_irrefl 0)⟩
  · obtain ⟨c2, e, h1, h2⟩ := hr.v
    exact ⟨_, _, e, h1, h2, fun _ => ⟨b, 0, rfl, hr.lt, fun i hi j hj => by rw [Nat.zero_add]; exact hr.c i hi j hj⟩⟩
theorem KRow.look {a : Option Addr} {c i : Nat} (h : KRow base n K (.slice a n c) u) (hi : i < n) : ∃ b, a = some ⟨b, 0, none⟩ ∧ u.cell? ⟨b, i, none⟩ = some (.int .i64 (K i : Int)) := by
  rcases h with ⟨rfl, _⟩ | ⟨h0, b, c2, e, h1, hr⟩
  · omega
  · simp only [Value.slice.injEq, true_and] at e
    obtain ⟨rfl, rfl⟩ := e
    exact ⟨b, rfl, hr.cell1 hi⟩
end
section
variable {base n : Nat} {K : Nat → Nat} {u : World}
theorem KRow.mono {base2 : Nat} {v : Value} (h : KRow base n K v u) (hb : base2 ≤ base) : KRow base2 n K v u := by
  rcases h with ⟨hr, a, c, e1, hc, hp⟩ | ⟨h0, b, c, e1, h1, hr⟩
  · exact .inl ⟨hr, a, c, e1, hc, fun p h1 => ⟨Nat.le_trans hb (hp p h1).1, (hp p h1).2⟩⟩
  · exact .inr ⟨h0, b, c, e1, Nat.le_trans hb h1, hr⟩
end
theorem lit_cells12 (w : World) (x : Value) : ∀ j v, [x][j]? = some v → (w.alloc (.cells #[x] 3)).cell? ((⟨w.heap.size, 0, none⟩ : Addr).add j) = some v := by
  intro j v hj
  rcases j with _ | j
  · simp only [List.getElem?_cons_zero, Option.some.injEq] at hj
    subst hj
    rw [add_plain, Lib.cell_of_heap (heap_alloc_new w _)]
    rfl
  · simp at hj
/-- a list of numbers as cells -/
def natV (l : List Nat) : List Value := l.map fun (i : Nat) => .int .i64 (i : Int)
theorem natV_row (l : List Nat) : natV l = rowCells 1 (gK fun i => l.getD i 0) l.length := by
  apply List.ext_getElem?
  intro k
  have hl : (rowCells 1 (gK fun i => l.getD i 0) l.length).length = l.length := by rw [rowCells_len, Nat.mul_one]
  rcases Nat.lt_or_ge k l.length with h | h
  · have e := rowCells_at (gK fun i => l.getD i 0) (C := 1) (n := l.length) (i := k) (j := 0) h (by omega)
    rw [Nat.mul_one, Nat.add_zero] at e
    rw [e]
    show _ = some (Value.int .i64 ((l.getD k 0 : Nat) : Int))
    unfold natV
    rw [List.getElem?_map, List.getElem?_eq_getElem h, List.getD_eq_getElem?_getD, List.getElem?_eq_getElem h]
    rfl
  · rw [List.getElem?_eq_none (by unfold natV; simpa using h), List.getElem?_eq_none (by rw [hl]; exact h)]
/-- a list of numbers in memory from b on -/
structure NewL (b : Nat) (l : List Nat) (v : Value) (u : World) : Prop where
  sl : Sl 1 (gK fun i => l.getD i 0) l.length v u
  lo : ∀ g, v.ownBlock = some g → b ≤ g ∧ g < u.heap.size
theorem NewL.below {b : Nat} {l : List Nat} {v : Value} {u u2 : World} (h : NewL b l v u) (k : Below u.heap.size u u2) : NewL b l v u2 := ⟨h.sl.below k, fun g hg => ⟨(h.lo g hg).1, Nat.lt_of_lt_of_le (h.lo g hg).2 k.size⟩⟩
theorem NewL.of {b : Nat} {l : List Nat} {v : Value} {u : World} (h : u.ownsRow b 3 1 v l.length (natV l)) : NewL b l v u := by
  rw [natV_row] at h
  exact ⟨own_sl h, fun g hg => h.lt g hg⟩
theorem NewL.kept {b : Nat} {l : List Nat} {v : Value} {u u2 : World} {S : Nat → Bool} (h : NewL b l v u) (hS : ∀ g, v.ownBlock = some g → S g = false) (k : KpS S u u2) : NewL b l v u2 := by
  obtain ⟨ao, cap, e, h1, h2, h3⟩ := h.sl
  refine ⟨⟨ao, cap, e, h1, h2, fun hn => ?_⟩, fun g hg => ⟨(h.lo g hg).1, Nat.lt_of_lt_of_le (h.lo g hg).2 k.size⟩⟩
  obtain ⟨b1, o, e1, hlt, hc⟩ := h3 hn
  have hb := k.blk hlt (hS b1 (by rw [e, e1]; rfl))
  exact ⟨b1, o, e1, Nat.lt_of_lt_of_le hlt k.size, fun i hi j hj => by rw [World.cell?_of_block hb]; exact hc i hi j hj⟩

end Go.Proofs.YtdpmpmaepjgndaaGreat
