/- Rows that a call made, each in a block of its own: what stays of them when memory is written elsewhere. All of memory with a set of blocks hidden. A row in a block of its own that is written again and again: how its cells are told, a store of an element or of a cell. Whole numbers from 0 on in a row of their own; a list of them in new memory. (Moved out of FmMem, FmRef1, FmRef2, FmBoth, FmP2, FmP3.) A row of bytes that the call owns, of which nothing is frozen (also one that a conversion '[]byte(s)' has made, whose mark lies behind its end): append of a string's bytes to it. append of a row's cells to a row of bytes; a text's bytes as cells. (Moved out of DkFill, DkMem.) -/
import Derived.Laws.OwnMore
import Derived.Laws.IdiomCopy
import Derived.Lib.Builder
import Derived.Laws.Tables
import Derived.Lib.FrozenHead
import Derived.Laws.IdiomStrings
import Derived.Deep.AppendSrc
import Derived.Laws.BytesArg
import Derived.Test.YtmflkkkbahghgaaGreatYZ5
import Derived.Test.YtmflkkkbahghgaaGreatYZ0
namespace Go.Proofs.YtmflkkkbahghgaaGreat
open Go.RowKit
set_option linter.unusedVariables false

theorem cell_block {w : World} {a : Addr} {v : Value} (h : w.cell? a = some v) : ∃ c t f, w.heap[a.block]? = some (.cells c t f) := by
  unfold World.cell? at h
  split at h
  · exact ⟨_, _, _, by assumption⟩
  · cases h
theorem own_kept {w w2 : World} {b : Nat} {E : TypeId} {C n : Nat} {v : Value} {xs : List Value} (h : w.ownsRow b E C v n xs) (k : ∀ g, v.ownBlock = some g → w2.heap[g]? = w.heap[g]?) : w2.ownsRow b E C v n xs := by
  obtain ⟨h1, h2⟩ := h
  refine ⟨h1, ?_⟩
  rcases h2 with h2 | ⟨g, cap, cur, rfl, r2, r3, r4⟩
  · exact .inl h2
  · exact .inr ⟨g, cap, cur, rfl, r2, by rw [k g rfl]; exact r3, r4⟩
theorem own_lt {w : World} {b : Nat} {E : TypeId} {C n : Nat} {v : Value} {xs : List Value} (h : w.ownsRow b E C v n xs) {g : Nat} (e : v.ownBlock = some g) : b ≤ g ∧ g < w.heap.size := h.lt g e
theorem own_below {u u2 : World} {b : Nat} {E : TypeId} {C n : Nat} {v : Value} {xs : List Value} (h : u.ownsRow b E C v n xs) (k : Below u.heap.size u u2) : u2.ownsRow b E C v n xs :=
  own_kept h fun g e => k.block g (own_lt h e).2
theorem rowCells_succ {C : Nat} (hC : 0 < C) (g : Nat → Nat → Value) (n : Nat) (l : List Value) (hl : l.length = C) (h : ∀ j, j < C → l[j]? = some (g n j)) : rowCells C g n ++ l = rowCells C g (n + 1) := by
  apply List.ext_getElem?
  intro k
  rcases Nat.lt_or_ge k (n * C) with hk | hk
  · rw [List.getElem?_append_left (by rw [rowCells_len]; exact hk)]
    have e : (n + 1) * C = n * C + C := by rw [Nat.add_mul, Nat.one_mul]
    simp [rowCells, hk, show k < (n + 1) * C by omega]
  · rw [List.getElem?_append_right (by rw [rowCells_len]; exact hk), rowCells_len]
    rcases Nat.lt_or_ge (k - n * C) C with h2 | h2
    · rw [h _ h2]
      have := rowCells_at g (n := n + 1) (i := n) (j := k - n * C) (by omega) h2
      rw [show n * C + (k - n * C) = k by omega] at this
      exact this.symm
    · rw [List.getElem?_eq_none (by omega), List.getElem?_eq_none (by rw [rowCells_len, Nat.add_mul, Nat.one_mul]; omega)]

/-- a row that was made is a slice of rows -/
theorem own_sl {u : World} {b : Nat} {E : TypeId} {C : Nat} {v : Value} {n : Nat} {g : Nat → Nat → Value} (h : u.ownsRow b E C v n (rowCells C g n)) : Sl C g n v u := by
  rcases h.2 with ⟨rfl, rfl⟩ | ⟨b, cap, cur, rfl, _, h3, h4, h5, h6, h7⟩
  · exact ⟨none, 0, rfl, Nat.le_refl _, by omega, fun h => absurd h (Nat.lt_irrefl 0)⟩
  · refine ⟨_, cap, rfl, h4, by unfold maxLen at h5; omega, fun _ => ⟨b, 0, rfl, lt_of_block h3, fun i hi j hj => ?_⟩⟩
    have hk : i * C + j < n * C := by
      have : (i + 1) * C ≤ n * C := Nat.mul_le_mul_right C hi
      rw [Nat.add_mul, Nat.one_mul] at this
      omega
    rw [Lib.cell_of_heap h3, Nat.zero_add, ← Array.getElem?_toList]
    have e := rowCells_at g hi hj
    rw [← h7, List.getElem?_take, if_pos hk] at e
    exact e

end Go.Proofs.YtmflkkkbahghgaaGreat
namespace Go.Proofs.YtmflkkkbahghgaaGreat
open Go.RowKit
set_option linter.unusedVariables false
set_option maxRecDepth 100000

/-- the world with the blocks of S hidden -/
def HdS (S : Nat → Bool) (w : World) : World := { w with heap := w.heap.mapIdx fun i o => if S i then .finalizers #[] none else o }
theorem HdS.size (S : Nat → Bool) (w : World) : (HdS S w).heap.size = w.heap.size := by simp [HdS]
theorem HdS.block (S : Nat → Bool) (k : Nat) (w : World) : (HdS S w).heap[k]? = (w.heap[k]?).map (fun o => if S k then Obj.finalizers #[] none else o) := by
  simp only [HdS, Array.getElem?_mapIdx]
theorem HdS.other {S : Nat → Bool} {k : Nat} (w : World) (h : S k = false) : (HdS S w).heap[k]? = w.heap[k]? := by
  rw [HdS.block, h]
  cases w.heap[k]? <;> rfl
theorem HdS.hid {S : Nat → Bool} {k : Nat} {w w2 : World} (h : S k = true) (h1 : k < w.heap.size) (h2 : k < w2.heap.size) : (HdS S w2).heap[k]? = (HdS S w).heap[k]? := by
  rw [HdS.block, HdS.block, h, Array.getElem?_eq_getElem h1, Array.getElem?_eq_getElem h2]; rfl
theorem HdS.cells {S : Nat → Bool} {k : Nat} {w : World} {c : Array Value} {t : TypeId} {f : Nat × Nat} (h : (HdS S w).heap[k]? = some (.cells c t f)) : S k = false ∧ w.heap[k]? = some (.cells c t f) := by
  cases e : S k with
  | false => exact ⟨rfl, by rwa [HdS.other w e] at h⟩
  | true =>
    rw [HdS.block, e] at h
    cases hw : w.heap[k]? with
    | none => rw [hw] at h; cases h
    | some o => rw [hw] at h; simp at h
theorem HdS.cell {S : Nat → Bool} {w : World} {a : Addr} {v : Value} (h : (HdS S w).cell? a = some v) : w.cell? a = some v := by
  obtain ⟨c, t, f, e⟩ := cell_block h
  obtain ⟨h1, h2⟩ := HdS.cells e
  rw [← h]
  exact World.cell?_of_block (by rw [e, h2])
theorem HdS.below {S : Nat → Bool} {B : Nat} {w w2 : World} (h : Below B w w2) : Below B (HdS S w) (HdS S w2) :=
  ⟨h.os, h.tape, h.output, by rw [HdS.size, HdS.size]; exact h.size, fun k hk => by rw [HdS.block, HdS.block, h.block k hk]⟩
theorem Sl.hds {S : Nat → Bool} {u : World} {C n : Nat} {g : Nat → Nat → Value} {v : Value} (h : Sl C g n v (HdS S u)) : Sl C g n v u := by
  obtain ⟨a, c, e, h1, h2, h3⟩ := h
  refine ⟨a, c, e, h1, h2, fun h0 => ?_⟩
  obtain ⟨b, o, e2, h4, h5⟩ := h3 h0
  exact ⟨b, o, e2, by rw [HdS.size] at h4; exact h4, fun i hi j hj => HdS.cell (h5 i hi j hj)⟩
/-- all but the blocks of S is as it was -/
def KpS (S : Nat → Bool) (w w2 : World) : Prop := Below w.heap.size (HdS S w) (HdS S w2)
theorem KpS.refl (S : Nat → Bool) (w : World) : KpS S w w := Below.refl _ _
theorem KpS.size {S : Nat → Bool} {w w2 : World} (h : KpS S w w2) : w.heap.size ≤ w2.heap.size := by have := Below.size h; rwa [HdS.size, HdS.size] at this
theorem KpS.trans {S : Nat → Bool} {a b c : World} (h : KpS S a b) (k : KpS S b c) : KpS S a c := Below.trans h (Below.mono k h.size)
theorem KpS.of {S : Nat → Bool} {a b : World} (h : Below a.heap.size a b) : KpS S a b := HdS.below h
theorem KpS.on {S : Nat → Bool} {a b c : World} (h : KpS S a b) (k : Below b.heap.size b c) : KpS S a c := h.trans (KpS.of k)
theorem KpS.low {S : Nat → Bool} {a b c : World} (h : KpS S a b) (k : Below a.heap.size b c) : KpS S a c := Below.trans h (HdS.below k)
theorem KpS.hd {S : Nat → Bool} {u u2 : World} (k : KpS S u u2) : Below (HdS S u).heap.size (HdS S u) (HdS S u2) := by rw [HdS.size]; exact k
theorem KpS.blk {S : Nat → Bool} {k : Nat} {a b : World} (h : KpS S a b) (hk : k < a.heap.size) (hne : S k = false) : b.heap[k]? = a.heap[k]? := by
  have := Below.block h k hk
  rwa [HdS.other _ hne, HdS.other _ hne] at this
theorem KpS.mono {S T : Nat → Bool} {a b : World} (h : KpS S a b) (e : ∀ k, S k = true → T k = true) : KpS T a b := by
  have k : Below a.heap.size (HdS S a) (HdS S b) := h
  refine ⟨k.os, k.tape, k.output, by rw [HdS.size, HdS.size]; exact h.size, fun i hi => ?_⟩
  cases c : T i with
  | true => exact HdS.hid c hi (Nat.lt_of_lt_of_le hi h.size)
  | false =>
    rw [HdS.other _ c, HdS.other _ c]
    refine h.blk hi ?_
    cases c2 : S i with
    | false => rfl
    | true => rw [e i c2] at c; cases c
theorem KpS.bot {S : Nat → Bool} {B : Nat} {a b : World} (h : KpS S a b) (hB : B ≤ a.heap.size) (ht : ∀ k, k < B → S k = false) : Below B a b := by
  have k : Below a.heap.size (HdS S a) (HdS S b) := h
  exact ⟨k.os, k.tape, k.output, h.size, fun i hi => h.blk (by omega) (ht i hi)⟩
theorem KpS.grown {S : Nat → Bool} {b : Nat} {w w2 : World} (h : w.grownBy w2 (some b)) (hb : S b = true) : KpS S w w2 := by
  refine ⟨h.os, h.tape, h.output, by rw [HdS.size, HdS.size]; exact h.size, fun k hk => ?_⟩
  by_cases e : k = b
  · subst e; exact HdS.hid hb hk (Nat.lt_of_lt_of_le hk h.size)
  · rw [HdS.block, HdS.block, h.block k hk (fun e2 => e (by injection e2))]
theorem KpS.set {S : Nat → Bool} {b : Nat} (hb : S b = true) (o : Nat) (v : Value) (w : World) : KpS S w (w.setCell ⟨b, o, none⟩ v) := by
  refine ⟨rfl, rfl, rfl, by rw [HdS.size, HdS.size, World.size_setCell]; exact Nat.le_refl _, fun k hk => ?_⟩
  by_cases e : k = b
  · subst e; exact HdS.hid hb hk (by rw [World.size_setCell]; exact hk)
  · rw [HdS.block, HdS.block, Below.heap_setCell _ _ _ _ e]
theorem KpS.sets {S : Nat → Bool} {b : Nat} (hb : S b = true) : ∀ (l : List Value) (o : Nat) (w : World), KpS S w (w.setCells b o l)
  | [], _, w => KpS.refl S w
  | v :: l, o, w => (KpS.set hb o v w).trans (KpS.sets hb l (o + 1) _)

end Go.Proofs.YtmflkkkbahghgaaGreat
namespace Go.Proofs.YtmflkkkbahghgaaGreat
open Go.RowKit
set_option linter.unusedVariables false
set_option maxRecDepth 100000

/-- the slice v: n elements of C cells, in block b from its beginning on -/
structure RowB (T : TypeId) (C B : Nat) (G : Nat → Nat → Value) (n : Nat) (v : Value) (u : World) : Prop where
  v : ∃ c, v = .slice (some ⟨B, 0, none⟩) n c ∧ n ≤ c ∧ c ≤ 9223372036854775807
  b : ∃ cs, u.heap[B]? = some (.cells cs T (0, 0))
  c : ∀ i, i < n → ∀ j, j < C → u.cell? ⟨B, i * C + j, none⟩ = some (G i j)
section
variable {T : TypeId} {C b n : Nat} {G : Nat → Nat → Value} {v : Value} {u u2 : World}
theorem RowB.kept (h : RowB T C b G n v u) (e : u2.heap[b]? = u.heap[b]?) : RowB T C b G n v u2 :=
  ⟨h.v, by rw [e]; exact h.b, fun i hi j hj => by have := h.c i hi j hj; rw [← this]; exact World.cell?_of_block e⟩
theorem RowB.congr {G2 : Nat → Nat → Value} (h : RowB T C b G n v u) (e : ∀ i, i < n → ∀ j, j < C → G2 i j = G i j) : RowB T C b G2 n v u :=
  ⟨h.v, h.b, fun i hi j hj => by rw [e i hi j hj]; exact h.c i hi j hj⟩
theorem RowB.of {base : Nat} (h : u.ownsRow base T C v n (rowCells C G n)) (hn : 0 < n) : ∃ b, base ≤ b ∧ v.ownBlock = some b ∧ RowB T C b G n v u := by
  have hs := own_sl h
  rcases h.2 with ⟨_, h0⟩ | ⟨g, cap, cur, rfl, h1, h2, h3, h4, h5, h6⟩
  · omega
  · obtain ⟨a, c, e, s1, s2, s3⟩ := hs
    simp only [Value.slice.injEq, true_and] at e
    obtain ⟨rfl, rfl⟩ := e
    obtain ⟨b, o, e2, hA⟩ := s3 hn
    simp only [Option.some.injEq, Addr.mk.injEq, and_true] at e2
    obtain ⟨rfl, rfl⟩ := e2
    refine ⟨g, h1, rfl, ⟨_, rfl, s1, s2⟩, ⟨_, h2⟩, fun i hi j hj => ?_⟩
    have := hA.2 i hi j hj
    rwa [Nat.zero_add] at this
theorem RowB.lt (h : RowB T C b G n v u) : b < u.heap.size := by
  obtain ⟨cs, e⟩ := h.b
  exact lt_of_block e
theorem RowB.frozen (h : RowB T C b G n v u) (o : Nat) : u.frozen? ⟨b, o, none⟩ = false := by
  obtain ⟨cs, e⟩ := h.b
  simp [World.frozen?, e]
/-- a store of one cell -/
theorem RowB.set1 (h : RowB T C b G n v u) {i j : Nat} (hi : i < n) (hj : j < C) (x : Value) {G2 : Nat → Nat → Value}
    (h0 : G2 i j = x) (ho : ∀ i2, i2 < n → ∀ j2, j2 < C → ¬ (i2 = i ∧ j2 = j) → G2 i2 j2 = G i2 j2) : RowB T C b G2 n v (u.setCell ⟨b, i * C + j, none⟩ x) := by
  obtain ⟨cs, e⟩ := h.b
  refine ⟨h.v, ⟨_, Joins.block_setCell e x⟩, fun i2 hi2 j2 hj2 => ?_⟩
  by_cases c : i2 = i ∧ j2 = j
  · obtain ⟨rfl, rfl⟩ := c
    have := World.cell?_setCells_in b [x] (i2 * C + j2) u (fun q hq => by
      obtain rfl : q = 0 := by simpa using hq
      rw [Nat.add_zero, h.c i2 hi j2 hj]; rfl) 0 (by simp)
    rw [Nat.add_zero] at this
    rw [h0]; exact this
  · rw [ho i2 hi2 j2 hj2 c]
    have := World.cell?_setCells_out b [x] (i * C + j) u ⟨b, i2 * C + j2, none⟩ (fun _ _ => by
      show i2 * C + j2 < i * C + j ∨ i * C + j + 1 ≤ i2 * C + j2
      have hne : i2 * C + j2 ≠ i * C + j := by
        intro he
        apply c
        have d1 : i2 = i := by
          have := congrArg (· / C) he
          simp only [Nat.mul_comm _ C, Nat.mul_add_div (show 0 < C by omega), Nat.div_eq_of_lt hj2, Nat.div_eq_of_lt hj, Nat.add_zero] at this
          exact this
        subst d1
        exact ⟨rfl, by omega⟩
      omega)
    have e3 : u.setCells b (i * C + j) [x] = u.setCell ⟨b, i * C + j, none⟩ x := rfl
    rw [← e3, this]
    exact h.c i2 hi2 j2 hj2
end
section
variable {T : TypeId} {b n : Nat} {G : Nat → Nat → Value} {v : Value} {u : World}
theorem RowB.cell1 (h : RowB T 1 b G n v u) {i : Nat} (hi : i < n) : u.cell? ⟨b, i, none⟩ = some (G i 0) := by
  have := h.c i hi 0 (by omega)
  rwa [Nat.mul_one, Nat.add_zero] at this
theorem RowB.put1 (h : RowB T 1 b G n v u) {i : Nat} (hi : i < n) (x : Value) {G2 : Nat → Nat → Value} (h0 : G2 i 0 = x) (ho : ∀ k, k < n → k ≠ i → G2 k 0 = G k 0) : RowB T 1 b G2 n v (u.setCell ⟨b, i, none⟩ x) := by
  have := h.set1 (j := 0) hi (by omega) x (G2 := G2) h0 (fun i2 h2 j2 hj2 hne => by
    obtain rfl : j2 = 0 := by omega
    exact ho i2 h2 fun e => hne ⟨e, rfl⟩)
  rwa [Nat.mul_one, Nat.add_zero] at this
end

end Go.Proofs.YtmflkkkbahghgaaGreat
namespace Go.Proofs.YtmflkkkbahghgaaGreat
open Go.RowKit
set_option linter.unusedVariables false
set_option linter.unusedSimpArgs false
set_option maxRecDepth 100000

theorem set_else12 {w : World} {P o q : Nat} (v : Value) (h : q ≠ P) : (w.setCell ⟨P, o, none⟩ v).heap[q]? = w.heap[q]? := Below.heap_setCell _ _ _ _ h
theorem infoInt12 : (Tryz.prog.info? 3).map (fun i => (i.zero, i.size, i.bytes)) = some (some (.int .i64 0), 1, 8) := by kernel_rfl
def gK (K : Nat → Nat) : Nat → Nat → Value := fun i _ => .int .i64 (K i : Int)
/-- n numbers in a row of their own, from base on -/
theorem zrow_up {n base : Nat} {v : Value} {a b : World} (h : n = 0 ∧ ∃ ao c, v = .slice ao 0 c ∧ c ≤ 9223372036854775807 ∧ ∀ p, ao = some p → base ≤ p.block ∧ p.block < a.heap.size) (k : a.heap.size ≤ b.heap.size) : n = 0 ∧ ∃ ao c, v = .slice ao 0 c ∧ c ≤ 9223372036854775807 ∧ ∀ p, ao = some p → base ≤ p.block ∧ p.block < b.heap.size := by
  obtain ⟨h0, ao, c, e, hc, hp⟩ := h
  exact ⟨h0, ao, c, e, hc, fun p h1 => ⟨(hp p h1).1, Nat.lt_of_lt_of_le (hp p h1).2 k⟩⟩
def KRow (base n : Nat) (K : Nat → Nat) (v : Value) (u : World) : Prop := (n = 0 ∧ ∃ a c, v = .slice a 0 c ∧ c ≤ 9223372036854775807 ∧ ∀ p, a = some p → base ≤ p.block ∧ p.block < u.heap.size) ∨ (0 < n ∧ ∃ b c, v = .slice (some ⟨b, 0, none⟩) n c ∧ base ≤ b ∧ RowB 3 1 b (gK K) n v u)
section
variable {base n : Nat} {K K2 : Nat → Nat} {v : Value} {u u2 : World}
theorem KRow.below (h : KRow base n K v u) (k : Below u.heap.size u u2) : KRow base n K v u2 := by
  rcases h with h | ⟨h0, b, c, e, hb, hr⟩
  · exact .inl (zrow_up h k.size)
  · exact .inr ⟨h0, b, c, e, hb, hr.kept (k.block _ hr.lt)⟩
theorem KRow.kept (h : KRow base n K v u) (S : Nat → Bool) (hS : ∀ b, v.ownBlock = some b → S b = false) (k : KpS S u u2) : KRow base n K v u2 := by
  rcases h with h | ⟨h0, b, c, e, hb, hr⟩
  · exact .inl (zrow_up h k.size)
  · exact .inr ⟨h0, b, c, e, hb, hr.kept (k.blk hr.lt (hS b (by rw [e]; rfl)))⟩
theorem KRow.congr (h : KRow base n K v u) (e : ∀ i, i < n → K2 i = K i) : KRow base n K2 v u := by
  rcases h with h | ⟨h0, b, c, e1, hb, hr⟩
  · exact .inl h
  · exact .inr ⟨h0, b, c, e1, hb, hr.congr fun i hi j hj => by unfold gK; rw [e i hi]⟩
theorem KRow.of {xs : List Value} (h : u.ownsRow base 3 1 v n xs) (hx : xs = rowCells 1 (gK K) n) : KRow base n K v u := by
  subst hx
  by_cases h0 : n = 0
  · subst h0
    rcases h.2 with ⟨e, _⟩ | ⟨g, cap, cur, e, hb, hg, _, hm, _⟩
    · exact .inl ⟨rfl, _, _, e, by omega, fun p hp => by cases hp⟩
    · exact .inl ⟨rfl, _, _, e, by unfold maxLen at hm; omega, fun p hp => by
        simp only [Option.some.injEq] at hp
        subst hp
        exact ⟨hb, lt_of_block hg⟩⟩
  · obtain ⟨b, hb, hv, hr⟩ := RowB.of h (by omega)
    obtain ⟨c, e, _⟩ := hr.v
    exact .inr ⟨by omega, b, c, e, hb, hr⟩
theorem KRow.sl (h : KRow base n K v u) : Sl 1 (gK K) n v u := by
  rcases h with ⟨rfl, a, c, rfl, hc, _⟩ | ⟨h0, b, c, rfl, hb, hr⟩
  · exact ⟨a, c, rfl, Nat.zero_le _, hc, fun h => absurd h (Nat.lt_irrefl 0)⟩
  · obtain ⟨c2, e, h1, h2⟩ := hr.v
    exact ⟨_, _, e, h1, h2, fun _ => ⟨b, 0, rfl, hr.lt, fun i hi j hj => by rw [Nat.zero_add]; exact hr.c i hi j hj⟩⟩
theorem KRow.look {a : Option Addr} {c i : Nat} (h : KRow base n K (.slice a n c) u) (hi : i < n) : ∃ b, a = some ⟨b, 0, none⟩ ∧ u.cell? ⟨b, i, none⟩ = some (.int .i64 (K i : Int)) := by
  rcases h with ⟨rfl, _⟩ | ⟨h0, b, c2, e, h1, hr⟩
  · omega
  · simp only [Value.slice.injEq, true_and] at e
    obtain ⟨rfl, rfl⟩ := e
    exact ⟨b, rfl, hr.cell1 hi⟩
end
section
variable {base n : Nat} {K : Nat → Nat} {u : World}
theorem KRow.mono {base2 : Nat} {v : Value} (h : KRow base n K v u) (hb : base2 ≤ base) : KRow base2 n K v u := by
  rcases h with ⟨hr, a, c, e1, hc, hp⟩ | ⟨h0, b, c, e1, h1, hr⟩
  · exact .inl ⟨hr, a, c, e1, hc, fun p h1 => ⟨Nat.le_trans hb (hp p h1).1, (hp p h1).2⟩⟩
  · exact .inr ⟨h0, b, c, e1, Nat.le_trans hb h1, hr⟩
end
theorem lit_cells12 (w : World) (x : Value) : ∀ j v, [x][j]? = some v → (w.alloc (.cells #[x] 3)).cell? ((⟨w.heap.size, 0, none⟩ : Addr).add j) = some v := by
  intro j v hj
  rcases j with _ | j
  · simp only [List.getElem?_cons_zero, Option.some.injEq] at hj
    subst hj
    rw [add_plain, Lib.cell_of_heap (heap_alloc_new w _)]
    rfl
  · simp at hj
end Go.Proofs.YtmflkkkbahghgaaGreat
namespace Go.Proofs.YtmflkkkbahghgaaGreat
open Go.RowKit

/-- no cell of the row is frozen -/
def FreeRow (cur : Array Value) (fz : Nat × Nat) : Prop := ∀ i, i < cur.size → ¬ (fz.1 ≤ i ∧ i < fz.2)

/-- the slice v, of n bytes, owns the cells xs -/
def OwnsB (w : World) (base : Nat) (e : TypeId) (v : Value) (n : Nat) (xs : List Value) : Prop :=
  xs.length = n ∧ ∃ g cap cur fz, v = .slice (some ⟨g, 0, none⟩) n cap ∧ base ≤ g ∧ w.heap[g]? = some (.cells cur e fz) ∧ FreeRow cur fz ∧ n ≤ cap ∧ cap ≤ maxLen ∧ cur.size = cap ∧ cur.toList.take n = xs

theorem storeCells_free (P : Program) (g o : Nat) (t : TypeId) (fz : Nat × Nat) : ∀ (vs : List Value) (i : Nat) (cur : Array Value) (w : World), w.heap[g]? = some (.cells cur t fz) → FreeRow cur fz → o + i + vs.length ≤ cur.size → (∀ v ∈ vs, v.oneCell' = true) →
    (storeCells ⟨g, o, none⟩ vs i).run P w = .ok () (w.setRow g (cur.toList.take (o + i) ++ vs ++ cur.toList.drop (o + i + vs.length)).toArray)
  | [], i, cur, w, hg, _, _, _ => by
    simp only [storeCells, List.append_nil, List.length_nil, Nat.add_zero, List.take_append_drop, Array.toArray_toList]
    rw [setRow_self w g cur t fz hg]
    rfl
  | v :: rest, i, cur, w, hg, hfz, hl, h1 => by
    have hi : o + i < cur.size := by simp at hl; omega
    have hadd : (⟨g, o, none⟩ : Addr).add i = ⟨g, o + i, none⟩ := by unfold Addr.add; split <;> simp_all
    have hcell : w.cell? ⟨g, o + i, none⟩ = some cur[o + i] := by simp [World.cell?, hg, hi]
    have hfro : w.frozen? ⟨g, o + i, none⟩ = false := by
      have := hfz (o + i) hi
      obtain ⟨lo, hi'⟩ := fz
      simp only [World.frozen?, hg, Bool.and_eq_false_iff, decide_eq_false_iff_not]
      simp only at this
      omega
    have hst : (store ((⟨g, o, none⟩ : Addr).add i) v).run P w = .ok () (w.setRow g (cur.setIfInBounds (o + i) v)) := by
      rw [hadd, run_store P w _ v _ (h1 v (by simp)), hcell]
      simp [hfro, setCell_eq_setRow w g (o + i) cur t fz v hg]
    have ih := storeCells_free P g o t fz rest (i + 1) (cur.setIfInBounds (o + i) v) (w.setRow g (cur.setIfInBounds (o + i) v)) (setRow_heap w g cur _ t _ hg) (by intro j hj; exact hfz j (by simpa using hj)) (by simp at hl ⊢; omega) (fun x hx => h1 x (by simp [hx]))
    simp only [storeCells, Sem.run_bind, hst, Result.andThen_ok, ih, setRow_setRow]
    congr 3
    have e := list_seg_step cur.toList (o + i) v rest (by simp at hl ⊢; omega)
    simpa [Array.toList_setIfInBounds, Nat.add_assoc] using e

section
variable {P : Program} (w : World)
/-- '[]byte(s)' -/
theorem run_bytes_free (src dst e : TypeId) (s : ByteArray) (hs : P.underlying src = some .string) (hd : P.underlying dst = some (.slice e)) (he : P.underlying e = some (.int .u8)) (hm : s.size ≤ maxLen) :
    ∃ v w', (convert src dst (.string s)).run P w = .ok v w' ∧ OwnsB w' w.heap.size e v s.size (Lib.strCells s) ∧ Below w.heap.size w w' := by
  have hr := run_bytes_of_string (P := P) w src dst e s hs hd he
  have hge := grownCap_ge w s.size 0 e
  have hcm := grownCap_le_maxLen w s.size 0 e hm
  have hsz : (bytesRow s (grownCap w s.size 0 e)).size = grownCap w s.size 0 e := by
    unfold bytesRow; simp only [Array.size_append, Array.size_map, Array.size_replicate]
    have : s.data.size = s.size := rfl
    omega
  refine ⟨_, _, hr, ⟨Lib.strCells_length s, w.heap.size, _, _, _, rfl, Nat.le_refl _, heap_alloc_new w.drew _, ?_, hge, hcm, hsz, ?_⟩, ((Below.refl _ w).drew).alloc (Nat.le_refl _) _⟩
  · intro j hj h; simp only at h; omega
  · unfold bytesRow Lib.strCells
    rw [Array.toList_append, Array.toList_map]
    have : (List.map (fun b : UInt8 => Value.int .u8 (b.toNat : Int)) s.data.toList).length = s.size := by simp
    rw [← this]
    exact List.take_left
end

theorem ownsB_below {w w' : World} {base : Nat} {e : TypeId} {v : Value} {n : Nat} {xs : List Value} (h : OwnsB w base e v n xs) (hb : Below w.heap.size w w') : OwnsB w' base e v n xs := by
  obtain ⟨h1, g, cap, cur, fz, hv, hbg, hg, rest⟩ := h
  have hgs : g < w.heap.size := (Array.getElem?_eq_some_iff.1 hg).1
  exact ⟨h1, g, cap, cur, fz, hv, hbg, by rw [hb.block g hgs]; exact hg, rest⟩

/-- the cells that such a slice holds -/
theorem ownsB_cells {w : World} {base : Nat} {e : TypeId} {v : Value} {n : Nat} {xs : List Value} (h : OwnsB w base e v n xs) : ∃ g cap, v = .slice (some ⟨g, 0, none⟩) n cap ∧ ∀ i, i < n → w.cell? ⟨g, 0 + i, none⟩ = xs[i]? := by
  obtain ⟨h1, g, cap, cur, fz, hv, hbg, hg, _, hnc, _, hcs, htake⟩ := h
  refine ⟨g, cap, hv, fun i hi => ?_⟩
  rw [Nat.zero_add, cell_of_row w g i cur e fz hg, ← htake, List.getElem?_take, if_pos hi]
  simp

end Go.Proofs.YtmflkkkbahghgaaGreat
namespace Go.Proofs.YtmflkkkbahghgaaGreat
open Go.RowKit
set_option linter.unusedVariables false
set_option linter.unusedSimpArgs false
set_option maxRecDepth 100000

theorem byD_cell (s : ByteArray) {j : Nat} (h : j < s.size) : (Lib.byteCells s.data.toList)[j]? = some (.int .u8 (byD s j)) := by
  have hs : s.data.toList.length = s.size := by simp
  simp only [Lib.byteCells, List.getElem?_map, List.getElem?_eq_getElem (show j < s.data.toList.length by omega), Option.map_some]
  unfold byD
  rw [List.getD_eq_getElem?_getD, List.getElem?_eq_getElem (by omega)]
  rfl

section
variable {P : Program} (w : World)
theorem append_room_src9 (t tx ty e : TypeId) (i : TypeInfo) (ht : P.underlying t = some (.slice e)) (hi : P.info? e = some i) (hs1 : i.size = 1)
    (g sLen sCap : Nat) (cur : Array Value) (fz : Nat × Nat) (hg : w.heap[g]? = some (.cells cur e fz)) (hfz : FreeRow cur fz) (x : Value) (n : Nat) (news : List Value) (hs : Src P 1 tx x n news w)
    (hroom : sLen + n ≤ sCap) (hfit : sLen + n ≤ cur.size) :
    (Builtin.append_ #[t, tx] ty #[.slice (some ⟨g, 0, none⟩) sLen sCap, x]).run P w =
      .ok (.slice (some ⟨g, 0, none⟩) (sLen + n) sCap) (w.setRow g (cur.toList.take sLen ++ news ++ cur.toList.drop (sLen + n)).toArray) := by
  have hl : news.length = n := by rw [hs.newsLen, Nat.mul_one]
  have hst := storeCells_free P g sLen e fz news 0 cur w hg hfz (by rw [hl]; simpa using hfit) hs.one
  simp only [Nat.add_zero, hl] at hst
  rcases hs.kind with ⟨e', hk⟩ | hk <;> simp [Builtin.append_, run_underlying ht, run_underlying hk, sizeOf, typeInfo, hi, hs1, hs.len, hroom, hs.cells, Addr.add_lit, hst]

theorem run_append_src9 (base : Nat) (t tx ty e : TypeId) (i : TypeInfo) (ht : P.underlying t = some (.slice e)) (hi : P.info? e = some i) (hz : i.zero = some (.int .u8 0))
    (hsize : i.size = 1) (hby : i.bytes = 1) (v : Value) (n : Nat) (xs : List Value) (hown : OwnsB w base e v n xs) (x : Value) (m : Nat) (news : List Value) (hsrc : Src P 1 tx x m news w)
    (h63 : n + m ≤ maxLen) (hbytes : n + m ≤ 140737488355328) (hbase : base ≤ w.heap.size) :
    ∃ v' w', (Builtin.append_ #[t, tx] ty #[v, x]).run P w = .ok v' w' ∧ OwnsB w' base e v' (n + m) (xs ++ news) ∧ Below base w w' := by
  obtain ⟨hxl, g, cap, cur, fz, rfl, hbg, hg, hfz, hnc, hcm, hcs, htake⟩ := hown
  have hl : news.length = m := by rw [hsrc.newsLen, Nat.mul_one]
  have hlen : (xs ++ news).length = n + m := by rw [List.length_append, hxl, hl]
  have hgs : g < w.heap.size := (Array.getElem?_eq_some_iff.1 hg).1
  by_cases hroom : n + m ≤ cap
  · have hr := append_room_src9 (P := P) w t tx ty e i ht hi hsize g n cap cur fz hg hfz x m news hsrc hroom (by omega)
    refine ⟨_, _, hr, ⟨hlen, g, cap, _, fz, rfl, hbg, setRow_heap w g cur _ e _ hg, ?_, hroom, hcm, ?_, ?_⟩, ⟨rfl, rfl, rfl, by simp, fun k hk => setRow_other w g k _ (by omega)⟩⟩
    · intro j hj
      apply hfz
      simp only [List.size_toArray, List.length_append, List.length_take, List.length_drop, Array.length_toList, hl] at hj
      omega
    · simp only [List.size_toArray, List.length_append, List.length_take, List.length_drop, Array.length_toList, hl]
      omega
    · rw [htake, ← hlen]
      exact List.take_left
  · have holds : ∀ j u, xs[j]? = some u → w.drew.cell? ((⟨g, 0, none⟩ : Addr).add j) = some u := by
      intro j u hu
      rw [World.cell?_drew, add_plain, Nat.zero_add, cell_of_row w g j cur e fz hg]
      rw [← htake, List.getElem?_take] at hu
      split at hu
      · simpa using hu
      · cases hu
    have hr := run_append_grow_src (P := P) w t tx ty e i (.int .u8 0) ht hi hz (some ⟨g, 0, none⟩) n cap xs (by rw [hsize]; exact run_firstCells_some w.drew 1 n ⟨g, 0, none⟩ n cap xs (by rw [hxl, Nat.mul_one]) holds) x m news (by rw [hsize]; exact hsrc) (by omega) (by simp only [maxLen] at h63; omega) (by rw [hby]; exact growslice_fits (by omega) (by omega))
    have hge := grownCap_ge w (n + m) cap e
    have hcm2 : grownCap w (n + m) cap e ≤ maxLen := grownCap_le_maxLen w (n + m) cap e h63
    refine ⟨_, _, hr, ⟨hlen, w.heap.size, _, _, (0, 0), rfl, hbase, heap_alloc_new w.drew _, fun j _ h => by omega, hge, hcm2, ?_, ?_⟩, ((Below.refl base w).drew).alloc hbase _⟩
    · have hz1 : (Value.int IntKind.u8 0).cells.size = 1 := rfl
      simp only [Array.size_append, List.size_toArray, size_zeroCells, hz1, hlen]
      omega
    · simp only [Array.toList_append]
      rw [← hlen]
      exact List.take_left
theorem wpList_append_src9 {ops : Array Oper} {rest : List Oper} {o : Oper} {a : Act} {Q : Exit → Act → World → Prop} (hgd : o.guard = none) (sl x : Operand) (t u : TypeId)
    (ho : o.op = .call { callee := .builtin .append, args := #[sl, x], argTypes := #[t, u] })
    (base : Nat) (e : TypeId) (i : TypeInfo) (ht : P.underlying t = some (.slice e)) (hi : P.info? e = some i) (hz : i.zero = some (.int .u8 0))
    (hsize : i.size = 1) (hby : i.bytes = 1)
    (v : Value) (n : Nat) (xs : List Value) (hs : a.eval sl = v) (hown : OwnsB w base e v n xs) (xv : Value) (hx : a.eval x = xv) (m : Nat) (news : List Value) (hsrc : Src P 1 u xv m news w)
    (h63 : n + m ≤ maxLen) (hbytes : n + m ≤ 140737488355328) (hbase : base ≤ w.heap.size)
    (h : ∀ v' w', OwnsB w' base e v' (n + m) (xs ++ news) → Below base w w' → wpList P ops Q rest (a.put o.dst v') w') : wpList P ops Q (o :: rest) a w := by
  refine wpList_plain hgd fun K hK => ?_
  obtain ⟨v', w', hr, h2, h3⟩ := run_append_src9 (P := P) w base t u o.type e i ht hi hz hsize hby v n xs hown xv m news hsrc h63 hbytes hbase
  unfold Oper.wp execOp
  simp only [ho, resolve, invoke, builtin, Sem.run_bind, Sem.run_pure, Result.andThen_ok, List.map_toArray, List.map_cons, List.map_nil, hs, hx, hr]
  exact hK _ _ (h v' w' h2 h3)
end
theorem infoByte9 : (Tryz.prog.info? 5).map (fun i => (i.zero, i.size, i.bytes)) = some (some (.int .u8 0), 1, 1) := by kernel_rfl
def bytV (s : ByteArray) (j : Nat) : List Value := (List.range j).map fun k => .int .u8 (byD s k)
theorem bytV_len (s : ByteArray) (j : Nat) : (bytV s j).length = j := by simp [bytV]
theorem bytV_succ (s : ByteArray) (j : Nat) (h : s.size ≤ j) : bytV s j ++ [.int .u8 0] = bytV s (j + 1) := by
  unfold bytV
  rw [List.range_succ, List.map_append, List.map_cons, List.map_nil, byD_out h]
theorem bytV_str (s : ByteArray) : Lib.strCells s = bytV s s.size := by
  apply List.ext_getElem?
  intro k
  have e : Lib.strCells s = Lib.byteCells s.data.toList := rfl
  rcases Nat.lt_or_ge k s.size with h | h
  · rw [e, byD_cell s h]
    unfold bytV
    rw [List.getElem?_map, List.getElem?_range h]
    rfl
  · rw [List.getElem?_eq_none (by rw [Lib.strCells_length]; exact h), List.getElem?_eq_none (by rw [bytV_len]; exact h)]
def lenV : Value → Nat
  | .slice _ n _ => n
  | _ => 0

end Go.Proofs.YtmflkkkbahghgaaGreat
