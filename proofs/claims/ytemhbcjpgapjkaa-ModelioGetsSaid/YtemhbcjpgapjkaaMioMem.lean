/- The text that is being read, in a block of its own; all the rest of memory with that block hidden; rows that a call made. -/
import Derived.Test.YtemhbcjpgapjkaaMioMath
import Derived.Test.YtemhbcjpgapjkaaModelMem
import Derived.Test.YtemhbcjpgapjkaaRowCells
import Derived.Laws.OwnMore
namespace Go.Proofs.Ytemhbcjpgapjkaa
open Go.RowKit
set_option linter.unusedVariables false

/-- the world with block tb hidden -/
def Hd (tb : Nat) (w : World) : World := { w with heap := w.heap.modify tb fun _ => .finalizers #[] none }
theorem Hd.size (tb : Nat) (w : World) : (Hd tb w).heap.size = w.heap.size := by simp [Hd]
theorem Hd.block (tb k : Nat) (w : World) : (Hd tb w).heap[k]? = if tb = k then (w.heap[k]?).map (fun _ => Obj.finalizers #[] none) else w.heap[k]? := by
  simp only [Hd, Array.getElem?_modify]
theorem Hd.other {tb k : Nat} (w : World) (h : tb ≠ k) : (Hd tb w).heap[k]? = w.heap[k]? := by rw [Hd.block, if_neg h]
theorem Hd.cells {tb k : Nat} {w : World} {c : Array Value} {t : TypeId} {f : Nat × Nat} (h : (Hd tb w).heap[k]? = some (.cells c t f)) : tb ≠ k ∧ w.heap[k]? = some (.cells c t f) := by
  rw [Hd.block] at h
  by_cases e : tb = k
  · rw [if_pos e] at h
    cases hw : w.heap[k]? with
    | none => rw [hw] at h; cases h
    | some o => rw [hw] at h; simp at h
  · rw [if_neg e] at h; exact ⟨e, h⟩
theorem cell_block {w : World} {a : Addr} {v : Value} (h : w.cell? a = some v) : ∃ c t f, w.heap[a.block]? = some (.cells c t f) := by
  unfold World.cell? at h
  split at h
  · exact ⟨_, _, _, by assumption⟩
  · cases h
theorem cell_lt {w : World} {a : Addr} {v : Value} (h : w.cell? a = some v) : a.block < w.heap.size := by
  obtain ⟨c, t, f, e⟩ := cell_block h
  exact lt_of_block e
theorem Hd.cell {tb : Nat} {w : World} {a : Addr} {v : Value} (h : (Hd tb w).cell? a = some v) : w.cell? a = some v := by
  obtain ⟨c, t, f, e⟩ := cell_block h
  obtain ⟨h1, h2⟩ := Hd.cells e
  rw [← h]
  exact World.cell?_of_block (by rw [e, h2])
theorem Hd.below {tb B : Nat} {w w2 : World} (h : Below B w w2) : Below B (Hd tb w) (Hd tb w2) :=
  ⟨h.os, h.tape, h.output, by rw [Hd.size, Hd.size]; exact h.size, fun k hk => by rw [Hd.block, Hd.block, h.block k hk]⟩

/-- all but block tb is as it was -/
def Kp (tb : Nat) (w w2 : World) : Prop := Below w.heap.size (Hd tb w) (Hd tb w2)
theorem Kp.refl (tb : Nat) (w : World) : Kp tb w w := Below.refl _ _
theorem Kp.size {tb : Nat} {w w2 : World} (h : Kp tb w w2) : w.heap.size ≤ w2.heap.size := by have := Below.size h; rwa [Hd.size, Hd.size] at this
theorem Kp.trans {tb : Nat} {a b c : World} (h : Kp tb a b) (k : Kp tb b c) : Kp tb a c := Below.trans h (Below.mono k h.size)
theorem Kp.of {tb : Nat} {a b : World} (h : Below a.heap.size a b) : Kp tb a b := Hd.below h
theorem Kp.on {tb : Nat} {a b c : World} (h : Kp tb a b) (k : Below b.heap.size b c) : Kp tb a c := h.trans (Kp.of k)
theorem Kp.low {tb : Nat} {a b c : World} (h : Kp tb a b) (k : Below a.heap.size b c) : Kp tb a c := Below.trans h (Hd.below k)
theorem Kp.blk {tb k : Nat} {a b : World} (h : Kp tb a b) (hk : k < a.heap.size) (hne : tb ≠ k) : b.heap[k]? = a.heap[k]? := by
  have := Below.block h k hk
  rwa [Hd.other _ hne, Hd.other _ hne] at this
theorem Kp.set (tb o : Nat) (v : Value) (w : World) : Kp tb w (w.setCell ⟨tb, o, none⟩ v) := by
  refine ⟨rfl, rfl, rfl, by rw [Hd.size, Hd.size, World.size_setCell]; exact Nat.le_refl _, fun k hk => ?_⟩
  rw [Hd.block, Hd.block]
  by_cases e : tb = k
  · subst e
    rw [if_pos rfl, if_pos rfl]
    have h1 : tb < w.heap.size := hk
    rw [Array.getElem?_eq_getElem h1, Array.getElem?_eq_getElem (by rw [World.size_setCell]; exact h1)]
    rfl
  · rw [if_neg e, if_neg e]
    exact Below.heap_setCell _ _ _ _ (fun h => e h.symm)
theorem Kp.bot {tb B : Nat} {a b : World} (h : Kp tb a b) (hB : B ≤ a.heap.size) (ht : B ≤ tb) : Below B a b := by
  have k : Below a.heap.size (Hd tb a) (Hd tb b) := h
  exact ⟨k.os, k.tape, k.output, h.size, fun i hi => h.blk (by omega) (by omega)⟩
theorem Kp.drew (tb : Nat) (w : World) : Kp tb w w.drew := Kp.of (bdrew w)

/-- a cell that holds v, in a block of its own -/
def Bx (q : Nat) (v : Value) (u : World) : Prop := u.cell? ⟨q, 0, none⟩ = some v
theorem Bx.below {q : Nat} {v : Value} {u u2 : World} (h : Bx q v u) (k : Below u.heap.size u u2) : Bx q v u2 := by
  unfold Bx
  rw [k.cell (p := ⟨q, 0, none⟩) (cell_lt h)]; exact h
theorem Bx.kp {tb q : Nat} {v : Value} {w w2 : World} (h : Bx q v (Hd tb w)) (k : Kp tb w w2) : Bx q v (Hd tb w2) := h.below (by rw [Hd.size]; exact k)
theorem Bx.now {tb q : Nat} {v : Value} {w : World} (h : Bx q v (Hd tb w)) : w.cell? ⟨q, 0, none⟩ = some v := Hd.cell h
theorem Bx.new (tb : Nat) (v : Value) (t : TypeId) (w : World) (h : tb < w.heap.size) : Bx w.heap.size v (Hd tb (w.alloc (.cells #[v] t))) := by
  have hh := heap_alloc_new w (.cells #[v] t)
  have h2 : (Hd tb (w.alloc (.cells #[v] t))).heap[w.heap.size]? = some (.cells #[v] t) := by rw [Hd.other _ (by omega)]; exact hh
  unfold Bx
  rw [Lib.cell_of_heap h2]; rfl

/-- the text: its bytes, the place, the first error -/
def TextAt (tb : Nat) (s : ByteArray) (st : St) (w : World) : Prop :=
  s.size ≤ 100000000 ∧ (st.e = 0 → st.pos ≤ s.size) ∧ ∃ x : Int, (st.e = 0 → x = st.pos) ∧ w.heap[tb]? = some (.cells #[.string s, .int .i64 x, .int .i64 st.e] 61 (0, 0))
theorem TextAt.lt {tb : Nat} {s : ByteArray} {st : St} {w : World} (h : TextAt tb s st w) : tb < w.heap.size := by
  obtain ⟨_, _, x, _, h⟩ := h
  exact lt_of_block h
theorem TextAt.low {tb B : Nat} {s : ByteArray} {st : St} {w w2 : World} (h : TextAt tb s st w) (k : Below B w w2) (hb : tb < B) : TextAt tb s st w2 := by
  obtain ⟨h1, h2, x, h3, h4⟩ := h
  exact ⟨h1, h2, x, h3, by rw [k.block tb hb]; exact h4⟩
theorem TextAt.below {tb : Nat} {s : ByteArray} {st : St} {w w2 : World} (h : TextAt tb s st w) (k : Below w.heap.size w w2) : TextAt tb s st w2 := h.low k h.lt

theorem stN_ok {s : ByteArray} {st : St} (h : st.e = 0 → st.pos ≤ s.size) : (stN s st).e = 0 → (stN s st).pos ≤ s.size := by
  unfold stN
  by_cases h0 : st.e = 0
  · rw [if_pos h0]
    by_cases h1 : s.size < st.pos + 8
    · rw [if_pos h1]; simp
    · rw [if_neg h1]; intro _; simp only; omega
  · rw [if_neg h0]; intro h; exact absurd h h0
/-- what pack's and the document's reading say, at a place -/
theorem rdI_st {s : ByteArray} {st : St} (h0 : st.e = 0) (h : st.pos ≤ s.size) : rdISpec (rdSpec s st.pos 8) = (stI s st, ((stN s st).pos : Int), (stN s st).e) := by
  unfold rdSpec stI stN
  rw [if_pos h0, if_pos h0, if_neg (by omega)]
  by_cases h1 : s.size < st.pos + 8
  · rw [if_pos h1, if_pos h1, if_pos (by omega)]; rfl
  · rw [if_neg h1, if_neg h1, if_neg (by omega)]
    unfold rdISpec
    rw [if_pos rfl, Int.toNat_natCast]
    rfl
theorem rdU_st {s : ByteArray} {st : St} (h0 : st.e = 0) (h : st.pos ≤ s.size) : rdSpec s st.pos 8 = (stU s st, ((stN s st).pos : Int), (stN s st).e) := by
  unfold rdSpec stU stN
  rw [if_pos h0, if_pos h0, if_neg (by omega)]
  by_cases h1 : s.size < st.pos + 8
  · rw [if_pos h1, if_pos h1, if_pos (by omega)]; rfl
  · rw [if_neg h1, if_neg h1, if_neg (by omega), Int.toNat_natCast]
    rfl

/-- a row that was made: a slice over a block of its own, from its head on -/
def Own (C : Nat) (E : TypeId) (g : Nat → Nat → Value) (n : Nat) (v : Value) (u : World) : Prop := u.ownsRow 0 E C v n (rowCells C g n)
theorem own_low {w : World} {b : Nat} {E : TypeId} {C n : Nat} {v : Value} {xs : List Value} (h : w.ownsRow b E C v n xs) : w.ownsRow 0 E C v n xs := by
  obtain ⟨h1, h2⟩ := h
  refine ⟨h1, ?_⟩
  rcases h2 with h2 | ⟨g, cap, cur, r1, r2, r3⟩
  · exact .inl h2
  · exact .inr ⟨g, cap, cur, r1, Nat.zero_le _, r3⟩
theorem own_kept {w w2 : World} {b : Nat} {E : TypeId} {C n : Nat} {v : Value} {xs : List Value} (h : w.ownsRow b E C v n xs) (k : ∀ g, v.ownBlock = some g → w2.heap[g]? = w.heap[g]?) : w2.ownsRow b E C v n xs := by
  obtain ⟨h1, h2⟩ := h
  refine ⟨h1, ?_⟩
  rcases h2 with h2 | ⟨g, cap, cur, rfl, r2, r3, r4⟩
  · exact .inl h2
  · exact .inr ⟨g, cap, cur, rfl, r2, by rw [k g rfl]; exact r3, r4⟩
theorem own_lt {w : World} {b : Nat} {E : TypeId} {C n : Nat} {v : Value} {xs : List Value} (h : w.ownsRow b E C v n xs) {g : Nat} (e : v.ownBlock = some g) : b ≤ g ∧ g < w.heap.size := h.lt g e
theorem own_hide {tb : Nat} {w : World} {b : Nat} {E : TypeId} {C n : Nat} {v : Value} {xs : List Value} (h : w.ownsRow b E C v n xs) (hb : tb < b) : (Hd tb w).ownsRow b E C v n xs :=
  own_kept h fun g e => Hd.other _ (by have := own_lt h e; omega)
theorem own_show {tb : Nat} {w : World} {b : Nat} {E : TypeId} {C n : Nat} {v : Value} {xs : List Value} (h : (Hd tb w).ownsRow b E C v n xs) : w.ownsRow b E C v n xs := by
  obtain ⟨h1, h2⟩ := h
  refine ⟨h1, ?_⟩
  rcases h2 with h2 | ⟨g, cap, cur, rfl, r2, r3, r4⟩
  · exact .inl h2
  · exact .inr ⟨g, cap, cur, rfl, r2, (Hd.cells r3).2, r4⟩
theorem own_kp {tb : Nat} {w w2 : World} {b : Nat} {E : TypeId} {C n : Nat} {v : Value} {xs : List Value} (h : w.ownsRow b E C v n xs) (hb : tb < b) (k : Kp tb w w2) : w2.ownsRow b E C v n xs :=
  own_kept h fun g e => by have := own_lt h e; exact k.blk this.2 (by omega)
theorem own_below {u u2 : World} {b : Nat} {E : TypeId} {C n : Nat} {v : Value} {xs : List Value} (h : u.ownsRow b E C v n xs) (k : Below u.heap.size u u2) : u2.ownsRow b E C v n xs :=
  own_kept h fun g e => k.block g (own_lt h e).2
theorem own_apart {w : World} {b b2 : Nat} {E E2 : TypeId} {C C2 n n2 : Nat} {v v2 : Value} {xs xs2 : List Value} (h : w.ownsRow b E C v n xs) (k : w.ownsRow b2 E2 C2 v2 n2 xs2) (hE : E ≠ E2) {g : Nat} (e : v.ownBlock = some g) : v2.ownBlock ≠ some g := by
  intro e2
  rcases h.2 with ⟨rfl, _⟩ | ⟨g1, cap1, cur1, rfl, _, h3, _⟩
  · simp [Value.ownBlock] at e
  · rcases k.2 with ⟨rfl, _⟩ | ⟨g2, cap2, cur2, rfl, _, k3, _⟩
    · simp [Value.ownBlock] at e2
    · simp only [Value.ownBlock, Option.some.injEq] at e e2
      subst e
      subst e2
      rw [h3] at k3
      simp only [Option.some.injEq, Obj.cells.injEq] at k3
      exact hE k3.2.1
theorem Own.below {C : Nat} {E : TypeId} {g : Nat → Nat → Value} {n : Nat} {v : Value} {u u2 : World} (h : Own C E g n v u) (k : Below u.heap.size u u2) : Own C E g n v u2 := own_below h k
theorem Own.kp {tb C : Nat} {E : TypeId} {g : Nat → Nat → Value} {n : Nat} {v : Value} {w w2 : World} (h : Own C E g n v (Hd tb w)) (k : Kp tb w w2) : Own C E g n v (Hd tb w2) := h.below (by rw [Hd.size]; exact k)
theorem Own.nil (C : Nat) (E : TypeId) (g : Nat → Nat → Value) (u : World) : Own C E g 0 (.slice none 0 0) u := by
  have h : rowCells C g 0 = [] := by simp [rowCells]
  unfold Own
  rw [h]
  exact World.ownsRow_nil _ _ _ _
theorem Own.sl {C : Nat} {E : TypeId} {g : Nat → Nat → Value} {n : Nat} {v : Value} {u : World} (h : Own C E g n v u) : Sl C g n v u := by
  rcases h.2 with ⟨rfl, rfl⟩ | ⟨b, cap, cur, rfl, _, h3, h4, h5, h6, h7⟩
  · exact ⟨none, 0, rfl, Nat.le_refl _, by omega, fun h => absurd h (Nat.lt_irrefl 0)⟩
  · refine ⟨_, cap, rfl, h4, by unfold maxLen at h5; omega, fun _ => ⟨b, 0, rfl, lt_of_block h3, fun i hi j hj => ?_⟩⟩
    have hk : i * C + j < n * C := by
      have : (i + 1) * C ≤ n * C := Nat.mul_le_mul_right C hi
      rw [Nat.add_mul, Nat.one_mul] at this
      omega
    rw [Lib.cell_of_heap h3, Nat.zero_add, ← Array.getElem?_toList]
    have e := rowCells_at g hi hj
    rw [← h7, List.getElem?_take, if_pos hk] at e
    exact e
theorem Own.congr {C : Nat} {E : TypeId} {g g2 : Nat → Nat → Value} {n : Nat} {v : Value} {u : World} (h : Own C E g n v u) (e : ∀ i, i < n → ∀ j, j < C → g i j = g2 i j) : Own C E g2 n v u := by
  have hr : rowCells C g n = rowCells C g2 n := by
    unfold rowCells
    refine List.map_congr_left fun k hk => ?_
    rw [List.mem_range] at hk
    rcases Nat.eq_zero_or_pos C with h0 | h0
    · subst h0; simp at hk
    · exact e _ ((Nat.div_lt_iff_lt_mul h0).2 hk) _ (Nat.mod_lt _ h0)
  unfold Own at *
  rw [← hr]; exact h
theorem rowCells_succ {C : Nat} (hC : 0 < C) (g : Nat → Nat → Value) (n : Nat) (l : List Value) (hl : l.length = C) (h : ∀ j, j < C → l[j]? = some (g n j)) : rowCells C g n ++ l = rowCells C g (n + 1) := by
  apply List.ext_getElem?
  intro k
  rcases Nat.lt_or_ge k (n * C) with hk | hk
  · rw [List.getElem?_append_left (by rw [rowCells_len]; exact hk)]
    have e : (n + 1) * C = n * C + C := by rw [Nat.add_mul, Nat.one_mul]
    simp [rowCells, hk, show k < (n + 1) * C by omega]
  · rw [List.getElem?_append_right (by rw [rowCells_len]; exact hk), rowCells_len]
    rcases Nat.lt_or_ge (k - n * C) C with h2 | h2
    · rw [h _ h2]
      have := rowCells_at g (n := n + 1) (i := n) (j := k - n * C) (by omega) h2
      rw [show n * C + (k - n * C) = k by omega] at this
      exact this.symm
    · rw [List.getElem?_eq_none (by omega), List.getElem?_eq_none (by rw [rowCells_len, Nat.add_mul, Nat.one_mul]; omega)]

end Go.Proofs.Ytemhbcjpgapjkaa
