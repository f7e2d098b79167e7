/- The cells of rows, as a list. Rows that a call made, each in a block of its own: what stays of them when memory is written elsewhere. -/
import Derived.WalkKit
import Derived.Laws.OwnMore
import Derived.Test.YtaaagmcdbmppmaaYModelMem
namespace Go.Proofs.Ytaaagmcdbmppmaa
open Go.RowKit
set_option linter.unusedVariables false

/-- the cells of n rows of C -/
def rowCells (C : Nat) (g : Nat → Nat → Value) (n : Nat) : List Value := (List.range (n * C)).map fun k => g (k / C) (k % C)
theorem rowCells_len (C : Nat) (g : Nat → Nat → Value) (n : Nat) : (rowCells C g n).length = n * C := by simp [rowCells]
theorem rowCells_at {C : Nat} (g : Nat → Nat → Value) {n i j : Nat} (hi : i < n) (hj : j < C) : (rowCells C g n)[i * C + j]? = some (g i j) := by
  have h : i * C + j < n * C := by
    have : (i + 1) * C ≤ n * C := Nat.mul_le_mul_right C hi
    rw [Nat.add_mul, Nat.one_mul] at this
    omega
  have e1 : (i * C + j) / C = i := by
    rw [Nat.mul_comm, Nat.mul_add_div (by omega), Nat.div_eq_of_lt hj]; omega
  have e2 : (i * C + j) % C = j := by
    rw [Nat.mul_comm, Nat.mul_add_mod]; exact Nat.mod_eq_of_lt hj
  simp [rowCells, h, e1, e2]
theorem rowCells_of {C : Nat} (hC : 0 < C) (g : Nat → Nat → Value) {n k : Nat} {v : Value} (h : (rowCells C g n)[k]? = some v) : k < n * C ∧ k / C < n ∧ k % C < C ∧ v = g (k / C) (k % C) := by
  have hk : k < n * C := by
    rcases Nat.lt_or_ge k (n * C) with h' | h'
    · exact h'
    · rw [List.getElem?_eq_none (by rw [rowCells_len]; exact h')] at h; cases h
  refine ⟨hk, (Nat.div_lt_iff_lt_mul hC).2 hk, Nat.mod_lt _ hC, ?_⟩
  simp [rowCells, hk] at h
  exact h.symm

end Go.Proofs.Ytaaagmcdbmppmaa
namespace Go.Proofs.Ytaaagmcdbmppmaa
open Go.RowKit
set_option linter.unusedVariables false

theorem cell_block {w : World} {a : Addr} {v : Value} (h : w.cell? a = some v) : ∃ c t f, w.heap[a.block]? = some (.cells c t f) := by
  unfold World.cell? at h
  split at h
  · exact ⟨_, _, _, by assumption⟩
  · cases h
theorem cell_lt {w : World} {a : Addr} {v : Value} (h : w.cell? a = some v) : a.block < w.heap.size := by
  obtain ⟨c, t, f, e⟩ := cell_block h
  exact lt_of_block e
theorem own_low {w : World} {b : Nat} {E : TypeId} {C n : Nat} {v : Value} {xs : List Value} (h : w.ownsRow b E C v n xs) : w.ownsRow 0 E C v n xs := by
  obtain ⟨h1, h2⟩ := h
  refine ⟨h1, ?_⟩
  rcases h2 with h2 | ⟨g, cap, cur, r1, r2, r3⟩
  · exact .inl h2
  · exact .inr ⟨g, cap, cur, r1, Nat.zero_le _, r3⟩
theorem own_kept {w w2 : World} {b : Nat} {E : TypeId} {C n : Nat} {v : Value} {xs : List Value} (h : w.ownsRow b E C v n xs) (k : ∀ g, v.ownBlock = some g → w2.heap[g]? = w.heap[g]?) : w2.ownsRow b E C v n xs := by
  obtain ⟨h1, h2⟩ := h
  refine ⟨h1, ?_⟩
  rcases h2 with h2 | ⟨g, cap, cur, rfl, r2, r3, r4⟩
  · exact .inl h2
  · exact .inr ⟨g, cap, cur, rfl, r2, by rw [k g rfl]; exact r3, r4⟩
theorem own_lt {w : World} {b : Nat} {E : TypeId} {C n : Nat} {v : Value} {xs : List Value} (h : w.ownsRow b E C v n xs) {g : Nat} (e : v.ownBlock = some g) : b ≤ g ∧ g < w.heap.size := h.lt g e
theorem own_below {u u2 : World} {b : Nat} {E : TypeId} {C n : Nat} {v : Value} {xs : List Value} (h : u.ownsRow b E C v n xs) (k : Below u.heap.size u u2) : u2.ownsRow b E C v n xs :=
  own_kept h fun g e => k.block g (own_lt h e).2
theorem own_apart {w : World} {b b2 : Nat} {E E2 : TypeId} {C C2 n n2 : Nat} {v v2 : Value} {xs xs2 : List Value} (h : w.ownsRow b E C v n xs) (k : w.ownsRow b2 E2 C2 v2 n2 xs2) (hE : E ≠ E2) {g : Nat} (e : v.ownBlock = some g) : v2.ownBlock ≠ some g := by
  intro e2
  rcases h.2 with ⟨rfl, _⟩ | ⟨g1, cap1, cur1, rfl, _, h3, _⟩
  · simp [Value.ownBlock] at e
  · rcases k.2 with ⟨rfl, _⟩ | ⟨g2, cap2, cur2, rfl, _, k3, _⟩
    · simp [Value.ownBlock] at e2
    · simp only [Value.ownBlock, Option.some.injEq] at e e2
      subst e
      subst e2
      rw [h3] at k3
      simp only [Option.some.injEq, Obj.cells.injEq] at k3
      exact hE k3.2.1
theorem rowCells_succ {C : Nat} (hC : 0 < C) (g : Nat → Nat → Value) (n : Nat) (l : List Value) (hl : l.length = C) (h : ∀ j, j < C → l[j]? = some (g n j)) : rowCells C g n ++ l = rowCells C g (n + 1) := by
  apply List.ext_getElem?
  intro k
  rcases Nat.lt_or_ge k (n * C) with hk | hk
  · rw [List.getElem?_append_left (by rw [rowCells_len]; exact hk)]
    have e : (n + 1) * C = n * C + C := by rw [Nat.add_mul, Nat.one_mul]
    simp [rowCells, hk, show k < (n + 1) * C by omega]
  · rw [List.getElem?_append_right (by rw [rowCells_len]; exact hk), rowCells_len]
    rcases Nat.lt_or_ge (k - n * C) C with h2 | h2
    · rw [h _ h2]
      have := rowCells_at g (n := n + 1) (i := n) (j := k - n * C) (by omega) h2
      rw [show n * C + (k - n * C) = k by omega] at this
      exact this.symm
    · rw [List.getElem?_eq_none (by omega), List.getElem?_eq_none (by rw [rowCells_len, Nat.add_mul, Nat.one_mul]; omega)]

theorem grown_keep {w w4 : World} {b C n q : Nat} {E t : TypeId} {v : Value} {xs : List Value} {c : Array Value} {f : Nat × Nat} (h : w.ownsRow b E C v n xs) (hg : w.grownBy w4 v.ownBlock) (hq : w.heap[q]? = some (.cells c t f)) (hne : t ≠ E) : w4.heap[q]? = some (.cells c t f) := by
  rw [hg.block q (lt_of_block hq) ?_]
  · exact hq
  · intro he
    rcases h.2 with ⟨rfl, _⟩ | ⟨g, cap, cur, rfl, _, r3, _⟩
    · simp [Value.ownBlock] at he
    · simp only [Value.ownBlock, Option.some.injEq] at he
      subst he
      rw [hq] at r3
      simp only [Option.some.injEq, Obj.cells.injEq] at r3
      exact hne r3.2.1

/-- a row that was made is a slice of rows -/
theorem own_sl {u : World} {b : Nat} {E : TypeId} {C : Nat} {v : Value} {n : Nat} {g : Nat → Nat → Value} (h : u.ownsRow b E C v n (rowCells C g n)) : Sl C g n v u := by
  rcases h.2 with ⟨rfl, rfl⟩ | ⟨b, cap, cur, rfl, _, h3, h4, h5, h6, h7⟩
  · exact ⟨none, 0, rfl, Nat.le_refl _, by omega, fun h => absurd h (Nat.lt_irrefl 0)⟩
  · refine ⟨_, cap, rfl, h4, by unfold maxLen at h5; omega, fun _ => ⟨b, 0, rfl, lt_of_block h3, fun i hi j hj => ?_⟩⟩
    have hk : i * C + j < n * C := by
      have : (i + 1) * C ≤ n * C := Nat.mul_le_mul_right C hi
      rw [Nat.add_mul, Nat.one_mul] at this
      omega
    rw [Lib.cell_of_heap h3, Nat.zero_add, ← Array.getElem?_toList]
    have e := rowCells_at g hi hj
    rw [← h7, List.getElem?_take, if_pos hk] at e
    exact e

end Go.Proofs.Ytaaagmcdbmppmaa
