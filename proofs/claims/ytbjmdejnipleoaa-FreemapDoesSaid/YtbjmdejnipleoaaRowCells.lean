/- The cells of rows, as a list. -/
import Derived.WalkKit
namespace Go.Proofs.Ytbjmdejnipleoaa
open Go.RowKit
set_option linter.unusedVariables false

/-- the cells of n rows of C -/
def rowCells (C : Nat) (g : Nat → Nat → Value) (n : Nat) : List Value := (List.range (n * C)).map fun k => g (k / C) (k % C)
theorem rowCells_len (C : Nat) (g : Nat → Nat → Value) (n : Nat) : (rowCells C g n).length = n * C := by simp [rowCells]
theorem rowCells_at {C : Nat} (g : Nat → Nat → Value) {n i j : Nat} (hi : i < n) (hj : j < C) : (rowCells C g n)[i * C + j]? = some (g i j) := by
  have h : i * C + j < n * C := by
    have : (i + 1) * C ≤ n * C := Nat.mul_le_mul_right C hi
    rw [Nat.add_mul, Nat.one_mul] at this
    omega
  have e1 : (i * C + j) / C = i := by
    rw [Nat.mul_comm, Nat.mul_add_div (by omega), Nat.div_eq_of_lt hj]; omega
  have e2 : (i * C + j) % C = j := by
    rw [Nat.mul_comm, Nat.mul_add_mod]; exact Nat.mod_eq_of_lt hj
  simp [rowCells, h, e1, e2]
theorem rowCells_of {C : Nat} (hC : 0 < C) (g : Nat → Nat → Value) {n k : Nat} {v : Value} (h : (rowCells C g n)[k]? = some v) : k < n * C ∧ k / C < n ∧ k % C < C ∧ v = g (k / C) (k % C) := by
  have hk : k < n * C := by
    rcases Nat.lt_or_ge k (n * C) with h' | h'
    · exact h'
    · rw [List.getElem?_eq_none (by rw [rowCells_len]; exact h')] at h; cases h
  refine ⟨hk, (Nat.div_lt_iff_lt_mul hC).2 hk, Nat.mod_lt _ hC, ?_⟩
  simp [rowCells, hk] at h
  exact h.symm

end Go.Proofs.Ytbjmdejnipleoaa
