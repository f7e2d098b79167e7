/- A quotient and a rest, as a program of eight instructions makes them. -/
import Derived.Test.YtehdlpgopcoecaaVmAwake
namespace Go.Proofs.Ytehdlpgopcoecaa
open Go.RowKit
set_option linter.unusedVariables false
set_option maxRecDepth 100000

def dvP (a b : Int) (k : Nat) : I4 :=
  if k = 0 then ⟨1, 4, a, 0⟩ else if k = 1 then ⟨1, 5, b, 0⟩ else if k = 2 then ⟨6, 6, 4, 5⟩ else if k = 3 then ⟨7, 7, 4, 5⟩
  else if k = 4 then ⟨1, 4, 0, 0⟩ else if k = 5 then ⟨14, 4, 6, 0⟩ else if k = 6 then ⟨1, 4, 1, 0⟩ else ⟨14, 4, 7, 0⟩
def dvI : Inp := ⟨2, fun _ => 0, 0, 0, 1, 0, 0⟩
theorem dv_may (a b : Int) : mayN (dvP a b) 8 dvI = 0 := by
  have h : allN (fun k => insB (dvP a b k) 8) 8 = true := rfl
  unfold mayN
  rw [if_pos ⟨by decide, h⟩, if_neg (by decide)]
theorem dv_good (a b : Int) (hb : b ≠ 0) : (doU (dvP a b) 8 dvI).f = 0 ∧ (doU (dvP a b) 8 dvI).nw = 2 ∧ (doU (dvP a b) 8 dvI).w 0 = quotQ a b ∧ (doU (dvP a b) 8 dvI).w 1 = quotR a b := by
  have hw : (wholeM (dvP a b) 8 dvI).f = 0 ∧ (wholeM (dvP a b) 8 dvI).nw = 2 ∧ (wholeM (dvP a b) 8 dvI).w 0 = quotQ a b ∧ (wholeM (dvP a b) 8 dvI).w 1 = quotR a b := by
    unfold wholeM
    simp [runM, dvP, beginM, dvI, oneF, oneR, upd, twoV, hb]
  unfold doU
  rw [if_pos (dv_may a b), if_pos hw.1]
  exact ⟨rfl, hw.2.1, hw.2.2.1, hw.2.2.2⟩
theorem dv_zero (a : Int) : (doU (dvP a 0) 8 dvI).f = 2 := by
  have hw : (wholeM (dvP a 0) 8 dvI).f = 2 := by
    unfold wholeM
    simp [runM, dvP, beginM, dvI, oneF, oneR, upd]
  unfold doU
  rw [if_pos (dv_may a 0), if_neg (by rw [hw]; decide)]
  exact hw
theorem wrap64_id {x : Int} (h : r64v x) : wrap64 x = x := by unfold wrap64; obtain ⟨h1, h2⟩ := h; omega
theorem tmod_r64 {a b : Int} (ha : r64v a) : r64v (a.tmod b) := by
  obtain ⟨h1, h2⟩ := ha
  have h := Int.natAbs_tmod a b
  have : (a.tmod b).natAbs ≤ a.natAbs := by rw [h]; exact Nat.mod_le _ _
  rcases Int.le_total 0 a with h0 | h0
  · have := Int.tmod_nonneg b h0
    constructor <;> omega
  · have := Int.tmod_nonneg b (show 0 ≤ -a by omega)
    rw [Int.neg_tmod] at this
    constructor <;> omega
theorem quotR_tmod {a b : Int} (ha : r64v a) : quotR a b = a.tmod b := wrap64_id (tmod_r64 ha)
theorem quot_back {a b : Int} (ha : r64v a) : wrap64 (wrap64 (quotQ a b * b) + quotR a b) = a := by
  rw [quotR_tmod ha]
  unfold quotQ
  have e : wrap64 (wrap64 (wrap64 (a.tdiv b) * b) + a.tmod b) = wrap64 a := by
    refine wrap64_congr ?_
    have h : b * a.tdiv b + a.tmod b = a := by rw [Int.tmod_def]; omega
    rw [Int.add_emod, wrap64_mod, Int.mul_emod, wrap64_mod, ← Int.mul_emod, ← Int.add_emod, Int.mul_comm]
    rw [h]
  rw [e, wrap64_id ha]
theorem rest_sign {a b : Int} (ha : r64v a) (h0 : quotR a b ≠ 0) : decide (quotR a b < 0) = decide (a < 0) := by
  rw [quotR_tmod ha] at h0 ⊢
  rcases Int.le_total 0 a with h | h
  · have := Int.tmod_nonneg b h
    rw [decide_eq_decide]; omega
  · have h1 := Int.tmod_nonneg b (show 0 ≤ -a by omega)
    rw [Int.neg_tmod] at h1
    rw [decide_eq_decide]
    constructor
    · intro h2; rcases Int.lt_or_eq_of_le h with h3 | h3
      · exact h3
      · rw [h3] at h0; simp at h0
    · intro _; omega

end Go.Proofs.Ytehdlpgopcoecaa
