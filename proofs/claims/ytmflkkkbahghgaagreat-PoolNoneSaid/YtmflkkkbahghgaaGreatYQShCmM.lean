/- A commit's mathematics: what its next root names, what its map becomes. -/
import Derived.Test.YtmflkkkbahghgaaGreatYZ40
import Derived.Test.YtmflkkkbahghgaaGreatYZ41
namespace Go.Proofs.YtmflkkkbahghgaaGreat
open Go.RowKit Go.Deep
set_option linter.unusedVariables false
set_option linter.unusedSimpArgs false
set_option maxRecDepth 100000

theorem lvK_used {n : Nat} : ∀ (l : List Int) (K : Nat → Nat), l.Pairwise (· ≠ ·) → (∀ p ∈ l, 0 ≤ p ∧ p < (n : Int) ∧ K p.toNat = 1) → ∀ q : Nat, lvK n K l q = if (q : Int) ∈ l then 3 else K q
  | [], K, _, _, q => by simp [lvK]
  | p :: l, K, hp, hK, q => by
    obtain ⟨h0, h1, h2⟩ := hK p (List.mem_cons_self ..)
    have e : leaveF n K p = fupd K p.toNat 3 := by unfold leaveF; rw [if_pos ⟨h0, h1⟩, if_pos h2]
    have hp2 := List.pairwise_cons.1 hp
    have ih := lvK_used l (fupd K p.toNat 3) hp2.2 (fun r hr => by
      obtain ⟨g0, g1, g2⟩ := hK r (List.mem_cons_of_mem _ hr)
      refine ⟨g0, g1, ?_⟩
      rw [fupd_else _ _ _ _ (fun e => hp2.1 r hr (by omega))]
      exact g2) q
    show lvK n (leaveF n K p) l q = _
    rw [e, ih]
    by_cases c : (q : Int) ∈ l
    · rw [if_pos c, if_pos (List.mem_cons_of_mem _ c)]
    · rw [if_neg c]
      by_cases c2 : q = p.toNat
      · rw [c2, fupd_at, if_pos (List.mem_cons.2 (.inl (by omega)))]
      · rw [fupd_else _ _ _ _ c2, if_neg (fun h => (List.mem_cons.1 h).elim (fun e => c2 (by omega)) c)]
section
variable {base D P a : Nat} {x : Stt} {M bS bm cS : Nat} {d : Dk} {n : Nat} {K K2 : Nat → Nat} {tb : Nat → Int} {ot parts : List Int} {slot : Nat} {vp : Value} {SK : Nat → Bool} {u u2 : World}
theorem trimT_S {l : List Slt} {f : Nat → Int} (h : ∀ i, isS l i = true ↔ f i ≠ -1) : ∀ m, trimT f m = trimS l m
  | 0 => rfl
  | m + 1 => by
    simp only [trimT, trimS]
    rw [trimT_S h m]
    cases c : isS l m with
    | true => rw [if_neg ((h m).1 c), if_pos rfl]
    | false => rw [if_pos (Decidable.not_not.1 fun e => by rw [(h m).2 e] at c; cases c), if_neg (by decide)]
theorem trimS_more {l : List Slt} {m : Nat} (h : ∀ i, m ≤ i → isS l i = false) : ∀ k, trimS l (m + k) = trimS l m
  | 0 => rfl
  | k + 1 => by
    rw [← Nat.add_assoc]
    simp only [trimS]
    rw [h (m + k) (by omega), trimS_more h k, if_neg (by decide)]
theorem PmAt.last (h : PmAt base D P x a M bS bm cS d n K tb ot parts slot vp SK u) (hx : OkX x) : trimT tb 512 = (nextS x.now).length := by
  rw [trimT_S (l := x.now) (fun i => (h.at_ i).1) 512, nextS_len]
  obtain ⟨k, e⟩ := Nat.exists_eq_add_of_le hx.now
  rw [e, trimS_more (fun i hi => isS_out hi)]
/-- the table that a commit commits -/
def tabN (tb : Nat → Int) (lg : Nat) : List Int := (List.range lg).map tb
theorem tabN_len (tb : Nat → Int) (lg : Nat) : (tabN tb lg).length = lg := by simp [tabN]
theorem tabN_at (tb : Nat → Int) {lg l : Nat} (h : l < lg) (z : Int) : (tabN tb lg).getD l z = tb l := by
  unfold tabN
  rw [List.getD_eq_getElem?_getD, List.getElem?_map, List.getElem?_range h]
  rfl
theorem PmAt.tabN (h : PmAt base D P x a M bS bm cS d n K tb ot parts slot vp SK u) : atL (tabN tb (nextS x.now).length) = tb := by
  funext l
  by_cases c : l < (nextS x.now).length
  · exact tabN_at tb c _
  · rw [atL_out (by rw [tabN_len]; omega)]
    have : isS x.now l = false := by
      rw [← nextS_is]
      exact isS_out (by omega)
    exact ((h.at_ l).2.1 this).symm
theorem PmAt.brIn (h : PmAt base D P x a M bS bm cS d n K tb ot parts slot vp SK u) {m : Nat} (hm : (m : Int) = needR ((nextS x.now).length : Int)) (hf : m ≤ cntF K 0 n) : BrIn x n K tb (Go.Proofs.YtmflkkkbahghgaaGreat.tabN tb (nextS x.now).length) (tkL n K m) := by
  have hT := tk_facts n K m hf
  refine ⟨tabN_len _ _, fun l hl => ?_, fun l hl => ?_, fun l hl => ?_, fun y hy => ?_, ?_, hT.inn, hT.apart⟩
  · rw [tabN_len] at hl
    exact tabN_at tb hl _
  · rw [h.tabN]
  · rw [h.tabN]
    exact (h.at_ l).2.1 hl
  · unfold Go.Proofs.YtmflkkkbahghgaaGreat.tabN at hy
    obtain ⟨l, _, rfl⟩ := List.mem_map.1 hy
    have := (h.at_ l).2.2.2.2
    omega
  · rw [tkL_len, tabN_len]; exact hm
theorem still_next (l : List Slt) (k : Nat) : (slA (nextS l) k).fr = false := by
  rw [nextS_at]
  split <;> rfl
/-- what the map becomes -/
theorem PmAt.turned (h : PmAt base D P x a M bS bm cS d n K tb ot parts slot vp SK u) {m : Nat} (hf : m ≤ cntF K 0 n) (q : Nat) (hq : q < n) : turnF (lvK n (tkK n K m) parts) 1 0 q = if (q : Int) ∈ tkL n K m then 1 else if K q = 2 then 1 else if K q = 3 ∨ (q : Int) ∈ parts then 0 else K q := by
  have hT := tk_facts n K m hf
  have hno : ∀ p ∈ parts, p ∉ tkL n K m := fun p hp hm => by
    have h1 := h.h.tab.part p hp
    rw [(hT.inn p hm).2.2] at h1
    cases h1
  have hl := lvK_used (n := n) parts (tkK n K m) h.h.tab.pap (fun p hp => by
    have h1 := h.h.tab.pin p hp
    refine ⟨h1.1, h1.2, ?_⟩
    rw [hT.map, if_neg (by rw [Int.toNat_of_nonneg h1.1]; exact hno p hp)]
    exact h.h.tab.part p hp) q
  unfold turnF
  rw [hl, hT.map q]
  by_cases c1 : (q : Int) ∈ parts
  · have hk : K q = 1 := by have := h.h.tab.part _ c1; rwa [Int.toNat_natCast] at this
    rw [if_pos c1, if_neg (by decide), if_pos rfl, if_neg (hno _ c1), hk, if_neg (by decide), if_pos (.inr c1)]
  · rw [if_neg c1]
    by_cases c2 : (q : Int) ∈ tkL n K m
    · rw [if_pos c2, if_pos rfl, if_pos c2]
    · rw [if_neg c2, if_neg c2]
      by_cases c3 : K q = 2
      · rw [if_pos c3, if_pos c3]
      · rw [if_neg c3, if_neg c3]
        by_cases c4 : K q = 3
        · rw [if_pos c4, if_pos (.inl c4)]
        · rw [if_neg c4, if_neg (fun h => h.elim c4 c1)]
end

end Go.Proofs.YtmflkkkbahghgaaGreat
