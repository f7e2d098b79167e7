/- What a committed root reaches: which physical pages, how many, that each passes its check. Plain mathematics. -/
import Derived.Test.YtdpmpmaepjgndaaGreatYZ24
import Derived.Test.YtdpmpmaepjgndaaGreatYQShOnceW
import Derived.Test.YtdpmpmaepjgndaaGreatYZ43
namespace Go.Proofs.YtdpmpmaepjgndaaGreat
set_option linter.unusedVariables false
set_option linter.unusedSimpArgs false
set_option maxRecDepth 100000

instance (tb parts : List Int) (x : Int) : Decidable (ReachV tb parts x) := by unfold ReachV; infer_instance
/-- the reached ones of the first n, rising -/
def reachL (ot parts : List Int) : Nat → List Nat
  | 0 => []
  | n + 1 => reachL ot parts n ++ (if ReachV ot parts (n : Int) then [n] else [])
theorem mem_reachL {ot parts : List Int} {n i : Nat} : i ∈ reachL ot parts n ↔ i < n ∧ ReachV ot parts (i : Int) := by
  induction n with
  | zero => simp [reachL]
  | succ n ih =>
    simp only [reachL, List.mem_append, ih]
    by_cases c : ReachV ot parts (n : Int)
    · rw [if_pos c]
      simp only [List.mem_singleton]
      constructor
      · rintro (⟨a, b⟩ | rfl)
        · exact ⟨by omega, b⟩
        · exact ⟨by omega, c⟩
      · rintro ⟨a, b⟩
        by_cases e : i = n
        · exact .inr e
        · exact .inl ⟨by omega, b⟩
    · rw [if_neg c]
      simp only [List.not_mem_nil, or_false]
      constructor
      · rintro ⟨a, b⟩; exact ⟨by omega, b⟩
      · rintro ⟨a, b⟩
        refine ⟨?_, b⟩
        have : i ≠ n := by rintro rfl; exact c b
        omega
theorem PageOk.pgIn {d : Dk} {E kd id : Int} {pay : ByteArray} (h : PageOk (nowD d) E kd id pay) (hm : id < manyP (d.n : Int)) : PgIn d E id.toNat ∧ (tellP (pageS d id.toNat)).kd = kd := by
  obtain ⟨e, h1, h2, h3⟩ := h.say
  have hg := h.get
  have h0 := h.lo
  rw [← pageS_F] at h3 hg
  have ht : getP (pageS d id.toNat) = tellP (pageS d id.toNat) := by unfold getP; rw [if_pos hg]
  rw [ht] at h3
  have hin := many_in hm h0
  exact ⟨⟨by omega, hg, by rw [h3]; show id = _; omega, by rw [h3]; exact h2⟩, by rw [h3]⟩
section
variable {d : Dk} {x : Stt} {n : Nat} {K : Nat → Nat} {tb : Nat → Int} {ot parts : List Int} {slot : Nat}
theorem HoldP.reach_in (h : HoldP d x n K tb ot parts slot) {i : Nat} (hi : i ∈ reachL ot parts n) : (i : Int) < x.many ∧ PgIn d x.ep i := by
  obtain ⟨h1, h2⟩ := mem_reachL.1 hi
  obtain ⟨m1, m2, m3⟩ := h.mn
  refine ⟨by omega, ?_⟩
  have hs := now_same (h.safe _ h2)
  have key : ∃ kd pay, PageOk d.sf x.ep kd (i : Int) pay := by
    obtain ⟨_, hm | hm⟩ := h2
    · obtain ⟨j, hj, e⟩ := List.getElem_of_mem hm
      have := h.com.part j hj
      rw [e] at this
      exact ⟨_, _, this⟩
    · obtain ⟨j, hj, e⟩ := List.getElem_of_mem hm
      cases c : isS x.old j with
      | true => have := h.com.page j hj c; rw [e] at this; exact ⟨_, _, this⟩
      | false => have := h.com.none j hj c; omega
  obtain ⟨kd, pay, hp⟩ := key
  have := ((hp.ext hs).pgIn (by omega)).1
  rwa [Int.toNat_natCast] at this
end

end Go.Proofs.YtdpmpmaepjgndaaGreat
