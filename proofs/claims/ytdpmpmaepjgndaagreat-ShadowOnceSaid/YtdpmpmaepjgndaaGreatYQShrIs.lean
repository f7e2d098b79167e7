/- The program's Reach: what the committed root reaches. -/
import Derived.Test.YtdpmpmaepjgndaaGreatYQShRch
import Derived.Test.YtdpmpmaepjgndaaGreatYQShReach
import Derived.Test.YtdpmpmaepjgndaaGreatYZ30
namespace Go.Proofs.YtdpmpmaepjgndaaGreat
open Go.RowKit Go.Deep
set_option linter.unusedVariables false
set_option linter.unusedSimpArgs false
set_option maxRecDepth 100000

theorem upI_perm (zs : List Int) : (upI zs).Perm zs := List.mergeSort_perm zs _
theorem upI_pair (zs : List Int) (h : zs.Pairwise (· ≠ ·)) : (upI zs).Pairwise (· < ·) := by
  have h1 : (upI zs).Pairwise (fun x y => decide (x ≤ y) = true) := List.pairwise_mergeSort (fun a b c h1 h2 => by simp only [decide_eq_true_eq] at *; omega) (fun a b => by simp only [Bool.or_eq_true, decide_eq_true_eq]; omega) zs
  have h2 : (upI zs).Pairwise (· ≠ ·) := (List.Perm.pairwise_iff (R := (· ≠ ·)) (fun h e => h e.symm) (upI_perm zs)).2 h
  refine (List.Pairwise.and h1 h2).imp ?_
  rintro a b ⟨h3, h4⟩
  simp only [decide_eq_true_eq] at h3
  omega
theorem listT_cnt (f : Nat → Int) : ∀ m, (listT f m).length = cntB (fun i => decide (f i ≠ -1)) m
  | 0 => rfl
  | m + 1 => by
    simp only [listT, cntB, List.length_append, listT_cnt f m]
    by_cases c : f m = -1
    · rw [if_neg (fun h => h c), if_neg (by simp [c])]; rfl
    · rw [if_pos c, if_pos (by simp [c])]; rfl
section
variable {base D P a : Nat} {x : Stt} {S : Nat → Bool} {u : World}
/-- numbers from 0 on, as they lie -/
theorem newL_of {b : Nat} {zs : List Int} {v : Value} {w : World} (h : w.ownsRow b 3 1 v zs.length (intV zs)) (h0 : ∀ z ∈ zs, 0 ≤ z) : NewL b (zs.map Int.toNat) v w := by
  apply NewL.of
  rw [List.length_map]
  have e : natV (zs.map Int.toNat) = intV zs := by
    unfold natV intV
    rw [List.map_map]
    apply List.map_congr_left
    intro z hz
    show Value.int .i64 ((z.toNat : Nat) : Int) = _
    rw [Int.toNat_of_nonneg (h0 z hz)]
  rw [e]
  exact h
theorem sreach_x (h0 : PMx base D P x a S u) (hx : OkX x) : Calls Tryz.prog 14 #[.pointer (some ⟨P, 0, none⟩)] u fun r u' => ∃ v l, r = .returned v ∧ NewL u.heap.size l v u' ∧ Below u.heap.size u u' ∧ (l.length : Int) = keptS x.old ∧ l.Pairwise (· < ·) ∧ (∀ i ∈ l, (i : Int) < x.many) ∧ ∃ bS bm cS d, PDk base D bS bm cS d u' ∧ d.down = false ∧ d.n ≤ 4096 ∧ ∀ i ∈ l, PgIn d x.ep i := by
  obtain ⟨M, bS, bm, cS, d, n, K, tb, ot, parts, slot, vp, SK, h, rfl⟩ := h0
  have tab := h.h.tab
  have hp5 : parts.length ≤ 1000 := by
    have h1 := tab.pl
    have h2 := need_le (n := (x.old.length : Int)) (by have := hx.old; omega)
    omega
  refine (sreach_m h.m hp5).mono ?_
  rintro r u' ⟨v, hr, ho, hb⟩
  obtain ⟨f1, f2, f3⟩ := h.h.com.filtered
  have his : ∀ k, isS x.old k = true ↔ atL ot k ≠ -1 := fun k => by
    have := tab.oin k
    cases c : isS x.old k with
    | true => have := this.1 c; exact ⟨fun _ => by omega, fun _ => rfl⟩
    | false => have := this.2 c; exact ⟨fun h => Bool.noConfusion h, fun h => absurd this h⟩
  have hpw : (allR ot parts (listT (atL ot) 512)).Pairwise (· ≠ ·) := by
    unfold allR
    rw [List.pairwise_append]
    refine ⟨f1, ?_, fun p hp q hq e => ?_⟩
    · rw [List.pairwise_map]
      refine (List.Pairwise.and_mem.1 (listT_pair (atL ot) 512)).imp ?_
      rintro i j ⟨hi, hj, hlt⟩ e
      have := f2 i j ((his i).2 (mem_listT.1 hi).2) ((his j).2 (mem_listT.1 hj).2) e
      omega
    · obtain ⟨k, hk, ek⟩ := List.mem_map.1 hq
      exact f3 k ((his k).2 (mem_listT.1 hk).2) (by rw [ek, ← e]; exact hp)
  have hmem : ∀ z, z ∈ upI (allR ot parts (listT (atL ot) 512)) → ReachV ot parts z ∧ z < (n : Int) := fun z hz => by
    have hz2 := (upI_perm _).mem_iff.1 hz
    unfold allR at hz2
    rcases List.mem_append.1 hz2 with c | c
    · have := tab.pin z c
      exact ⟨⟨this.1, .inl c⟩, this.2⟩
    · obtain ⟨k, hk, ek⟩ := List.mem_map.1 c
      have hs := (his k).2 (mem_listT.1 hk).2
      have := (tab.oin k).1 hs
      rw [ek] at this
      exact ⟨⟨this.1, .inr (by rw [← ek]; exact atL_mem (by omega))⟩, this.2⟩
  have hlen : ((upI (allR ot parts (listT (atL ot) 512))).length : Int) = keptS x.old := by
    rw [upI_len]
    unfold allR keptS thereS
    rw [List.length_append, List.length_map, listT_cnt]
    have e : cntB (fun i => decide (atL ot i ≠ -1)) 512 = cntB (isS x.old) x.old.length := by
      obtain ⟨k, ek⟩ := Nat.exists_eq_add_of_le hx.old
      rw [ek, cntB_more (fun i hi => by
        have : isS x.old i = false := isS_out hi
        have h9 := (tab.oin i).2 this
        simp [h9]) k]
      refine cntB_ext fun i _ => ?_
      have := his i
      cases c : isS x.old i with
      | true => rw [decide_eq_true (this.1 c)]
      | false => exact decide_eq_false fun e => by rw [this.2 e] at c; cases c
    rw [e]
    have := tab.pl
    omega
  have hup := upI_pair _ hpw
  generalize upI (allR ot parts (listT (atL ot) 512)) = zs at *
  have z0 : ∀ z ∈ zs, 0 ≤ z := fun z hz => (hmem z hz).1.1
  refine ⟨v, zs.map Int.toNat, hr, newL_of ho z0, hb, by rw [List.length_map]; exact hlen, ?_, fun i hi => ?_, bS, bm, cS, d, h.m.dk.below hb, h.h.dn, h.dn, fun i hi => ?_⟩
  · rw [List.pairwise_map]
    refine (List.Pairwise.and_mem.1 hup).imp ?_
    rintro p q ⟨hp, hq, hlt⟩
    have := z0 p hp
    have := z0 q hq
    omega
  · obtain ⟨z, hz, rfl⟩ := List.mem_map.1 hi
    have h1 := hmem z hz
    have h2 := h.h.mn.1
    have := h1.1.1
    omega
  · obtain ⟨z, hz, rfl⟩ := List.mem_map.1 hi
    have h1 := hmem z hz
    refine (h.h.reach_in (i := z.toNat) (mem_reachL.2 ⟨by have := h1.1.1; omega, ?_⟩)).2
    rw [Int.toNat_of_nonneg h1.1.1]
    exact h1.1
theorem shr_is : Sh14R PMx where
  reach := fun h hx hb => sreach_x h hx
end

end Go.Proofs.YtdpmpmaepjgndaaGreat
