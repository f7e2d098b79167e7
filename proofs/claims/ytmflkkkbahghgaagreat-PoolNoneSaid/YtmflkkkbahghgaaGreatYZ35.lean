/- The program's store: Write, New. The program's store: Drop. Many cells of a block at once: a table is loaded and stored whole; a store is built. A store's cells when it is made. -/
import Derived.Laws.IdiomCopy
import Derived.Laws.Tables
import Derived.Deep.MidRow
import Derived.Test.YtmflkkkbahghgaaGreatYZ34
import Derived.Test.YtmflkkkbahghgaaGreatYZ16
namespace Go.Proofs.YtmflkkkbahghgaaGreat
open Go.RowKit Go.Deep
set_option linter.unusedVariables false
set_option linter.unusedSimpArgs false
set_option maxRecDepth 100000

section
variable {base D P a : Nat} {x : Stt} {S : Nat → Bool} {M bS bm cS : Nat} {d : Dk} {n : Nat} {K : Nat → Nat} {tb : Nat → Int} {ot parts : List Int} {slot : Nat} {vp : Value} {SK : Nat → Bool} {u u2 : World}
set_option maxHeartbeats 1600000 in
theorem swrite_any (l : Int) (s : ByteArray) (h0 : PMx base D P x a S u) (hx : OkX x) (hs : s.size ≤ 1000000) : Calls Tryz.prog 86 #[.pointer (some ⟨P, 0, none⟩), .int .i64 l, .string s] u fun r u' => ∃ e, r = .returned (.int .i64 e) ∧ Out14 PMx PFx base D P x (putWX x l s) x.old a S (e = putWE x l s) u u' := by
  have H0 := Lib.hid h0
  obtain ⟨M, bS, bm, cS, d, n, K, tb, ot, parts, slot, vp, SK, h, rfl⟩ := h0
  have HU := Lib.hid (stakes_any h.m s)
  have HT := Lib.hid (sat_any h.m l)
  simp only [show (hasT tb l = true) = inS x.now l from h.has hx l] at HT
  -- how it ends where nothing changes
  have NO : Hid (∀ e, e = putWE x l s → e ≠ 0 → ∃ e2, Ending.returned (Value.int .i64 e) = .returned (.int .i64 e2) ∧ Out14 PMx PFx base D P x (putWX x l s) x.old a (stoS P D bS bm SK vp) (e2 = putWE x l s) u u) := Lib.hid (fun e he hne => by
    have ex : putWX x l s = x := by unfold putWX; rw [if_neg (by rw [← he]; exact hne)]
    rw [ex]
    exact ⟨e, rfl, _, fun k hk => .inl hk, KpS.refl _ _, .inl ⟨he, a, fun h => h, H0.out⟩⟩)
  go_enter Tryz.func86, Tryz.ntmps86
  by_cases hbig : 232 < s.size
  · rw [if_pos hbig] at HU
    have N1 := Lib.hid (NO.out 4 (by unfold putWE; rw [if_pos hbig]) (by decide))
    clear hbig h
    go_wp2_with fail
    refine (HU.out).mono ?_
    rintro e w1 ⟨rfl, hw⟩
    rw [hw]
    clear hw w1
    go_wp2_with fail
    go_ret
    exact N1.out
  rw [if_neg hbig] at HU
  by_cases hin : ¬ inS x.now l
  · have N1 := Lib.hid (NO.out 3 (by unfold putWE; rw [if_neg hbig, if_neg hin]) (by decide))
    rw [if_neg hin] at HT
    clear hbig hin h
    go_wp2_with fail
    refine (HU.out).mono ?_
    rintro e w1 ⟨rfl, hw⟩
    rw [hw]
    clear hw w1
    go_wp2_with fail
    refine (HT.out).mono ?_
    rintro e w1 ⟨rfl, hw⟩
    rw [hw]
    clear hw w1
    go_wp2_with fail
    go_ret
    exact N1.out
  have hin := Decidable.not_not.1 hin
  rw [if_pos hin] at HT
  obtain ⟨k, rfl⟩ : ∃ k : Nat, l = (k : Int) := ⟨l.toNat, by have := hin.1; omega⟩
  have hk : isS x.now k = true := by have := hin.2; rwa [Int.toNat_natCast] at this
  have HW := Lib.hid (swr_any h hx (lt512 hx hk) (s := s) (by omega))
  have EE : Hid (putWE x (k : Int) s = if canW x k then 0 else 11) := Lib.hid (by
    unfold putWE
    rw [if_neg hbig, if_pos hin, Int.toNat_natCast]
    by_cases cw : canW x k
    · rw [if_pos cw, if_neg]
      rintro ⟨h1, h2⟩
      exact cw.elim (fun e => by rw [h1] at e; cases e.2) (fun e => e h2)
    · rw [if_neg cw, if_pos]
      refine ⟨?_, Decidable.not_not.1 fun e => cw (.inr e)⟩
      cases c : (slA x.now k).fr with
      | false => rfl
      | true => exact absurd (.inl ⟨hk, c⟩) cw)
  have EX : Hid (putWE x (k : Int) s = 0 → putWX x (k : Int) s = wrX x k s) := Lib.hid (fun h => by
    unfold putWX wrX
    rw [if_pos h, Int.toNat_natCast])
  have EX2 : Hid (putWE x (k : Int) s ≠ 0 → putWX x (k : Int) s = x) := Lib.hid (fun h => by unfold putWX; rw [if_neg h])
  clear h hbig hin hk NO
  go_wp2_with fail
  refine (HU.out).mono ?_
  rintro e w1 ⟨rfl, hw⟩
  rw [hw]
  clear hw w1
  go_wp2_with fail
  refine (HT.out).mono ?_
  rintro e w1 ⟨rfl, hw⟩
  rw [hw]
  clear hw w1
  go_wp2_with fail
  refine (HW.out).mono ?_
  rintro e w1 ⟨ee, rfl, S2, hnb, hkp, hcase⟩
  have FIN : Hid (∃ e2, Ending.returned (Value.int .i64 ee) = .returned (.int .i64 e2) ∧ Out14 PMx PFx base D P x (putWX x (k : Int) s) x.old a (stoS P D bS bm SK vp) (e2 = putWE x (k : Int) s) u w1) := Lib.hid (by
    refine ⟨ee, rfl, S2, hnb, hkp, ?_⟩
    rcases hcase with ⟨rfl, hc, a2, h1, h2⟩ | ⟨rfl, hc, h2⟩ | ⟨rfl, ha, hf⟩
    · have E0 : putWE x (k : Int) s = 0 := by rw [EE.out, if_pos hc]
      rw [EX.out E0]
      exact .inl ⟨E0.symm, a2, h1, h2⟩
    · have E0 : putWE x (k : Int) s = 11 := by rw [EE.out, if_neg hc]
      rw [EX2.out (by rw [E0]; decide)]
      exact .inl ⟨E0.symm, a, fun h => h, h2⟩
    · exact .inr ⟨ha, hf⟩)
  clear hnb hkp hcase HW
  go_wp2_with fail
  go_ret
  exact FIN.out
theorem first_of {now : List Slt} {j : Nat} (ha : ∀ i, i < j → isS now i = true) (hj : isS now j = false) : firstS now = j := by
  have hl : j ≤ now.length := by
    rcases Nat.lt_or_ge now.length j with c | c
    · have := ha now.length c
      rw [isS_out (Nat.le_refl _)] at this
      cases this
    · exact c
  exact gapS_of (by omega) (.inr hj) ha
theorem findN_pre {f : Nat → Int} {x : Int} : ∀ n, ∀ i, i < findN f x n → f i ≠ x
  | 0, i, h => absurd h (Nat.not_lt_zero _)
  | n + 1, i, h => by
    unfold findN at h
    split at h
    · exact findN_pre n i h
    · rename_i c
      have hle := findN_le f x n
      split at h
      · exact findN_pre n i (by omega)
      · rename_i c2
        by_cases e : i = n
        · rw [e]; exact c2
        · exact findN_pre n i (by omega)
theorem findN_at {f : Nat → Int} {x : Int} : ∀ n, findN f x n < n → f (findN f x n) = x
  | 0, h => absurd h (Nat.not_lt_zero _)
  | n + 1, h => by
    unfold findN at h ⊢
    split at h
    · rename_i c
      rw [if_pos c]
      exact findN_at n c
    · rename_i c
      rw [if_neg c]
      split at h
      · rename_i c2
        rw [if_pos c2]; exact c2
      · omega
/-- the first logical page that is not there -/
theorem PmAt.gap (h : PmAt base D P x a M bS bm cS d n K tb ot parts slot vp SK u) (hx : OkX x) : (findN tb (-1) 512 < 512 ∧ firstS x.now = findN tb (-1) 512) ∨ (¬ findN tb (-1) 512 < 512 ∧ 512 ≤ firstS x.now) := by
  have pre : ∀ i, i < findN tb (-1) 512 → isS x.now i = true := fun i hi => (h.at_ i).1.2 (findN_pre 512 i hi)
  generalize hN : findN tb (-1) 512 = N at *
  by_cases c : N < 512
  · left
    refine ⟨c, first_of pre ?_⟩
    cases e : isS x.now N with
    | false => rfl
    | true => exact absurd (by rw [← hN] at c ⊢; exact findN_at 512 c) ((h.at_ N).1.1 e)
  · right
    refine ⟨c, ?_⟩
    rcases Nat.lt_or_ge (firstS x.now) 512 with c2 | c2
    · exfalso
      have hn : isS x.now (firstS x.now) = false := by
        unfold firstS
        have := firstS_le x.now
        unfold firstS at this
        exact gapS_not (by omega)
      rw [pre _ (by omega)] at hn
      cases hn
    · exact c2
set_option maxHeartbeats 1600000 in
theorem snew_any (s : ByteArray) (h0 : PMx base D P x a S u) (hx : OkX x) (hs : s.size ≤ 1000000) : Calls Tryz.prog 59 #[.pointer (some ⟨P, 0, none⟩), .string s] u fun r u' => ∃ i e, r = .returned (.tuple #[.int .i64 i, .int .i64 e]) ∧ Out14 PMx PFx base D P x (newX x s) x.old a S (i = newI x s ∧ e = newE x s) u u' := by
  have H0 := Lib.hid h0
  obtain ⟨M, bS, bm, cS, d, n, K, tb, ot, parts, slot, vp, SK, h, rfl⟩ := h0
  have HU := Lib.hid (stakes_any h.m s)
  have HI := Lib.hid (pindex_any tb 512 (some ⟨P, 1, none⟩) 512 (-1) u (by omega) (Nat.le_refl _) (fun _ => ⟨P, 1, rfl, h.m.plt, fun i hi j hj => by
    obtain rfl : j = 0 := by omega
    rw [Nat.mul_one, Nat.add_zero]
    exact h.m.now.cell hi⟩))
  have hgap := h.gap hx
  unfold atN at HI
  -- how it ends where nothing changes
  have NO : Hid (∀ e, e = newE x s → e ≠ 0 → ∃ i e2, Ending.returned (.tuple #[.int .i64 0, .int .i64 e]) = .returned (.tuple #[.int .i64 i, .int .i64 e2]) ∧ Out14 PMx PFx base D P x (newX x s) x.old a (stoS P D bS bm SK vp) (i = newI x s ∧ e2 = newE x s) u u) := Lib.hid (fun e he hne => by
    have ex : newX x s = x := by unfold newX; rw [if_neg (by rw [← he]; exact hne)]
    have ei : newI x s = 0 := by unfold newI; rw [if_neg (by rw [← he]; exact hne)]
    rw [ex]
    exact ⟨0, e, rfl, _, fun k hk => .inl hk, KpS.refl _ _, .inl ⟨⟨ei.symm, he⟩, a, fun h => h, H0.out⟩⟩)
  generalize findN tb (-1) 512 = N at *
  go_enter Tryz.func59, Tryz.ntmps59
  by_cases hbig : 232 < s.size
  · rw [if_pos hbig] at HU
    have N1 := Lib.hid (NO.out 4 (by unfold newE; rw [if_pos hbig]) (by decide))
    clear hbig h hgap
    go_wp2_with fail
    refine (HU.out).mono ?_
    rintro e w1 ⟨rfl, hw⟩
    rw [hw]
    clear hw w1
    go_wp2_with fail
    go_ret2
    exact N1.out
  rw [if_neg hbig] at HU
  by_cases hN : ¬ N < 512
  · have h512 : 512 ≤ firstS x.now := by
      rcases hgap with ⟨c, _⟩ | ⟨_, c⟩
      · exact absurd c hN
      · exact c
    have N1 := Lib.hid (NO.out 11 (by unfold newE; rw [if_neg hbig, if_pos (.inl h512)]) (by decide))
    rw [if_neg hN] at HI
    clear hbig h hgap hN h512
    go_wp2_with fail
    refine (HU.out).mono ?_
    rintro e w1 ⟨rfl, hw⟩
    rw [hw]
    clear hw w1
    go_wp2_with fail
    refine (HI.out).mono ?_
    rintro e w1 ⟨rfl, hw⟩
    rw [hw]
    clear hw w1
    go_wp2_with fail
    go_ret2
    exact N1.out
  have hN := Decidable.not_not.1 hN
  have hF : firstS x.now = N := by
    rcases hgap with ⟨_, c⟩ | ⟨c, _⟩
    · exact c
    · exact absurd hN c
  rw [if_pos hN] at HI
  have hnot : isS x.now N = false := by
    unfold firstS at hF
    have := gapS_not (l := x.now) (n := x.now.length + 1) (by have := firstS_le x.now; unfold firstS at this; omega)
    rwa [hF] at this
  have HW := Lib.hid (swr_any h hx hN (s := s) (by omega))
  have EE : Hid (newE x s = if canW x N then 0 else 11) := Lib.hid (by
    unfold newE
    rw [if_neg hbig, hF]
    by_cases cw : canW x N
    · rw [if_pos cw, if_neg]
      exact fun h => h.elim (fun e => by omega) (fun e => cw.elim (fun q => by rw [hnot] at q; cases q.1) (fun q => q e))
    · rw [if_neg cw, if_pos]
      exact .inr (Decidable.not_not.1 fun e => cw (.inr e)))
  have EX : Hid (newE x s = 0 → newX x s = wrX x N s ∧ newI x s = (N : Int)) := Lib.hid (fun h => by
    unfold newX newI wrX
    rw [if_pos h, if_pos h, hF]
    exact ⟨rfl, rfl⟩)
  have EX2 : Hid (newE x s ≠ 0 → newX x s = x ∧ newI x s = 0) := Lib.hid (fun h => by unfold newX newI; rw [if_neg h, if_neg h]; exact ⟨rfl, rfl⟩)
  have n0 : (0 : Int) ≤ (N : Int) := by omega
  have d0 : decide ((N : Int) < 0) = false := by rw [decide_eq_false_iff_not]; omega
  clear h hbig NO hgap hN hF hnot
  go_wp2_with fail
  refine (HU.out).mono ?_
  rintro e w1 ⟨rfl, hw⟩
  rw [hw]
  clear hw w1
  go_wp2_with fail
  refine (HI.out).mono ?_
  rintro e w1 ⟨rfl, hw⟩
  rw [hw]
  clear hw w1
  go_wp2_with fail
  refine (HW.out).mono ?_
  rintro e w1 ⟨ee, rfl, S2, hnb, hkp, hcase⟩
  have NB := Lib.hid hnb
  have KP := Lib.hid hkp
  have HC := Lib.hid hcase
  clear hnb hkp hcase HW
  rcases HC.out with ⟨rfl, hc, a2, h1, h2⟩ | ⟨rfl, hc, h2⟩ | ⟨rfl, ha, hf⟩
  · have FIN : Hid (∃ i e2, Ending.returned (.tuple #[.int .i64 (N : Int), .int .i64 0]) = .returned (.tuple #[.int .i64 i, .int .i64 e2]) ∧ Out14 PMx PFx base D P x (newX x s) x.old a (stoS P D bS bm SK vp) (i = newI x s ∧ e2 = newE x s) u w1) := Lib.hid (by
      have E0 : newE x s = 0 := by rw [EE.out, if_pos hc]
      obtain ⟨e1, e2⟩ := EX.out E0
      rw [e1]
      exact ⟨N, 0, rfl, S2, NB.out, KP.out, .inl ⟨⟨e2.symm, E0.symm⟩, a2, h1, h2⟩⟩)
    clear hc h1 h2 HC
    go_wp2_with fail
    go_ret2
    exact FIN.out
  · have FIN : Hid (∃ i e2, Ending.returned (.tuple #[.int .i64 0, .int .i64 11]) = .returned (.tuple #[.int .i64 i, .int .i64 e2]) ∧ Out14 PMx PFx base D P x (newX x s) x.old a (stoS P D bS bm SK vp) (i = newI x s ∧ e2 = newE x s) u w1) := Lib.hid (by
      have E0 : newE x s = 11 := by rw [EE.out, if_neg hc]
      obtain ⟨e1, e2⟩ := EX2.out (by rw [E0]; decide)
      rw [e1]
      exact ⟨0, 11, rfl, S2, NB.out, KP.out, .inl ⟨⟨e2.symm, E0.symm⟩, a, fun h => h, h2⟩⟩)
    clear hc h2 HC
    go_wp2_with fail
    go_ret2
    exact FIN.out
  · have FIN : Hid (∃ i e2, Ending.returned (.tuple #[.int .i64 0, .int .i64 13]) = .returned (.tuple #[.int .i64 i, .int .i64 e2]) ∧ Out14 PMx PFx base D P x (newX x s) x.old a (stoS P D bS bm SK vp) (i = newI x s ∧ e2 = newE x s) u w1) := Lib.hid
      ⟨0, 13, rfl, S2, NB.out, KP.out, .inr ⟨ha, hf⟩⟩
    clear ha hf HC
    go_wp2_with fail
    go_ret2
    exact FIN.out
end

end Go.Proofs.YtmflkkkbahghgaaGreat
namespace Go.Proofs.YtmflkkkbahghgaaGreat
open Go.RowKit Go.Deep
set_option linter.unusedVariables false
set_option linter.unusedSimpArgs false
set_option maxRecDepth 100000

section
variable {base D P a : Nat} {x : Stt} {S : Nat → Bool} {M bS bm cS : Nat} {d : Dk} {n : Nat} {K : Nat → Nat} {tb : Nat → Int} {ot parts : List Int} {slot : Nat} {vp : Value} {SK : Nat → Bool} {u u2 : World}
set_option maxHeartbeats 1600000 in
theorem sdrop_any (l : Int) (h0 : PMx base D P x a S u) (hx : OkX x) : Calls Tryz.prog 73 #[.pointer (some ⟨P, 0, none⟩), .int .i64 l] u fun r u' => ∃ e, r = .returned (.int .i64 e) ∧ Out14 PMx PFx base D P x (dropSX x l) x.old a S (e = dropSE x l) u u' := by
  have H0 := Lib.hid h0
  obtain ⟨M, bS, bm, cS, d, n, K, tb, ot, parts, slot, vp, SK, h, rfl⟩ := h0
  have HT := Lib.hid (sat_any h.m l)
  simp only [show (hasT tb l = true) = inS x.now l from h.has hx l] at HT
  have hn := h.n_le
  go_enter Tryz.func73, Tryz.ntmps73
  by_cases hin : ¬ inS x.now l
  · have N1 : Hid (∃ e2, Ending.returned (Value.int .i64 3) = .returned (.int .i64 e2) ∧ Out14 PMx PFx base D P x (dropSX x l) x.old a (stoS P D bS bm SK vp) (e2 = dropSE x l) u u) := Lib.hid (by
      have ex : dropSX x l = x := by unfold dropSX; rw [if_neg hin]
      rw [ex]
      exact ⟨3, rfl, _, fun k hk => .inl hk, KpS.refl _ _, .inl ⟨by unfold dropSE; rw [if_neg hin], a, fun h => h, H0.out⟩⟩)
    rw [if_neg hin] at HT
    clear hin h
    go_wp2_with fail
    refine (HT.out).mono ?_
    rintro e w1 ⟨rfl, hw⟩
    rw [hw]
    clear hw w1
    go_wp2_with fail
    go_ret
    exact N1.out
  have hin := Decidable.not_not.1 hin
  rw [if_pos hin] at HT
  obtain ⟨k, rfl⟩ : ∃ k : Nat, l = (k : Int) := ⟨l.toNat, by have := hin.1; omega⟩
  have hk : isS x.now k = true := by have := hin.2; rwa [Int.toNat_natCast] at this
  have hkl := lt512 hx hk
  have hkind := h.kind hk
  have htb := (h.at_ k).2.2.1 hk
  have HH := Lib.hid h
  have HKL := Lib.hid hkl
  have HK := Lib.hid hk
  have EX : Hid (dropSX x (k : Int) = { x with now := setS x.now k noSlt } ∧ dropSE x (k : Int) = 0) := Lib.hid (by
    unfold dropSX dropSE
    rw [if_pos hin, if_pos hin, Int.toNat_natCast]
    exact ⟨rfl, rfl⟩)
  have eL : leaveF n K (tb k) = fupd K (tb k).toNat (if (slA x.now k).fr then 0 else 3) := by
    unfold leaveF
    rw [if_pos ⟨htb.1, htb.2⟩, hkind]
    cases (slA x.now k).fr <;> simp
  have EL := Lib.hid eL
  have hc1 := h.m.now.cell hkl
  have hc2 : u.cell? ⟨P, k + 1, none⟩ = some (.int .i64 (tb k)) := by rw [Nat.add_comm]; exact hc1
  obtain ⟨c0, c3, c4, c5, c6, c7, cf⟩ := h.m.look
  have k1 : (k : Int) < 512 := by omega
  have k2 : (0 : Int) ≤ (k : Int) := by omega
  have HTB := Lib.hid htb
  generalize hz : tb k = z at *
  have HZ := Lib.hid hz
  clear hz h hin hk c0 c4 c5 c6 c7 cf hkind eL htb hkl
  go_wp2_with fail
  refine (HT.out).mono ?_
  rintro e w1 ⟨rfl, hw⟩
  rw [hw]
  clear hw w1
  go_upto_region 4 with fail
  refine wp_region_held_drew (S := (fun w' => w'.cell? ⟨P, 1025, none⟩ = some (.pointer (some ⟨M, 0, none⟩)) ∧ w'.cell? ⟨P, 1 + k, none⟩ = some (.int .i64 z) ∧ w'.cell? ⟨P, k + 1, none⟩ = some (.int .i64 z))) (by kernel_rfl) ⟨c3, hc1, hc2⟩ (fun hHeld => ?_)
  change wpAnyH _ _ _ _ _ _ _ _ (World.drew u)
  have MD := Lib.hid (HH.out.m.below (bdrew u))
  have BD := Lib.hid (bdrew u)
  clear c3 hc1 hc2
  generalize World.drew u = wd at *
  first | refine tq0 0 rfl ?_ | refine tq1 0 rfl ?_
  try go_frame
  first | refine tq0 1 rfl ?_ | refine tq1 1 rfl ?_
  try go_frame
  first | refine tq0 2 rfl ?_ | refine tq1 2 rfl ?_
  try go_frame
  first | refine tq0 3 rfl ?_ | refine tq1 3 rfl ?_
  try go_frame
  first | refine tq0 4 rfl ?_ | refine tq1 4 rfl ?_
  try go_frame
  first | refine tq0 5 rfl ?_ | refine tq1 5 rfl ?_
  try go_frame
  first | refine tq0 6 rfl ?_ | refine tq1 6 rfl ?_
  try go_frame
  first | refine tq0 7 rfl ?_ | refine tq1 7 rfl ?_
  try go_frame
  first | refine tq0 8 rfl ?_ | refine tq1 8 rfl ?_
  try go_frame
  first | refine tq0 9 rfl ?_ | refine tq1 9 rfl ?_
  try go_frame
  have HLV := Lib.hid (sto_leave MD.out hn z)
  rw [EL.out] at HLV
  refine wpAnyH_ready (rs := [10]) (by kernel_rfl) (by simp) ?_
  refine AllReadyH.cons (o := ⟨_, _, _, _, _, _⟩) rfl (fun Kx hKx => ?_) AllReadyH.nil
  go_simp
  go_at_call 121
  refine (HLV.out).mono ?_
  rintro e9 w7 ⟨rfl, SK2, h1, h2, h3⟩
  have N7 := Lib.hid (NewB.then (S2 := stoS P D bS bm SK vp) (w := u) (fun k hk => .inl hk) (newB_map h1) BD.out.size)
  have K7 : Hid (KpS (stoS P D bS bm SK vp) u w7) := Lib.hid (KpS.trans (KpS.of BD.out) (h2.mono fun q hq => inSK hq))
  have M7 := Lib.hid h3
  obtain ⟨c0, c3, c4, c5, c6, c7, cf⟩ := M7.out.look
  have hc1 := M7.out.now.cell HKL.out
  rw [HZ.out] at hc1
  have hc2 : w7.cell? ⟨P, k + 1, none⟩ = some (.int .i64 z) := by rw [Nat.add_comm]; exact hc1
  have hfz := cf (1 + k)
  have hfz2 := cf (k + 1)
  refine hKx.out _ _ ⟨c3, hc1, hc2⟩ (fun hHeld => ?_)
  clear hKx Kx h1 h2 h3 HLV
  try simp only [Act.put, List.setIfInBounds_toArray, List.set_cons_zero, List.set_cons_succ]
  refine wpAnyH_done (by kernel_rfl) ?_ _
  have FIN : Hid (∃ e2, Ending.returned (Value.int .i64 0) = .returned (.int .i64 e2) ∧ Out14 PMx PFx base D P x (dropSX x (k : Int)) x.old a (stoS P D bS bm SK vp) (e2 = dropSE x (k : Int)) u (w7.setCell ⟨P, 1 + k, none⟩ (.int .i64 (-1)))) := Lib.hid (by
    rw [EX.out.1, EX.out.2]
    refine ⟨0, rfl, _, N7.out, K7.out.trans (KpS.set (stoS_iff.2 (.inl rfl)) (1 + k) _ w7), .inl ⟨rfl, a, fun h => h, M, bS, bm, cS, d, n, _, upd tb k (-1), ot, parts, slot, vp, SK2, ⟨M7.out.put HKL.out (-1), HH.out.h.drop HK.out (fun q hq => ?_), HH.out.arm, HH.out.cl, HH.out.dn, HH.out.ab, HH.out.sl, HH.out.nm⟩, rfl⟩⟩
    unfold fupd
    rw [HZ.out]
    have hz0 := HTB.out
    have e : (q = z.toNat) = ((q : Int) = z) := propext ⟨fun h => by omega, fun h => by omega⟩
    simp only [e])
  rw [Nat.add_comm 1 k] at FIN
  clear hHeld c0 c3 c4 c5 c6 c7 cf
  go_wp2_with fail
  go_ret
  first | exact FIN.out | (rw [Nat.add_comm 1 k]; exact FIN.out)
end

end Go.Proofs.YtmflkkkbahghgaaGreat
namespace Go.Proofs.YtmflkkkbahghgaaGreat
open Go.RowKit Go.Deep
set_option linter.unusedVariables false
set_option linter.unusedSimpArgs false
set_option maxRecDepth 100000

/-- a row of cells laid over others, from o on -/
def putA (A : Array Value) : Nat → List Value → Array Value
  | _, [] => A
  | o, v :: r => putA (A.setIfInBounds o v) (o + 1) r
theorem putA_size : ∀ (l : List Value) (o : Nat) (A : Array Value), (putA A o l).size = A.size
  | [], _, _ => rfl
  | v :: r, o, A => by simp only [putA]; rw [putA_size r, Array.size_setIfInBounds]
theorem putA_out : ∀ (l : List Value) (o : Nat) (A : Array Value) (i : Nat), (i < o ∨ o + l.length ≤ i) → (putA A o l)[i]? = A[i]?
  | [], _, _, _, _ => rfl
  | v :: r, o, A, i, h => by
    simp only [List.length_cons] at h
    simp only [putA]
    rw [putA_out r (o + 1) _ i (by omega), Array.getElem?_setIfInBounds, if_neg (by omega)]
theorem putA_in : ∀ (l : List Value) (o : Nat) (A : Array Value) (i : Nat), i < l.length → o + l.length ≤ A.size → (putA A o l)[o + i]? = l[i]?
  | [], _, _, _, h, _ => absurd h (Nat.not_lt_zero _)
  | v :: r, o, A, i, h, hs => by
    simp only [List.length_cons] at h hs
    simp only [putA]
    cases i with
    | zero =>
      rw [putA_out r (o + 1) _ (o + 0) (.inl (by omega)), Array.getElem?_setIfInBounds, if_pos (by omega), if_pos (by omega)]
      rfl
    | succ i => rw [show o + (i + 1) = o + 1 + i by omega, putA_in r (o + 1) _ i (by omega) (by rw [Array.size_setIfInBounds]; omega)]; rfl
theorem fold_put : ∀ (l : List Value) (k o : Nat) (A : Array Value), (l.zipIdx k).foldl (fun cs (q : Value × Nat) => cs.setIfInBounds (o + q.2) q.1) A = putA A (o + k) l
  | [], _, _, _ => rfl
  | v :: r, k, o, A => by
    simp only [List.zipIdx_cons, List.foldl_cons, putA]
    rw [fold_put r (k + 1) o, Nat.add_assoc]
theorem fold_putA (c : Array Value) (o : Nat) (A : Array Value) : c.zipIdx.foldl (fun cs (q : Value × Nat) => cs.setIfInBounds (o + q.2) q.1) A = putA A o c.toList := by
  have := fold_put c.toList 0 o A
  rw [Nat.add_zero] at this
  rw [← this, ← Array.foldl_toList, Array.toList_zipIdx]
section
variable {q o : Nat} {u u2 : World}
theorem putA_block : ∀ (vs : List Value) (o : Nat) (u : World) (A : Array Value) (t : TypeId), u.heap[q]? = some (.cells A t (0, 0)) → (u.setCells q o vs).heap[q]? = some (.cells (putA A o vs) t (0, 0))
  | [], _, _, _, _, h => h
  | v :: r, o, u, A, t, h => by
    simp only [World.setCells, putA]
    exact putA_block r (o + 1) _ _ t (Joins.block_setCell (i := o) h v)
theorem kps_cells {S : Nat → Bool} (hq : S q = true) : ∀ (vs : List Value) (o : Nat) (u : World), KpS S u (u.setCells q o vs)
  | [], _, u => KpS.refl _ _
  | v :: r, o, u => by
    simp only [World.setCells]
    exact (KpS.set hq o v u).trans (kps_cells hq r (o + 1) _)
theorem below_cells {B : Nat} (hB : B ≤ q) : ∀ (vs : List Value) (o : Nat) (u : World), Below B u (u.setCells q o vs)
  | [], _, u => Below.refl _ _
  | v :: r, o, u => by
    simp only [World.setCells]
    exact ((Below.refl _ _).setCell (p := ⟨q, o, none⟩) hB v).trans (below_cells hB r (o + 1) _)
/-- the cells of a table -/
def tabL (f : Nat → Int) : List Value := (List.range 512).map fun l => .int .i64 (f l)
theorem tabL_len (f : Nat → Int) : (tabL f).length = 512 := by unfold tabL; rw [List.length_map, List.length_range]
theorem tabL_at (f : Nat → Int) {l : Nat} (h : l < 512) : (tabL f)[l]? = some (.int .i64 (f l)) := by
  unfold tabL
  rw [List.getElem?_map, List.getElem?_range h]
  rfl
theorem tabL_one (f : Nat → Int) : ∀ v ∈ tabL f, v.oneCell' = true := by
  intro v hv
  unfold tabL at hv
  obtain ⟨l, _, rfl⟩ := List.mem_map.1 hv
  rfl
theorem tabA_size (f : Nat → Int) : (tabL f).toArray.size = 512 := by rw [List.size_toArray, tabL_len]
/-- of what a table's cells are, a table -/
theorem tabL_of {A : Array Value} {f : Nat → Int} (hs : A.size = 512) (h : ∀ l, l < 512 → A[l]? = some (.int .i64 (f l))) : A = (tabL f).toArray := by
  apply Array.ext_getElem?
  intro i
  by_cases c : i < 512
  · rw [h i c, List.getElem?_toArray, tabL_at f c]
  · rw [Array.getElem?_eq_none (by omega), List.getElem?_toArray, List.getElem?_eq_none (by rw [tabL_len]; omega)]
theorem TabC.range {f : Nat → Int} (h : TabC q o f u) : u.rangeAt q o (tabL f) := fun j v hv => by
  have hj : j < 512 := by
    have := (List.getElem?_eq_some_iff.1 hv).1
    rwa [tabL_len] at this
  rw [tabL_at f hj] at hv
  simp only [Option.some.injEq] at hv
  rw [h.cell hj, hv]
theorem TabC.there {f g : Nat → Int} (h : TabC q o f u) : u.there q o (tabL g).toArray.size := fun j hj => by
  rw [tabA_size] at hj
  exact ⟨by rw [h.cell hj]; rfl, h.fz _⟩
theorem tabL_all (f : Nat → Int) : (tabL f).toArray.all (·.oneCell') = true := all_oneCell_toArray (tabL_one f)
end


end Go.Proofs.YtmflkkkbahghgaaGreat
namespace Go.Proofs.YtmflkkkbahghgaaGreat
open Go.RowKit Go.Deep
set_option linter.unusedVariables false
set_option linter.unusedSimpArgs false
set_option maxRecDepth 100000

/-- the cells of a store without anything -/
def zeroS : Array Value := (.pointer none :: (List.replicate 1024 (.int .i64 0) ++ [.pointer none, .int .i64 0, .int .i64 0, .slice none 0 0, .bool false])).toArray
theorem zeroS_size : zeroS.size = 1030 := by unfold zeroS; simp
theorem zeroS_c5 : zeroS[1027]? = some (.int .i64 0) := by
  unfold zeroS
  rw [List.getElem?_toArray, show 1027 = 1026 + 1 from rfl, List.getElem?_cons_succ, List.getElem?_append_right (by rw [List.length_replicate]; omega), List.length_replicate]
  rfl
theorem zeroS_c6 : zeroS[1028]? = some (.slice none 0 0) := by
  unfold zeroS
  rw [List.getElem?_toArray, show 1028 = 1027 + 1 from rfl, List.getElem?_cons_succ, List.getElem?_append_right (by rw [List.length_replicate]; omega), List.length_replicate]
  rfl
theorem zeroS_c7 : zeroS[1029]? = some (.bool false) := by
  unfold zeroS
  rw [List.getElem?_toArray, show 1029 = 1028 + 1 from rfl, List.getElem?_cons_succ, List.getElem?_append_right (by rw [List.length_replicate]; omega), List.length_replicate]
  rfl
theorem infoT : (Tryz.prog.info? 111).map (fun i => (i.zero, i.size)) = some (some (.agg (tabL fun _ => 0).toArray), 512) := by kernel_rfl
theorem sizeT (f : Nat → Int) : (Tryz.prog.info? 111).map (·.size) = some (tabL f).length := by rw [tabL_len]; exact (zero_of_info infoT).2
theorem sizeTA (f : Nat → Int) : (Tryz.prog.info? 111).map (·.size) = some (tabL f).toArray.size := by rw [tabA_size]; exact (zero_of_info infoT).2
theorem zeroT (w : World) : (zeroValue 111).run Tryz.prog w = .ok (.agg (tabL fun _ => 0).toArray) w := (zero_of_info infoT).1 w
/-- what a store's cells are when it is made -/
def madeS (D M : Nat) (ep : Int) (f g : Nat → Int) : Array Value := putA (putA (putA (putA (putA zeroS 0 [.pointer (some ⟨D, 0, none⟩)]) 1 (tabL f)) 513 (tabL g)) 1025 [.pointer (some ⟨M, 0, none⟩)]) 1026 [.int .i64 ep]
theorem madeS_size (D M : Nat) (ep : Int) (f g : Nat → Int) : (madeS D M ep f g).size = 1030 := by
  unfold madeS
  rw [putA_size, putA_size, putA_size, putA_size, putA_size, zeroS_size]
theorem madeS_is (D M : Nat) (ep : Int) (f g : Nat → Int) : StoA D M ep 0 f g (.slice none 0 0) (madeS D M ep f g) := by
  have z1 : ∀ (v : Value), [v].length = 1 := fun _ => rfl
  have s := zeroS_size
  unfold madeS
  refine ⟨madeS_size D M ep f g, ?_, fun l hl => ?_, fun l hl => ?_, ?_, ?_, ?_, ?_, ?_⟩
  · rw [putA_out _ _ _ _ (.inl (by omega)), putA_out _ _ _ _ (.inl (by omega)), putA_out _ _ _ _ (.inl (by omega)), putA_out _ _ _ _ (.inl (by omega))]
    have := putA_in [.pointer (some ⟨D, 0, none⟩)] 0 zeroS 0 (Nat.lt_succ_self 0) (by rw [z1]; omega)
    exact this
  · rw [putA_out _ _ _ _ (.inl (by omega)), putA_out _ _ _ _ (.inl (by omega)), putA_out _ _ _ _ (.inl (by omega)), putA_in _ _ _ _ (by rw [tabL_len]; exact hl) (by rw [tabL_len, putA_size, s]; omega), tabL_at f hl]
  · rw [putA_out _ _ _ _ (.inl (by omega)), putA_out _ _ _ _ (.inl (by omega)), putA_in _ _ _ _ (by rw [tabL_len]; exact hl) (by rw [tabL_len, putA_size, putA_size, s]; omega), tabL_at g hl]
  · rw [putA_out _ _ _ _ (.inl (by omega))]
    exact putA_in [.pointer (some ⟨M, 0, none⟩)] 1025 _ 0 (Nat.lt_succ_self 0) (by rw [z1, putA_size, putA_size, putA_size, s]; omega)
  · exact putA_in [.int .i64 ep] 1026 _ 0 (Nat.lt_succ_self 0) (by rw [z1, putA_size, putA_size, putA_size, putA_size, s]; omega)
  · rw [putA_out _ _ _ _ (.inr (by rw [z1]; omega)), putA_out _ _ _ _ (.inr (by rw [z1]; omega)), putA_out _ _ _ _ (.inr (by rw [tabL_len]; omega)), putA_out _ _ _ _ (.inr (by rw [tabL_len]; omega)), putA_out _ _ _ _ (.inr (by rw [z1]; omega))]
    exact zeroS_c5
  · rw [putA_out _ _ _ _ (.inr (by rw [z1]; omega)), putA_out _ _ _ _ (.inr (by rw [z1]; omega)), putA_out _ _ _ _ (.inr (by rw [tabL_len]; omega)), putA_out _ _ _ _ (.inr (by rw [tabL_len]; omega)), putA_out _ _ _ _ (.inr (by rw [z1]; omega))]
    exact zeroS_c6
  · rw [putA_out _ _ _ _ (.inr (by rw [z1]; omega)), putA_out _ _ _ _ (.inr (by rw [z1]; omega)), putA_out _ _ _ _ (.inr (by rw [tabL_len]; omega)), putA_out _ _ _ _ (.inr (by rw [tabL_len]; omega)), putA_out _ _ _ _ (.inr (by rw [z1]; omega))]
    exact zeroS_c7
theorem fill_step {place : Nat → Option (Nat × Nat)} {A : Array Value} {i off size : Nat} {v : Value} {rest : List (Nat × Value)} (hp : place i = some (off, size)) (hv : v.cells.size = size) (hf : off + size ≤ A.size) :
    Instr.fill place A ((i, v) :: rest) = Instr.fill place (putA A off v.cells.toList) rest := by
  have hn : (decide (v.cells.size ≠ size) || decide (off + v.cells.size > A.size)) = false := by
    rw [hv]; simp; omega
  have e : (v.cells.zipIdx.foldl (fun cs (x : Value × Nat) => match x with | (c, j) => cs.setIfInBounds (off + j) c) A) = putA A off v.cells.toList := fold_putA v.cells off A
  rw [← e, Instr.fill, hp]
  dsimp only
  rw [hn]
  rfl
theorem built_S (D M : Nat) (ep : Int) (f g : Nat → Int) : Program.built Tryz.prog 114 [(0, .pointer (some ⟨D, 0, none⟩)), (1, .agg (tabL f).toArray), (2, .agg (tabL g).toArray), (3, .pointer (some ⟨M, 0, none⟩)), (4, .int .i64 ep)] = some (madeS D M ep f g) := by
  obtain ⟨pl, hpl, p0, p1, p2, p3, p4⟩ : ∃ pl : List (Nat × Nat), (∀ parts, Program.built Tryz.prog 114 parts = Instr.fill (pl.toArray[·]?) zeroS parts) ∧ pl.toArray[0]? = some (0, 1) ∧ pl.toArray[1]? = some (1, 512) ∧ pl.toArray[2]? = some (513, 512) ∧ pl.toArray[3]? = some (1025, 1) ∧ pl.toArray[4]? = some (1026, 1) :=
    ⟨[(0, 1), (1, 512), (513, 512), (1025, 1), (1026, 1), (1027, 1), (1028, 1), (1029, 1)], fun parts => by kernel_rfl, rfl, rfl, rfl, rfl, rfl⟩
  have s := zeroS_size
  rw [hpl, fill_step (v := .pointer (some ⟨D, 0, none⟩)) (off := 0) (size := 1) p0 rfl (by omega), fill_step (v := .agg (tabL f).toArray) (off := 1) (size := 512) p1 (tabA_size f) (by rw [putA_size]; omega), fill_step (v := .agg (tabL g).toArray) (off := 513) (size := 512) p2 (tabA_size g) (by rw [putA_size, putA_size]; omega),
    fill_step (v := .pointer (some ⟨M, 0, none⟩)) (off := 1025) (size := 1) p3 rfl (by rw [putA_size, putA_size, putA_size]; omega), fill_step (v := .int .i64 ep) (off := 1026) (size := 1) p4 rfl (by rw [putA_size, putA_size, putA_size, putA_size]; omega)]
  rfl
theorem run_built_S (D M : Nat) (ep : Int) (f g : Nat → Int) (w : World) : (Instr.build 114 #[(0, .pointer (some ⟨D, 0, none⟩)), (1, .agg (tabL f).toArray), (2, .agg (tabL g).toArray), (3, .pointer (some ⟨M, 0, none⟩)), (4, .int .i64 ep)]).run Tryz.prog w = .ok (.agg (madeS D M ep f g)) w :=
  run_build w _ _ _ (built_S D M ep f g)

end Go.Proofs.YtmflkkkbahghgaaGreat
