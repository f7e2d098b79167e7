/- The contracts of the program's Hold, Let, Set. -/
import Derived.Test.YtmflkkkbahghgaaGreatYZ19
namespace Go.Proofs.YtmflkkkbahghgaaGreat
open Go.RowKit Go.Deep
set_option linter.unusedVariables false
set_option linter.unusedSimpArgs false
set_option maxRecDepth 100000

theorem rm_pg {p : Plt} (h : (rmQ p).2.2 = 0) {j : Nat} (hj : j ≠ (rmQ p).2.1) : (frA (rmQ p).1.f j).pg = (frA p.f j).pg := by
  unfold rmQ at h hj ⊢
  split at h
  · next c =>
    rw [if_pos c] at hj ⊢
    split at h
    · next e =>
      rw [if_pos e] at hj ⊢
      show (frA (List.set _ _ _) j).pg = _
      rw [frA_set, if_neg (fun q => hj q.1)]
      exact ((bakP_at (vicP p).1 (vicP p).2 j).1).trans (vicP_pg p j).1
    · next e => exact absurd h e
  · exact absurd (show (12 : Int) = 0 from h) (by decide)
theorem fnd_same {f g : List Frm} (hl : g.length = f.length) (h : ∀ j, (frA g j).pg = (frA f j).pg) (l : Int) : fndF g l = fndF f l := by
  unfold fndF
  rw [hl, lst_ext (a := hasF g l) (b := hasF f l) fun i _ => by unfold hasF; rw [h]]
/-- what is held lies in a frame of its own -/
theorem ho_in {p : Plt} (ok : OkP p) {l : Int} (h : (hoQ p l).2.2 = 0) : (hoQ p l).2.1 < (hoQ p l).1.f.length ∧ (hoQ p l).1.f.length = p.f.length ∧ (frA (hoQ p l).1.f (hoQ p l).2.1).b.size = 232 ∧ fndF (hoQ p l).1.f l = (hoQ p l).2.1 ∧ 1 ≤ (frA (hoQ p l).1.f (hoQ p l).2.1).held ∧ (frA (hoQ p l).1.f (hoQ p l).2.1).held ≤ 1000001 := by
  unfold hoQ at h ⊢
  by_cases c1 : fndF p.f l < p.f.length
  · rw [if_pos c1]
    have hh := fndF_has c1
    have hx : frA (onceF p (fndF p.f l)).f (fndF p.f l) = { frA p.f (fndF p.f l) with held := (frA p.f (fndF p.f l)).held + 1, us := true } := by
      show frA (List.set _ _ _) _ = _
      rw [frA_set, if_pos ⟨rfl, c1⟩]
    dsimp only
    rw [hx]
    have hlen : (onceF p (fndF p.f l)).f.length = p.f.length := List.length_set
    refine ⟨by rw [hlen]; exact c1, hlen, (ok.f _).some (by rw [hh.2]; exact hh.1), ?_, Nat.succ_le_succ (Nat.zero_le _), Nat.succ_le_succ (ok.f _).held⟩
    have hpg : ∀ j, (frA (onceF p (fndF p.f l)).f j).pg = (frA p.f j).pg := fun j => by
      show (frA (List.set _ _ _) j).pg = _
      rw [frA_set]
      split
      · next q => rw [q.1]
      · rfl
    exact fnd_same hlen hpg l
  · rw [if_neg c1] at h ⊢
    by_cases he : (brR p l).2.2 = 0
    · rw [if_pos he]
      obtain ⟨i1, i2, i3⟩ : (brR p l).2.1 < p.f.length ∧ (brR p l).1.f.length = p.f.length ∧ OkF 0 (frA (brR p l).1.f (brR p l).2.1) := by
        rcases br_in he with h9 | h9
        · exact h9
        · exact absurd ok.pay h9
      have hlen : (onceF (brR p l).1 (brR p l).2.1).f.length = p.f.length := List.length_set.trans i2
      have hx : frA (onceF (brR p l).1 (brR p l).2.1).f (brR p l).2.1 = { frA (brR p l).1.f (brR p l).2.1 with held := (frA (brR p l).1.f (brR p l).2.1).held + 1, us := true } := by
        show frA (List.set _ _ _) _ = _
        rw [frA_set, if_pos ⟨rfl, by rw [i2]; exact i1⟩]
      -- the page
      have hin : inS p.x.now l ∧ (rmQ p).2.2 = 0 := by
        unfold brR at he
        by_cases q1 : inS p.x.now l
        · rw [if_pos q1] at he
          by_cases q2 : (rmQ p).2.2 = 0
          · exact ⟨q1, q2⟩
          · rw [if_neg q2] at he; exact absurd he q2
        · rw [if_neg q1] at he; exact absurd (show (3 : Int) = 0 from he) (by decide)
      have eb : brR p l = ({ (rmQ p).1 with f := (rmQ p).1.f.set (rmQ p).2.1 ⟨l, (slA p.x.now l.toNat).b, 0, false, false⟩ }, (rmQ p).2.1, 0) := by
        unfold brR
        rw [if_pos hin.1, if_pos hin.2]
      have hpk : (frA (brR p l).1.f (brR p l).2.1).pg = l ∧ (frA (brR p l).1.f (brR p l).2.1).b.size = 232 := by
        rw [eb]
        show (frA (List.set _ _ _) _).pg = l ∧ _
        rw [frA_set, if_pos ⟨rfl, (rm_no hin.2).2⟩]
        exact ⟨rfl, (ok.pay _).2 hin.1.2⟩
      have hpj : ∀ j, j ≠ (brR p l).2.1 → (frA (brR p l).1.f j).pg = (frA p.f j).pg := fun j hj => by
        rw [eb] at hj ⊢
        show (frA (List.set _ _ _) j).pg = _
        rw [frA_set, if_neg (fun q => hj q.1)]
        exact rm_pg hin.2 hj
      dsimp only
      rw [hx]
      refine ⟨by rw [hlen]; exact i1, hlen, hpk.2, ?_, Nat.succ_le_succ (Nat.zero_le _), by show (frA (brR p l).1.f (brR p l).2.1).held + 1 ≤ 1000001; have := i3.held; omega⟩
      have hpg : ∀ j, (frA (onceF (brR p l).1 (brR p l).2.1).f j).pg = (frA (brR p l).1.f j).pg := fun j => by
        show (frA (List.set _ _ _) j).pg = _
        rw [frA_set]
        split
        · next q => rw [q.1]
        · rfl
      have hno : ∀ j, j < p.f.length → (frA p.f j).pg ≠ l := fun j hj => fndF_no (by have := fndF_le p.f l; omega) hin.1.1 hj
      unfold fndF
      rw [if_pos hin.1.1, hlen]
      refine lstP_of (Nat.le_of_lt i1) (.inr ?_) fun j hj => ?_
      · unfold hasF
        rw [hpg, hpk.1]
        simp
      · unfold hasF
        rw [hpg, hpj j (by omega)]
        have := hno j (by omega)
        simp [this]
    · rw [if_neg he] at h
      exact absurd h he
theorem ho_hol (p : Plt) (l : Int) : holQ p l = ((hoQ p l).1, (if (hoQ p l).2.2 = 0 then (frA (hoQ p l).1.f (hoQ p l).2.1).b else ByteArray.empty), (hoQ p l).2.2) := by
  unfold holQ hoQ
  by_cases c1 : fndF p.f l < p.f.length
  · rw [if_pos c1, if_pos c1]
    dsimp only
    rw [if_pos rfl]
    have hx : frA (onceF p (fndF p.f l)).f (fndF p.f l) = { frA p.f (fndF p.f l) with held := (frA p.f (fndF p.f l)).held + 1, us := true } := by
      show frA (List.set _ _ _) _ = _
      rw [frA_set, if_pos ⟨rfl, c1⟩]
    rw [hx]
    rfl
  · rw [if_neg c1, if_neg c1]
    unfold brR
    by_cases q1 : inS p.x.now l
    · rw [if_pos q1, if_pos q1]
      have hlen : (bakP (vicP p).1 (vicP p).2).f.length = p.f.length := by
        rw [bakP_len]
        unfold vicP
        split
        · rfl
        · exact vicN_len _ _ _ _
      unfold newQ newR rmQ
      by_cases c2 : (vicP p).2 < p.f.length
      · rw [if_pos c2, if_pos c2, if_pos c2]
        by_cases c3 : bakE (vicP p).1 (vicP p).2 = 0
        · rw [if_pos c3, if_pos c3]
          dsimp only
          rw [if_pos rfl]
          dsimp only
          rw [if_pos rfl, List.set_set]
          unfold onceF
          dsimp only
          rw [frA_set, if_pos ⟨rfl, by rw [hlen]; exact c2⟩, List.set_set, if_pos rfl, frA_set, if_pos ⟨rfl, by rw [hlen]; exact c2⟩]
        · rw [if_neg c3, if_neg c3]
          dsimp only
          rw [if_neg c3]
          dsimp only
          rw [if_neg c3]
          dsimp only
          rw [if_neg c3]
      · rw [if_neg c2, if_neg c2]
        rfl
    · rw [if_neg q1, if_neg q1]
      rfl
theorem let_go {q : Plt} {l : Int} {k : Nat} (hf : fndF q.f l = k) (hk : k < q.f.length) (h1 : 1 ≤ (frA q.f k).held) : letP q l = { q with f := q.f.set k { frA q.f k with held := (frA q.f k).held - 1 } } := by
  unfold letP
  have : pinE q l = 0 := if_pos ⟨by omega, by rw [hf]; omega⟩
  rw [if_pos this, hf]
theorem set_go {q : Plt} {l : Int} {s : ByteArray} {k : Nat} (hs : ¬ 232 < s.size) (hf : fndF q.f l = k) (hk : k < q.f.length) (h1 : 1 ≤ (frA q.f k).held) : setP q l s = { q with f := q.f.set k { frA q.f k with b := fullP s, di := true, us := true } } := by
  unfold setP
  have : setE q l s = 0 := by
    unfold setE
    rw [if_neg hs]
    exact if_pos ⟨by omega, by rw [hf]; omega⟩
  rw [if_pos this, hf]
theorem set_let {q : Plt} {l : Int} {s : ByteArray} {k : Nat} (hs : ¬ 232 < s.size) (hf : fndF q.f l = k) (hk : k < q.f.length) (h1 : 1 ≤ (frA q.f k).held) : letP (setP q l s) l = { q with f := q.f.set k { frA q.f k with b := fullP s, di := true, us := true, held := (frA q.f k).held - 1 } } := by
  rw [set_go hs hf hk h1]
  have hx : frA (q.f.set k { frA q.f k with b := fullP s, di := true, us := true }) k = { frA q.f k with b := fullP s, di := true, us := true } := by rw [frA_set, if_pos ⟨rfl, hk⟩]
  rw [let_go (k := k) ?_ (by show k < (List.set _ _ _).length; rw [List.length_set]; exact hk) (by show 1 ≤ (frA (List.set _ _ _) k).held; rw [hx]; exact h1)]
  · dsimp only
    rw [hx, List.set_set]
  · rw [← hf]
    refine fnd_same (f := q.f) List.length_set (fun j => ?_) l
    show (frA (List.set _ _ _) j).pg = _
    rw [hf, frA_set]
    split
    · next e => rw [e.1]
    · rfl
section
variable {PM : StM} {PF PC : FlM} {base D P Y F c : Nat} {p : Plt} {S : Nat → Bool} {u : World}
set_option maxHeartbeats 3200000 in
theorem qHold_any (I : Sh14 PM PF PC) (h : PqAt PM base D P Y F c p S u) (ok : OkP p) (hbase : base ≤ u.heap.size) (l : Int) : Calls Tryz.prog 19 #[.pointer (some ⟨Y, 0, none⟩), .int .i64 l] u fun r u' => r = .returned (.tuple #[.string (holQ p l).2.1, .int .i64 (holQ p l).2.2]) ∧ PqTo PM base D P Y F c S (holQ p l).1 u u' := by
  have HO := Lib.hid (qhold_any I h ok hbase l)
  have E := Lib.hid (ho_hol p l)
  have OK := Lib.hid ok
  clear h I ok hbase
  go_enter Tryz.func19, Tryz.ntmps19
  by_cases he : (hoQ p l).2.2 = 0
  · obtain ⟨i1, i2, i3, i4, i5, i6⟩ := ho_in OK.out he
    rw [he, ptrQ_in (by omega)] at HO
    rw [if_pos he, he] at E
    have IN := Lib.hid i1
    have HS := Lib.hid i3
    have HFB := Lib.hid (full_self i3)
    clear i1 i2 i3 i4 i5 i6 he
    generalize (hoQ p l).2.1 = k at *
    generalize (hoQ p l).1 = q at *
    rw [E.out]
    go_wp2_with fail
    refine (HO.out).mono ?_
    rintro r w1 ⟨rfl, t1⟩
    have T1 := Lib.hid t1
    have HT : Hid (Calls Tryz.prog 45 #[.pointer (some ⟨F, k * 237, none⟩)] w1 fun r u' => r = .returned (.string (frA q.f k).b) ∧ u' = w1) := Lib.hid (by
      obtain ⟨S1, a1⟩ := T1.out.at
      have := ftext_any a1.row IN.out (by have := HS.out; omega)
      rwa [HFB.out] at this)
    clear t1 HO
    go_wp2_with fail
    refine (HT.out).mono ?_
    rintro r w2 ⟨rfl, hw⟩
    subst hw
    go_wp2_with fail
    go_ret2
    exact ⟨rfl, T1.out⟩
  · rw [if_neg he] at E
    rw [E.out]
    dsimp only
    generalize (hoQ p l).2.2 = e at *
    have d1 : (e == 0) = false := by simp [he]
    have d2 : (e != 0) = true := by simp [he]
    clear he E
    generalize ptrQ F p.f.length (hoQ p l).2.1 = po at *
    go_wp2_with fail
    refine (HO.out).mono ?_
    rintro r w1 ⟨rfl, t1⟩
    have T1 := Lib.hid t1
    clear t1 HO
    go_wp2_with fail
    go_ret2
    exact ⟨rfl, T1.out⟩
theorem unhold_wrote (I : Sh14 PM PF PC) (h : PqAt PM base D P Y F c p S u) {k : Nat} (hk : k < p.f.length) : PqTo PM base D P Y F c S { p with f := p.f.set k { frA p.f k with held := (frA p.f k).held - 1 } } u (u.setCell ⟨F, k * 237 + 234, none⟩ (.int .i64 (((frA p.f k).held - 1 : Nat) : Int))) :=
  h.wrote I (f2 := p.f.set k { frA p.f k with held := (frA p.f k).held - 1 }) List.length_set (KpS.set (O1.a F) _ _ _) (QRow.holds h.row rfl hk ((frA p.f k).held - 1))
set_option maxHeartbeats 3200000 in
theorem qLet_any (I : Sh14 PM PF PC) (h : PqAt PM base D P Y F c p S u) (ok : OkP p) (l : Int) : Calls Tryz.prog 24 #[.pointer (some ⟨Y, 0, none⟩), .int .i64 l] u fun r u' => r = .returned (.int .i64 (pinE p l)) ∧ PqTo PM base D P Y F c S (letP p l) u u' := by
  have HO := Lib.hid (qpinned_any I h ok.len l)
  have H := Lib.hid h
  have HI := Lib.hid I
  have OK := Lib.hid ok
  clear h I ok
  go_enter Tryz.func24, Tryz.ntmps24
  by_cases he : pinE p l = 0
  · have hq : fndF p.f l < p.f.length ∧ 0 < (frA p.f (fndF p.f l)).held := by
      unfold pinE at he
      split at he
      · next c => exact c
      · exact absurd he (by decide)
    have EL := Lib.hid (let_go (q := p) (l := l) rfl hq.1 hq.2)
    rw [show pnI p l = fndF p.f l from if_pos he, ptrQ_in hq.1, he] at HO
    rw [he]
    have HK := Lib.hid hq.1
    have hm := (OK.out.f (fndF p.f l)).held
    have hm1 := hq.2
    generalize fndF p.f l = k at *
    clear hq he
    go_wp2_with fail
    refine (HO.out).mono ?_
    rintro r w1 ⟨rfl, hb1⟩
    have H1 := Lib.hid (H.out.below HI.out hb1)
    have B1 := Lib.hid hb1
    obtain ⟨_, _, c2, _, _⟩ := QRow.cells H1.out.row HK.out
    have z2 := RowB.frozen H1.out.row (k * 237 + 234)
    have FIN := Lib.hid (PqTo.from B1.out (unhold_wrote HI.out H1.out HK.out))
    have HW : IntKind.i64.wrap (((frA p.f k).held : Int) - 1) = (((frA p.f k).held - 1 : Nat) : Int) := by rw [IntKind.wrap_i64]; omega
    clear hb1 HO hm hm1
    generalize (((frA p.f k).held - 1 : Nat) : Int) = hv at *
    generalize ((frA p.f k).held : Int) = hw at *
    go_wp2_with fail
    go_ret
    exact ⟨rfl, by rw [EL.out]; exact FIN.out⟩
  · have EL := Lib.hid (show letP p l = p from if_neg he)
    generalize ptrQ F p.f.length (pnI p l) = po at *
    generalize pinE p l = e at *
    have d1 : (e == 0) = false := by simp [he]
    have d2 : (e != 0) = true := by simp [he]
    clear he
    go_wp2_with fail
    refine (HO.out).mono ?_
    rintro r w1 ⟨rfl, hb1⟩
    have T1 := Lib.hid (H.out.stays HI.out hb1)
    clear hb1 HO
    go_wp2_with fail
    go_ret
    exact ⟨rfl, by rw [EL.out]; exact T1.out⟩
set_option maxHeartbeats 3200000 in
theorem qSet_any (I : Sh14 PM PF PC) (h : PqAt PM base D P Y F c p S u) (ok : OkP p) (l : Int) (s : ByteArray) : Calls Tryz.prog 25 #[.pointer (some ⟨Y, 0, none⟩), .int .i64 l, .string s] u fun r u' => r = .returned (.int .i64 (setE p l s)) ∧ PqTo PM base D P Y F c S (setP p l s) u u' := by
  have HT := Lib.hid (qtakes_any (Y := Y) s u)
  have HO := Lib.hid (qpinned_any I h ok.len l)
  have H := Lib.hid h
  have HI := Lib.hid I
  clear h I ok
  go_enter Tryz.func25, Tryz.ntmps25
  by_cases hs : 232 < s.size
  · rw [if_pos hs] at HT
    have ES : Hid (setE p l s = 4) := Lib.hid (if_pos hs)
    have EL : Hid (setP p l s = p) := Lib.hid (by unfold setP; rw [ES.out]; rfl)
    clear hs
    go_wp2_with fail
    refine (HT.out).mono ?_
    rintro r w1 ⟨rfl, hw⟩
    subst hw
    go_wp2_with fail
    go_ret
    exact ⟨by rw [ES.out]; rfl, by rw [EL.out]; exact H.out.same⟩
  · rw [if_neg hs] at HT
    have ES : Hid (setE p l s = pinE p l) := Lib.hid (if_neg hs)
    have HSZ := Lib.hid (show s.size ≤ 232 by omega)
    by_cases he : pinE p l = 0
    · have hq : fndF p.f l < p.f.length ∧ 0 < (frA p.f (fndF p.f l)).held := by
        unfold pinE at he
        split at he
        · next c => exact c
        · exact absurd he (by decide)
      have EL := Lib.hid (set_go (q := p) (l := l) hs rfl hq.1 hq.2)
      rw [show pnI p l = fndF p.f l from if_pos he, ptrQ_in hq.1, he] at HO
      rw [he] at ES
      have HK := Lib.hid hq.1
      generalize fndF p.f l = k at *
      clear hq he hs
      go_wp2_with fail
      refine (HT.out).mono ?_
      rintro r w1 ⟨rfl, hw⟩
      subst hw
      go_wp2_with fail
      refine (HO.out).mono ?_
      rintro r w2 ⟨rfl, hb1⟩
      have H1 := Lib.hid (H.out.below HI.out hb1)
      have B1 := Lib.hid hb1
      have HY := Lib.hid (fset_any H1.out.row rfl HK.out s HSZ.out)
      clear hb1 HO HT
      go_wp2_with fail
      refine (HY.out).mono ?_
      rintro r w3 ⟨rfl, r3, k3⟩
      have FIN := Lib.hid (PqTo.from B1.out (H1.out.wrote HI.out (f2 := p.f.set k { frA p.f k with b := fullP s, di := true, us := true }) List.length_set k3 r3))
      clear r3 k3 HY
      go_wp2_with fail
      go_ret
      exact ⟨by rw [ES.out]; rfl, by rw [EL.out]; exact FIN.out⟩
    · have EL : Hid (setP p l s = p) := Lib.hid (by unfold setP; rw [ES.out, if_neg he])
      generalize ptrQ F p.f.length (pnI p l) = po at *
      rw [ES.out]
      generalize pinE p l = e at *
      have d1 : (e == 0) = false := by simp [he]
      have d2 : (e != 0) = true := by simp [he]
      clear he hs ES
      go_wp2_with fail
      refine (HT.out).mono ?_
      rintro r w1 ⟨rfl, hw⟩
      subst hw
      go_wp2_with fail
      refine (HO.out).mono ?_
      rintro r w2 ⟨rfl, hb1⟩
      have T1 := Lib.hid (H.out.stays HI.out hb1)
      clear hb1 HO
      go_wp2_with fail
      go_ret
      exact ⟨rfl, by rw [EL.out]; exact T1.out⟩
end
end Go.Proofs.YtmflkkkbahghgaaGreat
