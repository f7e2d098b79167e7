/- The contracts of the program's seeker, room. The contracts of the program's bring, hold. The contracts of the program's hold, pinned, takes, Let, Set, Hold. What is held keeps its page: each call of a pool but Abort. Plain mathematics. -/
import Derived.Test.YtmflkkkbahghgaaGreatYZ18
import Derived.Test.YtmflkkkbahghgaaGreatYZ2
namespace Go.Proofs.YtmflkkkbahghgaaGreat
open Go.RowKit Go.Deep
set_option linter.unusedVariables false
set_option linter.unusedSimpArgs false
set_option maxRecDepth 100000

/-- a frame is made empty: the pool, which frame, the error -/
def rmQ (p : Plt) : Plt × Nat × Int :=
  if (vicP p).2 < p.f.length then
    (if bakE (vicP p).1 (vicP p).2 = 0 then ({ bakP (vicP p).1 (vicP p).2 with f := (bakP (vicP p).1 (vicP p).2).f.set (vicP p).2 noF }, (vicP p).2, 0)
     else (bakP (vicP p).1 (vicP p).2, p.f.length, bakE (vicP p).1 (vicP p).2))
  else (p, p.f.length, 12)
theorem emp_lst (f : List Frm) (n : Nat) : lstP (fun k => !fullB (frA f k)) n = lstP (emptyF f) n := lst_ext fun i hi => by
  unfold fullB emptyF
  by_cases h : 0 ≤ (frA f i).pg
  · rw [decide_eq_true h, decide_eq_false (by omega)]; rfl
  · rw [decide_eq_false h, decide_eq_true (by omega)]; rfl
theorem rm_empty {p : Plt} {hm : Nat} (hf : ∀ i, OkF hm (frA p.f i)) (c1 : lstP (emptyF p.f) p.f.length < p.f.length) : rmQ p = (p, lstP (emptyF p.f) p.f.length, 0) := by
  have hv : vicP p = (p, lstP (emptyF p.f) p.f.length) := by unfold vicP; rw [if_pos c1]
  have hn : frA p.f (lstP (emptyF p.f) p.f.length) = noF := (hf _).none (by
    have := lstP_at c1
    simpa [emptyF] using this)
  have hb : bakE p (lstP (emptyF p.f) p.f.length) = 0 := by unfold bakE; rw [hn]; rfl
  have hp : bakP p (lstP (emptyF p.f) p.f.length) = p := by unfold bakP; rw [hn]; rfl
  have hs : p.f.set (lstP (emptyF p.f) p.f.length) noF = p.f := by
    have := set_self (f := p.f) (i := lstP (emptyF p.f) p.f.length)
    rwa [hn] at this
  unfold rmQ
  rw [hv]
  dsimp only
  rw [if_pos c1, if_pos hb, hp, hs]
theorem vic_sk {p : Plt} (c1 : ¬ lstP (emptyF p.f) p.f.length < p.f.length) (c2 : loosN p < p.f.length) : vicP p = skP p := by
  unfold vicP skP
  rw [if_neg c1, if_pos c2]
  rfl
theorem loos_held {p : Plt} (c2 : ¬ loosN p < p.f.length) : ∀ i, i < p.f.length → 0 < (frA p.f i).held := by
  intro i hi
  have h1 : (!heldB p.f i) = false := lstP_ahead (p := fun k => !heldB p.f k) (n := p.f.length) i (by unfold loosN at c2; omega)
  have h2 : heldB p.f i = true := by simpa using h1
  unfold heldB at h2
  exact of_decide_eq_true h2
theorem sk_in {p : Plt} (hh : p.hand < p.f.length) (c2 : loosN p < p.f.length) : (skP p).2 < p.f.length ∧ heldB (skP p).1.f (skP p).2 = false := by
  have hfree : (frA p.f (loosN p)).held = 0 := by
    have h1 : (!heldB p.f (loosN p)) = true := lstP_at (p := fun k => !heldB p.f k) c2
    exact held_of.1 (by simpa using h1)
  have hlt : (vicN p.f.length (2 * p.f.length + 1) p.f p.hand).2.2 < p.f.length := by
    refine vicN_found c2 _ _ _ rfl hh hfree ?_
    unfold dstP
    split <;> split <;> omega
  have e : skP p = (pAq p (vicN p.f.length (2 * p.f.length + 1) p.f p.hand).1 (vicN p.f.length (2 * p.f.length + 1) p.f p.hand).2.1, (vicN p.f.length (2 * p.f.length + 1) p.f p.hand).2.2) := if_pos c2
  rw [e]
  exact ⟨hlt, held_of.2 (vicN_free _ _ _ _ hh hlt).1⟩
theorem rm_go {p : Plt} (hh : p.hand < p.f.length) (c1 : ¬ lstP (emptyF p.f) p.f.length < p.f.length) (c2 : loosN p < p.f.length) : rmQ p = (lvP (skP p).1 (skP p).2, if lvE (skP p).1 (skP p).2 = 0 then (skP p).2 else p.f.length, lvE (skP p).1 (skP p).2) := by
  obtain ⟨h1, h2⟩ := sk_in hh c2
  unfold rmQ lvP lvE
  rw [vic_sk c1 c2, if_pos h1, h2]
  simp only [Bool.false_eq_true, if_false]
  by_cases e : bakE (skP p).1 (skP p).2 = 0
  · rw [if_pos e, if_pos e, if_pos e, e]
  · rw [if_neg e, if_neg e, if_neg e]
theorem rm_held {p : Plt} (hh : p.hand < p.f.length) (c1 : ¬ lstP (emptyF p.f) p.f.length < p.f.length) (c2 : ¬ loosN p < p.f.length) : rmQ p = (p, p.f.length, 12) := by
  have he : ∀ i, i < p.f.length → 0 ≤ (frA p.f i).pg := by
    intro i hi
    have := lstP_ahead (p := emptyF p.f) (n := p.f.length) i (by omega)
    unfold emptyF at this
    have := of_decide_eq_false this
    omega
  have := vicP_none hh (loos_held c2) he
  unfold rmQ
  rw [if_neg (by omega)]
theorem rm_in {p : Plt} (h : (rmQ p).2.2 = 0) : (rmQ p).2.1 < p.f.length := by
  unfold rmQ at h ⊢
  split at h
  · next c =>
    split at h
    · next e => rw [if_pos c, if_pos e]; exact c
    · next e => exact absurd h e
  · exact absurd (show (12 : Int) = 0 from h) (by decide)
section
variable {PM : StM} {PF PC : FlM} {base D P Y F c : Nat} {p : Plt} {S : Nat → Bool} {u : World}
theorem qseeker_any (u : World) : Calls Tryz.prog 171 #[.pointer (some ⟨Y, 0, none⟩)] u fun r u' => r = .returned (.func (.func 184) #[] #[.pointer (some ⟨u.heap.size, 0, none⟩)]) ∧ BoxY Y u.heap.size u' ∧ Below u.heap.size u u' := by
  have hmf : ∀ (fn : Fn) (first cap : Array Value) (w : World), (Instr.makeFunc fn first cap).run Tryz.prog w = .ok (.func fn first cap) w := fun _ _ _ _ => rfl
  have B1 := Lib.hid (balloc u (.cells #[.pointer (some ⟨Y, 0, none⟩)] 23))
  have X1 : Hid (BoxY Y u.heap.size (u.alloc (.cells #[.pointer (some ⟨Y, 0, none⟩)] 23))) := Lib.hid (heap_alloc_new u (.cells #[.pointer (some ⟨Y, 0, none⟩)] 23))
  go_enter Tryz.func171, Tryz.ntmps171
  go_wp2_with fail
  go_ret
  exact ⟨rfl, X1.out, B1.out⟩
theorem sk_x (p : Plt) : (skP p).1.x = p.x ∧ (skP p).1.f.length = p.f.length := by
  unfold skP
  split
  · exact ⟨rfl, vicN_len _ _ _ _⟩
  · exact ⟨rfl, rfl⟩
theorem sk_f {hm : Nat} {p : Plt} (hf : ∀ i, OkF hm (frA p.f i)) : ∀ i, OkF hm (frA (skP p).1.f i) := by
  unfold skP
  split
  · exact vicN_okf _ _ _ _ hf
  · exact hf
set_option maxHeartbeats 3200000 in
theorem qroom_any (I : Sh14 PM PF PC) (h : PqAt PM base D P Y F c p S u) (ok : OkX p.x) (hbase : base ≤ u.heap.size) {hm : Nat} (hl : p.f.length ≤ 32) (hh : p.hand < p.f.length) (hf : ∀ i, OkF hm (frA p.f i)) : Calls Tryz.prog 142 #[.pointer (some ⟨Y, 0, none⟩)] u fun r u' => r = .returned (.tuple #[.pointer (ptrQ F p.f.length (rmQ p).2.1), .int .i64 (rmQ p).2.2]) ∧ PqTo PM base D P Y F c S (rmQ p).1 u u' := by
  have hmf : ∀ (fn : Fn) (first cap : Array Value) (w : World), (Instr.makeFunc fn first cap).run Tryz.prog w = .ok (.func fn first cap) w := fun _ _ _ _ => rfl
  have HF := Lib.hid (qfirst_any h hl (ask_empty h.row))
  rw [emp_lst] at HF
  have H := Lib.hid h
  have HI := Lib.hid I
  have OK := Lib.hid ok
  have HBASE := Lib.hid hbase
  have HL := Lib.hid hl
  have HH := Lib.hid hh
  have HFF := Lib.hid hf
  clear h I ok hbase hl hh hf
  go_enter Tryz.func142, Tryz.ntmps142
  by_cases c1 : lstP (emptyF p.f) p.f.length < p.f.length
  · have E := Lib.hid (rm_empty HFF.out c1)
    rw [ptrQ_in c1] at HF
    have E1 : Hid (ptrQ F p.f.length (rmQ p).2.1 = some ⟨F, lstP (emptyF p.f) p.f.length * 237, none⟩) := Lib.hid (by rw [E.out]; exact ptrQ_in c1)
    have E2 : Hid ((rmQ p).2.2 = 0) := Lib.hid (by rw [E.out])
    have E3 : Hid ((rmQ p).1 = p) := Lib.hid (by rw [E.out])
    generalize lstP (emptyF p.f) p.f.length = k at *
    clear c1 hmf
    go_wp2_with fail
    refine (HF.out).mono ?_
    rintro r w1 ⟨rfl, hw⟩
    subst hw
    go_wp2_with fail
    go_ret2
    exact ⟨by rw [E1.out, E2.out]; rfl, by rw [E3.out]; exact H.out.same⟩
  · rw [ptrQ_out c1] at HF
    have HS := Lib.hid (qseeker_any (Y := Y) u)
    by_cases c2 : loosN p < p.f.length
    · have E := Lib.hid (rm_go HH.out c1 c2)
      have EIN := Lib.hid (sk_in HH.out c2)
      clear c1 c2
      go_wp2_with fail
      refine (HF.out).mono ?_
      rintro r w1 ⟨rfl, hw⟩
      subst hw
      go_wp2_with fail
      refine (HS.out).mono ?_
      rintro r w2 ⟨rfl, hbx, hb2⟩
      have BX := Lib.hid hbx
      have B2 := Lib.hid hb2
      have H2 := Lib.hid (H.out.below HI.out hb2)
      have NB : Hid (pqS S Y F w1.heap.size = false) := Lib.hid (by
        cases q : pqS S Y F w1.heap.size with
        | false => rfl
        | true => have := (H.out.slo HI.out _ q).2; omega)
      have HK := Lib.hid (qseek_any HI.out H2.out HL.out HH.out _ BX.out NB.out)
      rw [ptrQ_in EIN.out.1] at HK
      clear hbx hb2 HS HF
      go_wp2_with fail
      refine (HK.out).mono ?_
      rintro r w3 ⟨rfl, t3⟩
      have T3 := Lib.hid (PqTo.from B2.out t3)
      have HV : Hid (Calls Tryz.prog 71 #[.pointer (some ⟨F, (skP p).2 * 237, none⟩), .func (.func 50) #[.pointer (some ⟨Y, 0, none⟩)] #[]] w3 fun r u' => r = .returned (.int .i64 (lvE (skP p).1 (skP p).2)) ∧ PqTo PM base D P Y F c S (lvP (skP p).1 (skP p).2) w1 u') := Lib.hid (by
        obtain ⟨S3, a3, n3, k3⟩ := T3.out
        refine (left_save HI.out a3 (by rw [(sk_x p).1]; exact OK.out) (Nat.le_trans HBASE.out k3.size) (by rw [(sk_x p).2]; exact EIN.out.1) (sk_f HFF.out _)).mono ?_
        rintro r w4 ⟨rfl, S4, a4, n4, k4⟩
        exact ⟨rfl, S4, a4, n3.then n4 k3.size, kps_new (newPq n3) k3 k4⟩)
      clear t3 HK
      have EL := Lib.hid EIN.out.1
      generalize (skP p).2 = k at *
      generalize (skP p).1 = q at *
      go_wp2_with fail
      refine (HV.out).mono ?_
      rintro r w4 ⟨rfl, t4⟩
      have T4 := Lib.hid t4
      clear t4 HV
      by_cases he : lvE q k = 0
      · have E1 : Hid (ptrQ F p.f.length (rmQ p).2.1 = some ⟨F, k * 237, none⟩) := Lib.hid (by rw [E.out, if_pos he]; exact ptrQ_in EL.out)
        have E2 : Hid ((rmQ p).2.2 = 0) := Lib.hid (by rw [E.out]; exact he)
        have E3 : Hid ((rmQ p).1 = lvP q k) := Lib.hid (by rw [E.out])
        rw [he]
        go_wp2_with fail
        go_ret2
        exact ⟨by rw [E1.out, E2.out]; rfl, by rw [E3.out]; exact T4.out⟩
      · have E1 : Hid (ptrQ F p.f.length (rmQ p).2.1 = none) := Lib.hid (by rw [E.out, if_neg he]; exact ptrQ_out (Nat.lt_irrefl _))
        have E2 : Hid ((rmQ p).2.2 = lvE q k) := Lib.hid (by rw [E.out])
        have E3 : Hid ((rmQ p).1 = lvP q k) := Lib.hid (by rw [E.out])
        generalize lvE q k = e at *
        have d1 : (e == 0) = false := by simp [he]
        have d2 : (e != 0) = true := by simp [he]
        clear he
        go_wp2_with fail
        go_ret2
        exact ⟨by rw [E1.out, E2.out]; rfl, by rw [E3.out]; exact T4.out⟩
    · have E := Lib.hid (rm_held HH.out c1 c2)
      have ES : Hid (skP p = (p, p.f.length)) := Lib.hid (if_neg c2)
      have E1 : Hid (ptrQ F p.f.length (rmQ p).2.1 = none) := Lib.hid (by rw [E.out]; exact ptrQ_out (Nat.lt_irrefl _))
      have E2 : Hid ((rmQ p).2.2 = 12) := Lib.hid (by rw [E.out])
      have E3 : Hid ((rmQ p).1 = p) := Lib.hid (by rw [E.out])
      clear c1 c2
      go_wp2_with fail
      refine (HF.out).mono ?_
      rintro r w1 ⟨rfl, hw⟩
      subst hw
      go_wp2_with fail
      refine (HS.out).mono ?_
      rintro r w2 ⟨rfl, hbx, hb2⟩
      have BX := Lib.hid hbx
      have B2 := Lib.hid hb2
      have H2 := Lib.hid (H.out.below HI.out hb2)
      have NB : Hid (pqS S Y F w1.heap.size = false) := Lib.hid (by
        cases q : pqS S Y F w1.heap.size with
        | false => rfl
        | true => have := (H.out.slo HI.out _ q).2; omega)
      have HK := Lib.hid (qseek_any HI.out H2.out HL.out HH.out _ BX.out NB.out)
      rw [ES.out, ptrQ_out (show ¬ (p, p.f.length).2 < p.f.length from Nat.lt_irrefl _)] at HK
      clear hbx hb2 HS HF
      go_wp2_with fail
      refine (HK.out).mono ?_
      rintro r w3 ⟨rfl, t3⟩
      have T3 := Lib.hid (PqTo.from B2.out t3)
      clear t3 HK
      go_wp2_with fail
      go_ret2
      exact ⟨by rw [E1.out, E2.out]; rfl, by rw [E3.out]; exact T3.out⟩
end
end Go.Proofs.YtmflkkkbahghgaaGreat
namespace Go.Proofs.YtmflkkkbahghgaaGreat
open Go.RowKit Go.Deep
set_option linter.unusedVariables false
set_option linter.unusedSimpArgs false
set_option maxRecDepth 100000

theorem rm_no {p : Plt} (h : (rmQ p).2.2 = 0) : frA (rmQ p).1.f (rmQ p).2.1 = noF ∧ (rmQ p).2.1 < (rmQ p).1.f.length := by
  have hin := rm_in h
  unfold rmQ at h hin ⊢
  split at h
  · next c =>
    split at h
    · next e =>
      rw [if_pos c, if_pos e]
      have hlen : (bakP (vicP p).1 (vicP p).2).f.length = p.f.length := by
        rw [bakP_len]
        unfold vicP
        split
        · rfl
        · exact vicN_len _ _ _ _
      refine ⟨?_, ?_⟩
      · show frA (List.set _ _ _) _ = _
        rw [frA_set, if_pos ⟨rfl, by rw [hlen]; exact c⟩]
      · show (vicP p).2 < (List.set _ _ _).length
        rw [List.length_set, hlen]
        exact c
    · next e => exact absurd h e
  · exact absurd (show (12 : Int) = 0 from h) (by decide)
theorem rm_len (p : Plt) : (rmQ p).1.f.length = p.f.length := by
  have hlen : (bakP (vicP p).1 (vicP p).2).f.length = p.f.length := by
    rw [bakP_len]
    unfold vicP
    split
    · rfl
    · exact vicN_len _ _ _ _
  unfold rmQ
  split
  · split
    · show (List.set _ _ _).length = _
      rw [List.length_set, hlen]
    · exact hlen
  · rfl
/-- a page is brought: the pool, which frame, the error -/
def brR (p : Plt) (l : Int) : Plt × Nat × Int :=
  if inS p.x.now l then (if (rmQ p).2.2 = 0 then ({ (rmQ p).1 with f := (rmQ p).1.f.set (rmQ p).2.1 ⟨l, (slA p.x.now l.toNat).b, 0, false, false⟩ }, (rmQ p).2.1, 0) else ((rmQ p).1, p.f.length, (rmQ p).2.2))
  else (p, p.f.length, 3)
section
variable {F n c i : Nat} {f : List Frm} {u : World}
theorem QRow.holds (h : QRow F n f c u) (hf : f.length = n) (hi : i < n) (m : Nat) : QRow F n (f.set i { frA f i with held := m }) c (u.setCell ⟨F, i * 237 + 234, none⟩ (.int .i64 (m : Int))) :=
  h.set1 hf hi { frA f i with held := m } 234 (by omega) (by
    refine fmV_cases ?_ ?_ ?_ ?_ ?_ ?_
    · intro _; rfl
    · intro _; rfl
    · intro k hk _; rw [fmV_pay _ hk, fmV_pay _ hk]
    · intro h9; exact absurd rfl h9
    · intro _; rfl
    · intro _; rfl)
theorem QRow.use (h : QRow F n f c u) (hf : f.length = n) (hi : i < n) : QRow F n (f.set i { frA f i with us := true }) c (u.setCell ⟨F, i * 237 + 236, none⟩ (.bool true)) :=
  h.set1 hf hi { frA f i with us := true } 236 (by omega) (by
    refine fmV_cases ?_ ?_ ?_ ?_ ?_ ?_
    · intro _; rfl
    · intro _; rfl
    · intro k hk _; rw [fmV_pay _ hk, fmV_pay _ hk]
    · intro _; rfl
    · intro _; rfl
    · intro h9; exact absurd rfl h9)
/-- an empty frame gets a page's number -/
theorem QRow.named (h : QRow F n f c u) (hf : f.length = n) (hi : i < n) (hn : frA f i = noF) {l : Int} (hl : 0 ≤ l) : QRow F n (f.set i ⟨l, ByteArray.empty, 0, false, false⟩) c ((u.setCell ⟨F, i * 237, none⟩ (.bool true)).setCell ⟨F, i * 237 + 1, none⟩ (.int .i64 l)) := by
  have r1 := h.set1 hf hi ⟨0, ByteArray.empty, 0, false, false⟩ 0 (by omega) (by
    rw [hn]
    refine fmV_cases ?_ ?_ ?_ ?_ ?_ ?_
    · intro h9; exact absurd rfl h9
    · intro _; rfl
    · intro k hk _; rw [fmV_pay _ hk, fmV_pay _ hk]; rfl
    · intro _; rfl
    · intro _; rfl
    · intro _; rfl)
  have hx : frA (f.set i ⟨0, ByteArray.empty, 0, false, false⟩) i = ⟨0, ByteArray.empty, 0, false, false⟩ := by rw [frA_set, if_pos ⟨rfl, by omega⟩]
  have hfu : fullB ⟨l, ByteArray.empty, 0, false, false⟩ = true := decide_eq_true hl
  have r2 := r1.set1 (i := i) (by rw [List.length_set]; exact hf) hi ⟨l, ByteArray.empty, 0, false, false⟩ 1 (by omega) (by
    rw [hx]
    refine fmV_cases ?_ ?_ ?_ ?_ ?_ ?_
    · intro _
      rw [fmV_0, fmV_0, hfu]
      rfl
    · intro h9; exact absurd rfl h9
    · intro k hk _; rw [fmV_pay _ hk, fmV_pay _ hk]
    · intro _; rfl
    · intro _; rfl
    · intro _; rfl)
  rw [List.set_set, fmV_1, show pgN ⟨l, ByteArray.empty, 0, false, false⟩ = l from if_pos hl, fmV_0, show fullB ⟨0, ByteArray.empty, 0, false, false⟩ = true from rfl, Nat.add_zero] at r2
  exact r2
end
section
variable {PM : StM} {PF PC : FlM} {base D P Y F c : Nat} {p : Plt} {S : Nat → Bool} {u : World}
set_option maxHeartbeats 3200000 in
theorem qbring_any (I : Sh14 PM PF PC) (h : PqAt PM base D P Y F c p S u) (ok : OkX p.x) (hbase : base ≤ u.heap.size) {hm : Nat} (hl : p.f.length ≤ 32) (hh : p.hand < p.f.length) (hf : ∀ i, OkF hm (frA p.f i)) (hp : PayS p.x.now) (l : Int) : Calls Tryz.prog 100 #[.pointer (some ⟨Y, 0, none⟩), .int .i64 l] u fun r u' => r = .returned (.tuple #[.pointer (ptrQ F p.f.length (brR p l).2.1), .int .i64 (brR p l).2.2]) ∧ PqTo PM base D P Y F c S (brR p l).1 u u' := by
  obtain ⟨x0, x1, x2, f0, f1, f2⟩ := h.cells
  have HR := Lib.hid (I.read l h.st ok hbase)
  have H := Lib.hid h
  have HI := Lib.hid I
  have OK := Lib.hid ok
  have HBASE := Lib.hid hbase
  have HL := Lib.hid hl
  have HH := Lib.hid hh
  have HFF := Lib.hid hf
  have HPP := Lib.hid hp
  clear h I ok hbase hl hh hf hp x1 x2 f0 f1 f2
  go_enter Tryz.func100, Tryz.ntmps100
  by_cases c1 : inS p.x.now l
  · rw [if_pos c1, if_pos c1] at HR
    have hb : (slA p.x.now l.toNat).b.size = 232 := (HPP.out _).2 c1.2
    have EB := Lib.hid (show brR p l = _ from if_pos c1)
    have HL0 := Lib.hid c1.1
    have HFB := Lib.hid (full_self hb)
    have HSB := Lib.hid (show (slA p.x.now l.toNat).b.size ≤ 232 by omega)
    generalize (slA p.x.now l.toNat).b = b at *
    clear c1 hb
    go_wp2_with fail
    refine (HR.out).mono ?_
    rintro r w1 ⟨rfl, hb1⟩
    have B1 := Lib.hid hb1
    have H1 := Lib.hid (H.out.below HI.out hb1)
    have HM := Lib.hid (qroom_any HI.out H1.out OK.out (Nat.le_trans HBASE.out hb1.size) HL.out HH.out HFF.out)
    clear hb1 HR x0
    go_wp2_with fail
    refine (HM.out).mono ?_
    rintro r w2 ⟨rfl, t2⟩
    have T2 := Lib.hid (PqTo.from B1.out t2)
    clear t2 HM
    by_cases he : (rmQ p).2.2 = 0
    · have N := Lib.hid (rm_no he)
      have IN := Lib.hid (rm_in he)
      have LN := Lib.hid (rm_len p)
      rw [if_pos he] at EB
      rw [he, ptrQ_in (rm_in he)]
      obtain ⟨S2, a2⟩ := T2.out.at
      have R2 : Hid (QRow F p.f.length (rmQ p).1.f c w2) := Lib.hid (by have := a2.row; rwa [LN.out] at this)
      have E1 : Hid (ptrQ F p.f.length (brR p l).2.1 = some ⟨F, (rmQ p).2.1 * 237, none⟩) := Lib.hid (by rw [EB.out]; exact ptrQ_in IN.out)
      have E2 : Hid ((brR p l).2.2 = 0) := Lib.hid (by rw [EB.out])
      generalize (rmQ p).2.1 = k at *
      obtain ⟨c0, c1, _, _, _⟩ := QRow.cells R2.out IN.out
      have z0 := RowB.frozen R2.out (k * 237)
      have z1 := RowB.frozen R2.out (k * 237 + 1)
      have R3 := Lib.hid (R2.out.named LN.out IN.out N.out.1 HL0.out)
      have K3 : Hid (KpS (O1 F) w2 ((w2.setCell ⟨F, k * 237, none⟩ (.bool true)).setCell ⟨F, k * 237 + 1, none⟩ (.int .i64 l))) := Lib.hid ((KpS.set (O1.a F) _ _ _).trans (KpS.set (O1.a F) _ _ _))
      have HY := Lib.hid (flay_any R3.out (by rw [List.length_set]; exact LN.out) IN.out b HSB.out)
      have FX : Hid (frA ((rmQ p).1.f.set k ⟨l, ByteArray.empty, 0, false, false⟩) k = ⟨l, ByteArray.empty, 0, false, false⟩) := Lib.hid (by rw [frA_set, if_pos ⟨rfl, N.out.2⟩])
      rw [FX.out, List.set_set, HFB.out] at HY
      clear a2 he
      go_wp2_with fail
      refine (HY.out).mono ?_
      rintro r w4 ⟨rfl, r4, k4⟩
      have FIN : Hid (PqTo PM base D P Y F c S (brR p l).1 u w4) := Lib.hid (by
        rw [EB.out]
        refine T2.out.trans fun S9 a9 => ?_
        exact a9.wrote HI.out (f2 := (rmQ p).1.f.set k ⟨l, b, 0, false, false⟩) List.length_set (K3.out.trans k4) (by rw [LN.out]; exact r4))
      clear r4 k4 HY
      go_wp2_with fail
      go_ret2
      exact ⟨by rw [E1.out, E2.out]; rfl, FIN.out⟩
    · rw [if_neg he] at EB
      have E1 : Hid (ptrQ F p.f.length (brR p l).2.1 = none) := Lib.hid (by rw [EB.out]; exact ptrQ_out (Nat.lt_irrefl _))
      have E2 : Hid ((brR p l).2.2 = (rmQ p).2.2) := Lib.hid (by rw [EB.out])
      have E3 : Hid ((brR p l).1 = (rmQ p).1) := Lib.hid (by rw [EB.out])
      generalize ptrQ F p.f.length (rmQ p).2.1 = po at *
      generalize (rmQ p).2.2 = e at *
      have d1 : (e == 0) = false := by simp [he]
      have d2 : (e != 0) = true := by simp [he]
      clear he
      go_wp2_with fail
      go_ret2
      exact ⟨by rw [E1.out, E2.out]; rfl, by rw [E3.out]; exact T2.out⟩
  · rw [if_neg c1, if_neg c1] at HR
    have EB := Lib.hid (show brR p l = (p, p.f.length, 3) from if_neg c1)
    clear c1
    go_wp2_with fail
    refine (HR.out).mono ?_
    rintro r w1 ⟨rfl, hb1⟩
    have T1 := Lib.hid (H.out.stays HI.out hb1)
    clear hb1
    go_wp2_with fail
    go_ret2
    exact ⟨by rw [EB.out]; show _ = Ending.returned (.tuple #[.pointer (ptrQ F p.f.length p.f.length), _]); rw [ptrQ_out (Nat.lt_irrefl _)]; rfl, by rw [EB.out]; exact T1.out⟩
end
end Go.Proofs.YtmflkkkbahghgaaGreat
namespace Go.Proofs.YtmflkkkbahghgaaGreat
open Go.RowKit Go.Deep
set_option linter.unusedVariables false
set_option linter.unusedSimpArgs false
set_option maxRecDepth 100000

/-- what the calls of a pool are asked for -/
structure OkP (p : Plt) : Prop where
  x : OkX p.x
  len : p.f.length ≤ 32
  hand : p.hand < p.f.length
  f : ∀ i, OkF 1000000 (frA p.f i)
  pay : PayS p.x.now
theorem OkW.p {k : Nat} {e : Int} {m : Nat} {p : Plt} (h : OkW k e m p) (hk : k ≤ 900000) (he : e ≤ 1000000) (hm : m ≤ 1000000) : OkP p :=
  ⟨⟨h.now, h.old, ⟨h.many.1, by have := h.many.2; omega⟩, ⟨h.ep.1, by have := h.ep.2; omega⟩, Nat.le_trans h.cl hk⟩, h.len.2, h.hand, fun i => (h.fr i).up hm, h.pn⟩
/-- once more held, and used -/
def onceF (p : Plt) (k : Nat) : Plt := { p with f := p.f.set k { frA p.f k with held := (frA p.f k).held + 1, us := true } }
/-- a page is held: the pool, which frame, the error -/
def hoQ (p : Plt) (l : Int) : Plt × Nat × Int :=
  if fndF p.f l < p.f.length then (onceF p (fndF p.f l), fndF p.f l, 0)
  else if (brR p l).2.2 = 0 then (onceF (brR p l).1 (brR p l).2.1, (brR p l).2.1, 0)
  else brR p l
theorem br_in {p : Plt} {l : Int} (h : (brR p l).2.2 = 0) : (brR p l).2.1 < p.f.length ∧ (brR p l).1.f.length = p.f.length ∧ OkF 0 (frA (brR p l).1.f (brR p l).2.1) ∨ ¬ PayS p.x.now := by
  by_cases hp : PayS p.x.now
  · refine .inl ?_
    unfold brR at h ⊢
    by_cases c1 : inS p.x.now l
    · rw [if_pos c1] at h ⊢
      by_cases he : (rmQ p).2.2 = 0
      · rw [if_pos he]
        refine ⟨rm_in he, List.length_set.trans (rm_len p), ?_⟩
        show OkF 0 (frA (List.set _ _ _) _)
        rw [frA_set, if_pos ⟨rfl, (rm_no he).2⟩]
        exact .inr ⟨c1.1, (hp _).2 c1.2, Nat.le_refl _⟩
      · rw [if_neg he] at h
        exact absurd h he
    · rw [if_neg c1] at h
      exact absurd (show (3 : Int) = 0 from h) (by decide)
  · exact .inr hp
theorem br_out {p : Plt} {l : Int} (h : (brR p l).2.2 ≠ 0) : (brR p l).2.1 = p.f.length := by
  unfold brR at h ⊢
  by_cases c1 : inS p.x.now l
  · rw [if_pos c1] at h ⊢
    by_cases he : (rmQ p).2.2 = 0
    · rw [if_pos he] at h
      exact absurd rfl h
    · rw [if_neg he]
  · rw [if_neg c1]
section
variable {PM : StM} {PF PC : FlM} {base D P Y F c : Nat} {p : Plt} {S : Nat → Bool} {u : World}
theorem once_wrote (I : Sh14 PM PF PC) (h : PqAt PM base D P Y F c p S u) {k : Nat} (hk : k < p.f.length) : PqTo PM base D P Y F c S (onceF p k) u ((u.setCell ⟨F, k * 237 + 234, none⟩ (.int .i64 (((frA p.f k).held + 1 : Nat) : Int))).setCell ⟨F, k * 237 + 236, none⟩ (.bool true)) := by
  have r1 := QRow.holds h.row rfl hk ((frA p.f k).held + 1)
  have hx : frA (p.f.set k { frA p.f k with held := (frA p.f k).held + 1 }) k = { frA p.f k with held := (frA p.f k).held + 1 } := by rw [frA_set, if_pos ⟨rfl, hk⟩]
  have r2 := QRow.use r1 List.length_set hk
  rw [hx, List.set_set] at r2
  exact h.wrote I (f2 := p.f.set k { frA p.f k with held := (frA p.f k).held + 1, us := true }) List.length_set ((KpS.set (O1.a F) _ _ _).trans (KpS.set (O1.a F) _ _ _)) r2
set_option maxHeartbeats 3200000 in
theorem qhold_any (I : Sh14 PM PF PC) (h : PqAt PM base D P Y F c p S u) (ok : OkP p) (hbase : base ≤ u.heap.size) (l : Int) : Calls Tryz.prog 58 #[.pointer (some ⟨Y, 0, none⟩), .int .i64 l] u fun r u' => r = .returned (.tuple #[.pointer (ptrQ F p.f.length (hoQ p l).2.1), .int .i64 (hoQ p l).2.2]) ∧ PqTo PM base D P Y F c S (hoQ p l).1 u u' := by
  have HO := Lib.hid (qof_any I h ok.len l)
  have H := Lib.hid h
  have HI := Lib.hid I
  have OK := Lib.hid ok
  have HBASE := Lib.hid hbase
  clear h I ok hbase
  go_enter Tryz.func58, Tryz.ntmps58
  by_cases c1 : fndF p.f l < p.f.length
  · have E := Lib.hid (show hoQ p l = _ from if_pos c1)
    rw [ptrQ_in c1] at HO
    have E1 : Hid (ptrQ F p.f.length (hoQ p l).2.1 = some ⟨F, fndF p.f l * 237, none⟩) := Lib.hid (by rw [E.out]; exact ptrQ_in c1)
    have E2 : Hid ((hoQ p l).2.2 = 0) := Lib.hid (by rw [E.out])
    have E3 : Hid ((hoQ p l).1 = onceF p (fndF p.f l)) := Lib.hid (by rw [E.out])
    generalize fndF p.f l = k at *
    have HK := Lib.hid c1
    clear c1
    go_wp2_with fail
    refine (HO.out).mono ?_
    rintro r w1 ⟨rfl, hb1⟩
    have H1 := Lib.hid (H.out.below HI.out hb1)
    have B1 := Lib.hid hb1
    obtain ⟨_, _, c2, _, c4⟩ := QRow.cells H1.out.row HK.out
    have z2 := RowB.frozen H1.out.row (k * 237 + 234)
    have z4 := RowB.frozen H1.out.row (k * 237 + 236)
    have FIN := Lib.hid (PqTo.from B1.out (once_wrote HI.out H1.out HK.out))
    have hm := (OK.out.f k).held
    have HW : IntKind.i64.wrap (((frA p.f k).held : Int) + 1) = (((frA p.f k).held + 1 : Nat) : Int) := by rw [IntKind.wrap_i64]; omega
    clear hb1 HO hm
    generalize (((frA p.f k).held + 1 : Nat) : Int) = hv at *
    generalize ((frA p.f k).held : Int) = hw at *
    go_wp2_with fail
    go_ret2
    exact ⟨by rw [E1.out, E2.out]; rfl, by rw [E3.out]; exact FIN.out⟩
  · rw [ptrQ_out c1] at HO
    have E : Hid (hoQ p l = if (brR p l).2.2 = 0 then (onceF (brR p l).1 (brR p l).2.1, (brR p l).2.1, 0) else brR p l) := Lib.hid (if_neg c1)
    clear c1
    go_wp2_with fail
    refine (HO.out).mono ?_
    rintro r w1 ⟨rfl, hb1⟩
    have B1 := Lib.hid hb1
    have H1 := Lib.hid (H.out.below HI.out hb1)
    have HB := Lib.hid (qbring_any HI.out H1.out OK.out.x (Nat.le_trans HBASE.out hb1.size) OK.out.len OK.out.hand OK.out.f OK.out.pay l)
    clear hb1 HO
    go_wp2_with fail
    refine (HB.out).mono ?_
    rintro r w2 ⟨rfl, t2⟩
    have T2 := Lib.hid (PqTo.from B1.out t2)
    clear t2 HB
    by_cases he : (brR p l).2.2 = 0
    · obtain ⟨i1, i2, i3⟩ : (brR p l).2.1 < p.f.length ∧ (brR p l).1.f.length = p.f.length ∧ OkF 0 (frA (brR p l).1.f (brR p l).2.1) := by
        rcases br_in he with h9 | h9
        · exact h9
        · exact absurd OK.out.pay h9
      rw [if_pos he] at E
      rw [he, ptrQ_in i1]
      have E1 : Hid (ptrQ F p.f.length (hoQ p l).2.1 = some ⟨F, (brR p l).2.1 * 237, none⟩) := Lib.hid (by rw [E.out]; exact ptrQ_in i1)
      have E2 : Hid ((hoQ p l).2.2 = 0) := Lib.hid (by rw [E.out])
      have E3 : Hid ((hoQ p l).1 = onceF (brR p l).1 (brR p l).2.1) := Lib.hid (by rw [E.out])
      have hm := i3.held
      obtain ⟨S2, a2⟩ := T2.out.at
      have i4 : (brR p l).2.1 < (brR p l).1.f.length := by rw [i2]; exact i1
      generalize (brR p l).2.1 = k at *
      generalize (brR p l).1 = q at *
      obtain ⟨_, _, c2, _, c4⟩ := QRow.cells a2.row i4
      have z2 := RowB.frozen a2.row (k * 237 + 234)
      have z4 := RowB.frozen a2.row (k * 237 + 236)
      have FIN : Hid (PqTo PM base D P Y F c S (onceF q k) u ((w2.setCell ⟨F, k * 237 + 234, none⟩ (.int .i64 (((frA q.f k).held + 1 : Nat) : Int))).setCell ⟨F, k * 237 + 236, none⟩ (.bool true))) := Lib.hid (T2.out.trans fun S9 a9 => once_wrote HI.out a9 i4)
      have HW : IntKind.i64.wrap (((frA q.f k).held : Int) + 1) = (((frA q.f k).held + 1 : Nat) : Int) := by rw [IntKind.wrap_i64]; omega
      clear hm a2 i1 i2 i3 i4 he
      generalize (((frA q.f k).held + 1 : Nat) : Int) = hv at *
      generalize ((frA q.f k).held : Int) = hw at *
      go_wp2_with fail
      go_ret2
      exact ⟨by rw [E1.out, E2.out]; rfl, by rw [E3.out]; exact FIN.out⟩
    · rw [if_neg he] at E
      have E1 : Hid (ptrQ F p.f.length (hoQ p l).2.1 = none) := Lib.hid (by rw [E.out, br_out he]; exact ptrQ_out (Nat.lt_irrefl _))
      have E2 : Hid ((hoQ p l).2.2 = (brR p l).2.2) := Lib.hid (by rw [E.out])
      have E3 : Hid ((hoQ p l).1 = (brR p l).1) := Lib.hid (by rw [E.out])
      generalize ptrQ F p.f.length (brR p l).2.1 = po at *
      generalize (brR p l).2.2 = e at *
      have d1 : (e == 0) = false := by simp [he]
      have d2 : (e != 0) = true := by simp [he]
      clear he
      go_wp2_with fail
      go_ret2
      exact ⟨by rw [E1.out, E2.out]; rfl, by rw [E3.out]; exact T2.out⟩
/-- the frame of a page that is held -/
def pnI (p : Plt) (l : Int) : Nat := if pinE p l = 0 then fndF p.f l else p.f.length
theorem qpinned_any (I : Sh14 PM PF PC) (h : PqAt PM base D P Y F c p S u) (hl : p.f.length ≤ 32) (l : Int) : Calls Tryz.prog 69 #[.pointer (some ⟨Y, 0, none⟩), .int .i64 l] u fun r u' => r = .returned (.tuple #[.pointer (ptrQ F p.f.length (pnI p l)), .int .i64 (pinE p l)]) ∧ Below u.heap.size u u' := by
  have HO := Lib.hid (qof_any I h hl l)
  have H := Lib.hid h
  have HI := Lib.hid I
  clear h I
  go_enter Tryz.func69, Tryz.ntmps69
  by_cases c1 : fndF p.f l < p.f.length
  · rw [ptrQ_in c1] at HO
    have EP : Hid (pinE p l = if heldB p.f (fndF p.f l) then 0 else 16) := Lib.hid (by
      unfold pinE heldB
      by_cases h0 : 0 < (frA p.f (fndF p.f l)).held
      · rw [if_pos ⟨c1, h0⟩, decide_eq_true h0, if_pos rfl]
      · rw [if_neg (fun q => h0 q.2), decide_eq_false h0, if_neg (by decide)])
    have EN : Hid (pnI p l = if pinE p l = 0 then fndF p.f l else p.f.length) := Lib.hid rfl
    have HK := Lib.hid c1
    generalize fndF p.f l = k at *
    clear c1
    go_wp2_with fail
    refine (HO.out).mono ?_
    rintro r w1 ⟨rfl, hb1⟩
    have H1 := Lib.hid (H.out.below HI.out hb1)
    have B1 := Lib.hid hb1
    have HE := Lib.hid (fheld_any H1.out.row HK.out)
    clear hb1 HO
    cases hb : heldB p.f k with
    | true =>
      rw [hb] at HE EP
      rw [EP.out] at EN
      have E1 : Hid (ptrQ F p.f.length (pnI p l) = some ⟨F, k * 237, none⟩) := Lib.hid (by rw [EN.out]; exact ptrQ_in HK.out)
      go_wp2_with fail
      refine (HE.out).mono ?_
      rintro r w2 ⟨rfl, hw⟩
      subst hw
      go_wp2_with fail
      go_ret2
      exact ⟨by rw [E1.out, EP.out]; rfl, B1.out⟩
    | false =>
      rw [hb] at HE EP
      rw [EP.out] at EN
      have E1 : Hid (ptrQ F p.f.length (pnI p l) = none) := Lib.hid (by rw [EN.out]; exact ptrQ_out (Nat.lt_irrefl _))
      go_wp2_with fail
      refine (HE.out).mono ?_
      rintro r w2 ⟨rfl, hw⟩
      subst hw
      go_wp2_with fail
      go_ret2
      exact ⟨by rw [E1.out, EP.out]; rfl, B1.out⟩
  · rw [ptrQ_out c1] at HO
    have EP : Hid (pinE p l = 16) := Lib.hid (if_neg fun q => c1 q.1)
    have E1 : Hid (ptrQ F p.f.length (pnI p l) = none) := Lib.hid (by
      have : pnI p l = p.f.length := by unfold pnI; rw [EP.out]; rfl
      rw [this]
      exact ptrQ_out (Nat.lt_irrefl _))
    clear c1
    go_wp2_with fail
    refine (HO.out).mono ?_
    rintro r w1 ⟨rfl, hb1⟩
    have B1 := Lib.hid hb1
    clear hb1
    go_wp2_with fail
    go_ret2
    exact ⟨by rw [E1.out, EP.out]; rfl, B1.out⟩
theorem qtakes_any (s : ByteArray) (u : World) : Calls Tryz.prog 40 #[.pointer (some ⟨Y, 0, none⟩), .string s] u fun r u' => r = .returned (.int .i64 (if 232 < s.size then 4 else 0)) ∧ u' = u := by
  go_enter Tryz.func40, Tryz.ntmps40
  by_cases h : 232 < s.size
  · have d1 : decide ((232 : Int) < (s.size : Int)) = true := decide_eq_true (by omega)
    rw [if_pos h]
    go_wp2_with fail
    go_ret
    exact ⟨rfl, rfl⟩
  · have d1 : decide ((232 : Int) < (s.size : Int)) = false := decide_eq_false (by omega)
    rw [if_neg h]
    go_wp2_with fail
    go_ret
    exact ⟨rfl, rfl⟩
end
end Go.Proofs.YtmflkkkbahghgaaGreat
namespace Go.Proofs.YtmflkkkbahghgaaGreat
open Go.RowKit
set_option linter.unusedVariables false
set_option linter.unusedSimpArgs false

theorem vicP_pg (p : Plt) (i : Nat) : (frA (vicP p).1.f i).pg = (frA p.f i).pg ∧ (frA (vicP p).1.f i).held = (frA p.f i).held := by
  unfold vicP
  split
  · exact ⟨rfl, rfl⟩
  · have := vicN_at p.f.length (2 * p.f.length + 1) p.f p.hand i
    exact ⟨this.1, this.2.1⟩
end Go.Proofs.YtmflkkkbahghgaaGreat
