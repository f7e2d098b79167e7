/- The contracts of the program's with, Get, Put. The contracts of the program's Store, New, Drop, Evict. -/
import Derived.Test.YtmflkkkbahghgaaGreatYQPqP10
namespace Go.Proofs.YtmflkkkbahghgaaGreat
open Go.RowKit Go.Deep
set_option linter.unusedVariables false
set_option linter.unusedSimpArgs false
set_option maxRecDepth 100000

/-- held once less -/
def lessF (q : Plt) (k : Nat) : Plt := { q with f := q.f.set k { frA q.f k with held := (frA q.f k).held - 1 } }
/-- the pool's blocks, and one more -/
def pqB (S : Nat → Bool) (Y F b : Nat) : Nat → Bool := fun j => pqS S Y F j || O1 b j
theorem pqB.l {S : Nat → Bool} {Y F b j : Nat} (h : pqS S Y F j = true) : pqB S Y F b j = true := by simp [pqB, h]
theorem pqB.r {S : Nat → Bool} {Y F b j : Nat} (h : O1 b j = true) : pqB S Y F b j = true := by simp [pqB, h]
section
variable {PM : StM} {PF PC : FlM} {base D P Y F c : Nat} {p : Plt} {S : Nat → Bool} {u : World}
/-- what 'do' is asked for -/
def DoQ (PM : StM) (base D P Y F c N b : Nat) (q q2 : Plt) (k : Nat) (B0 B1 : Obj) : Prop :=
  (∀ w, (callFunc N #[.pointer (some ⟨F, k * 237, none⟩), .pointer (some ⟨b, 0, none⟩)]).run Tryz.prog w = .ok (.enter N #[.pointer (some ⟨F, k * 237, none⟩), .pointer (some ⟨b, 0, none⟩)]) w) ∧
  ∀ S2 w, PqAt PM base D P Y F c q S2 w → pqS S2 Y F b = false → w.heap[b]? = some B0 → Calls Tryz.prog N #[.pointer (some ⟨F, k * 237, none⟩), .pointer (some ⟨b, 0, none⟩)] w fun r w' => r = .returned (.tuple #[]) ∧ PqAt PM base D P Y F c q2 S2 w' ∧ KpS (fun j => O1 F j || O1 b j) w w' ∧ w'.heap[b]? = some B1
set_option maxHeartbeats 3200000 in
theorem qwith_any (I : Sh14 PM PF PC) (h : PqAt PM base D P Y F c p S u) (ok : OkP p) (hbase : base ≤ u.heap.size) (l : Int) {N b : Nat} {B0 B1 : Obj} {q2 : Plt} (hb : u.heap[b]? = some B0) (hs : pqS S Y F b = false) (hk2 : (hoQ p l).2.2 = 0 → (hoQ p l).2.1 < q2.f.length ∧ 1 ≤ (frA q2.f (hoQ p l).2.1).held ∧ (frA q2.f (hoQ p l).2.1).held ≤ 1000001) (hdo : (hoQ p l).2.2 = 0 → DoQ PM base D P Y F c N b (hoQ p l).1 q2 (hoQ p l).2.1 B0 B1) :
    Calls Tryz.prog 41 #[.pointer (some ⟨Y, 0, none⟩), .int .i64 l, .func (.func N) #[] #[.pointer (some ⟨b, 0, none⟩)]] u fun r u' => r = .returned (.int .i64 (hoQ p l).2.2) ∧ ∃ S2, PqAt PM base D P Y F c (if (hoQ p l).2.2 = 0 then lessF q2 (hoQ p l).2.1 else (hoQ p l).1) S2 u' ∧ NewB S S2 u ∧ KpS (pqB S Y F b) u u' ∧ u'.heap[b]? = some (if (hoQ p l).2.2 = 0 then B1 else B0) := by
  have HO := Lib.hid (qhold_any I h ok hbase l)
  have H := Lib.hid h
  have HI := Lib.hid I
  have OK := Lib.hid ok
  have HB := Lib.hid hb
  have HS := Lib.hid hs
  have HBL := Lib.hid (lt_of_block hb)
  clear h I ok hbase hb hs
  go_enter Tryz.func41, Tryz.ntmps41
  by_cases he : (hoQ p l).2.2 = 0
  · obtain ⟨i1, i2, i3, i4, i5, i6⟩ := ho_in OK.out he
    obtain ⟨hent, hd⟩ := hdo he
    obtain ⟨j1, j2, j3⟩ := hk2 he
    rw [he, ptrQ_in (by omega)] at HO
    rw [he]
    have IN := Lib.hid i1
    have J1 := Lib.hid j1
    have HD := Lib.hid hd
    clear i1 i2 i3 i4 i5 i6 he hdo hk2 hd
    generalize (hoQ p l).2.1 = k at *
    generalize (hoQ p l).1 = q at *
    go_wp2_with fail
    refine (HO.out).mono ?_
    rintro r w1 ⟨rfl, t1⟩
    have T1 := Lib.hid t1
    have HC : Hid (Calls Tryz.prog N #[.pointer (some ⟨F, k * 237, none⟩), .pointer (some ⟨b, 0, none⟩)] w1 fun r w' => r = .returned (.tuple #[]) ∧ ∃ S2, PqAt PM base D P Y F c q2 S2 w' ∧ NewB S S2 u ∧ KpS (pqB S Y F b) u w' ∧ w'.heap[b]? = some B1) := Lib.hid (by
      obtain ⟨S1, a1, n1, k1⟩ := T1.out
      have nb : pqS S1 Y F b = false := by
        cases x : pqS S1 Y F b with
        | false => rfl
        | true =>
          rcases newPq n1 b x with h9 | h9
          · rw [HS.out] at h9; cases h9
          · have := HBL.out; omega
      refine (HD.out S1 w1 a1 nb ((k1.blk HBL.out HS.out).trans HB.out)).mono ?_
      rintro r w' ⟨rfl, a2, k2, hx⟩
      refine ⟨rfl, S1, a2, n1, ?_, hx⟩
      exact (k1.mono fun j hj => pqB.l hj).trans (k2.mono fun j hj => by
        rcases Bool.or_eq_true _ _ ▸ hj with h9 | h9
        · have : j = F := by simpa [O1] using h9
          rw [this]; exact pqB.l (pqS.f _ _ _)
        · exact pqB.r h9))
    clear t1 HO HD
    go_wp2_with fail
    refine (HC.out).mono ?_
    rintro r w2 ⟨rfl, S2, a2, n2, k2, hx⟩
    obtain ⟨_, _, c2, _, _⟩ := QRow.cells a2.row J1.out
    have z2 := RowB.frozen a2.row (k * 237 + 234)
    have HW : IntKind.i64.wrap (((frA q2.f k).held : Int) - 1) = (((frA q2.f k).held - 1 : Nat) : Int) := by rw [IntKind.wrap_i64]; omega
    have NBF : Hid (b ≠ F) := Lib.hid (pqS.inv HS.out).2.2
    have FIN : Hid (∃ S3, PqAt PM base D P Y F c (lessF q2 k) S3 (w2.setCell ⟨F, k * 237 + 234, none⟩ (.int .i64 (((frA q2.f k).held - 1 : Nat) : Int))) ∧ NewB S S3 u ∧ KpS (pqB S Y F b) u (w2.setCell ⟨F, k * 237 + 234, none⟩ (.int .i64 (((frA q2.f k).held - 1 : Nat) : Int))) ∧ (w2.setCell ⟨F, k * 237 + 234, none⟩ (.int .i64 (((frA q2.f k).held - 1 : Nat) : Int))).heap[b]? = some B1) := Lib.hid (by
      have ks := KpS.set (O1.a F) (k * 237 + 234) (.int .i64 (((frA q2.f k).held - 1 : Nat) : Int)) w2
      obtain ⟨S3, a3, n3, k3⟩ := unhold_wrote HI.out a2 J1.out
      refine ⟨S3, a3, n2.then n3 k2.size, k2.trans (ks.mono fun j hj => ?_), (ks.blk (lt_of_block hx) (O1.no NBF.out)).trans hx⟩
      have : j = F := by simpa [O1] using hj
      rw [this]; exact pqB.l (pqS.f _ _ _))
    clear a2 n2 k2 hx HC j1 j2 j3
    generalize (((frA q2.f k).held - 1 : Nat) : Int) = hv at *
    generalize ((frA q2.f k).held : Int) = hw at *
    go_wp2_with fail
    go_ret
    exact ⟨rfl, FIN.out⟩
  · have E1 := Lib.hid (show (if (hoQ p l).2.2 = 0 then lessF q2 (hoQ p l).2.1 else (hoQ p l).1) = (hoQ p l).1 from if_neg he)
    have E2 := Lib.hid (show (if (hoQ p l).2.2 = 0 then B1 else B0) = B0 from if_neg he)
    rw [E1.out, E2.out]
    clear hdo hk2
    generalize ptrQ F p.f.length (hoQ p l).2.1 = po at *
    generalize (hoQ p l).2.2 = e at *
    have d1 : (e == 0) = false := by simp [he]
    have d2 : (e != 0) = true := by simp [he]
    clear he E1 E2
    go_wp2_with fail
    refine (HO.out).mono ?_
    rintro r w1 ⟨rfl, t1⟩
    have FIN : Hid (∃ S2, PqAt PM base D P Y F c (hoQ p l).1 S2 w1 ∧ NewB S S2 u ∧ KpS (pqB S Y F b) u w1 ∧ w1.heap[b]? = some B0) := Lib.hid (by
      obtain ⟨S1, a1, n1, k1⟩ := t1
      exact ⟨S1, a1, n1, k1.mono fun j hj => pqB.l hj, (k1.blk HBL.out HS.out).trans HB.out⟩)
    clear t1 HO
    go_wp2_with fail
    go_ret
    exact ⟨rfl, FIN.out⟩
/-- Get's function -/
theorem get1_any (I : Sh14 PM PF PC) (h : PqAt PM base D P Y F c p S u) {k b : Nat} (hk : k < p.f.length) (hsz : (frA p.f k).b.size = 232) (hs : pqS S Y F b = false) {s0 : ByteArray} (hb : u.heap[b]? = some (.cells #[.string s0] 9 (0, 0))) : Calls Tryz.prog 44 #[.pointer (some ⟨F, k * 237, none⟩), .pointer (some ⟨b, 0, none⟩)] u fun r w' => r = .returned (.tuple #[]) ∧ PqAt PM base D P Y F c p S w' ∧ KpS (fun j => O1 F j || O1 b j) u w' ∧ w'.heap[b]? = some (.cells #[.string (frA p.f k).b] 9 (0, 0)) := by
  have HT := Lib.hid (ftext_any h.row hk (by omega))
  rw [full_self hsz] at HT
  have x0 : u.cell? ⟨b, 0, none⟩ = some (.string s0) := by rw [Lib.cell_of_heap hb]; rfl
  have z0 := Lib.frozen_of_heap hb 0
  have KS := KpS.set (O1.a b) 0 (.string (frA p.f k).b) u
  have XB := Lib.hid (Joins.block_setCell (i := 0) hb (.string (frA p.f k).b))
  have A2 := Lib.hid (h.kept I (T := O1 b) (fun j hj => O1.no fun e => by rw [e, hs] at hj; cases hj) KS)
  have K2 : Hid (KpS (fun j => O1 F j || O1 b j) u (u.setCell ⟨b, 0, none⟩ (.string (frA p.f k).b))) := Lib.hid (KS.mono fun j hj => by simp [hj])
  clear h hb hs hsz I KS
  go_enter Tryz.func44, Tryz.ntmps44
  go_wp2_with fail
  refine (HT.out).mono ?_
  rintro r w1 ⟨rfl, hw⟩
  subst hw
  go_wp2_with fail
  exact bodyPost_end (v := .tuple #[]) (by simp [results, Tryz.results44, go_sem]) rfl ⟨rfl, A2.out, K2.out, XB.out⟩
/-- Put's function -/
theorem put1_any (I : Sh14 PM PF PC) (h : PqAt PM base D P Y F c p S u) {k b : Nat} (hk : k < p.f.length) (hs : pqS S Y F b = false) {s : ByteArray} (hsz : s.size ≤ 232) (hb : u.heap[b]? = some (.cells #[.string s] 9 (0, 0))) : Calls Tryz.prog 42 #[.pointer (some ⟨F, k * 237, none⟩), .pointer (some ⟨b, 0, none⟩)] u fun r w' => r = .returned (.tuple #[]) ∧ PqAt PM base D P Y F c { p with f := p.f.set k { frA p.f k with b := fullP s, di := true, us := true } } S w' ∧ KpS (fun j => O1 F j || O1 b j) u w' ∧ w'.heap[b]? = some (.cells #[.string s] 9 (0, 0)) := by
  have HY := Lib.hid (fset_any h.row rfl hk s hsz)
  have x0 : u.cell? ⟨b, 0, none⟩ = some (.string s) := by rw [Lib.cell_of_heap hb]; rfl
  have HB := Lib.hid hb
  have H := Lib.hid h
  have HI := Lib.hid I
  have NB := Lib.hid (pqS.inv hs).2.2
  clear h hb hs I
  go_enter Tryz.func42, Tryz.ntmps42
  go_wp2_with fail
  refine (HY.out).mono ?_
  rintro r w1 ⟨rfl, r3, k3⟩
  have FIN : Hid (PqAt PM base D P Y F c { p with f := p.f.set k { frA p.f k with b := fullP s, di := true, us := true } } S w1 ∧ KpS (fun j => O1 F j || O1 b j) u w1 ∧ w1.heap[b]? = some (.cells #[.string s] 9 (0, 0))) := Lib.hid (by
    have hS : ∀ j, S j = true → O1 F j = false := fun j hj => O1.no fun e => by rw [e, H.out.sf] at hj; cases hj
    refine ⟨⟨HI.out.kept H.out.st hS k3, ?_, ?_, H.out.sy, H.out.sf, H.out.ne, H.out.lo⟩, k3.mono fun j hj => by simp [hj], (k3.blk (lt_of_block HB.out) (O1.no NB.out)).trans HB.out⟩
    · show w1.heap[Y]? = some (.cells #[_, .slice _ (List.set _ _ _).length c, _] _ _)
      rw [List.length_set]
      exact (k3.blk H.out.lt.1 (O1.no fun e => H.out.ne e.symm)).trans H.out.box
    · show QRow F (List.set _ _ _).length _ c w1
      rw [List.length_set]
      exact r3)
  clear r3 k3 HY
  go_wp2_with fail
  exact bodyPost_end (v := .tuple #[]) (by simp [results, Tryz.results42, go_sem]) rfl ⟨rfl, FIN.out⟩
/-- a box that the call made is of no account -/
theorem to_newbox (I : Sh14 PM PF PC) {w1 w2 : World} {p2 : Plt} {b : Nat} (hbn : u.heap.size ≤ b) (k1 : Below u.heap.size u w1) (h : ∃ S2, PqAt PM base D P Y F c p2 S2 w2 ∧ NewB S S2 w1 ∧ KpS (pqB S Y F b) w1 w2) : PqTo PM base D P Y F c S p2 u w2 := by
  obtain ⟨S2, a2, n2, k2⟩ := h
  refine ⟨S2, a2, fun j hj => ?_, kps_new (S2 := pqB S Y F b) (fun j hj => ?_) (KpS.of k1) k2⟩
  · rcases n2 j hj with h1 | h1
    · exact .inl h1
    · exact .inr (Nat.le_trans k1.size h1)
  · unfold pqB at hj
    rcases Bool.or_eq_true _ _ ▸ hj with h9 | h9
    · exact .inl h9
    · have : j = b := by simpa [O1] using h9
      exact .inr (by omega)
set_option maxHeartbeats 3200000 in
theorem qGet_any (I : Sh14 PM PF PC) (h : PqAt PM base D P Y F c p S u) (ok : OkP p) (hbase : base ≤ u.heap.size) (l : Int) : Calls Tryz.prog 13 #[.pointer (some ⟨Y, 0, none⟩), .int .i64 l] u fun r u' => r = .returned (.tuple #[.string (getQ p l).2.1, .int .i64 (getQ p l).2.2]) ∧ PqTo PM base D P Y F c S (getQ p l).1 u u' := by
  have hmf : ∀ (fn : Fn) (first cap : Array Value) (w : World), (Instr.makeFunc fn first cap).run Tryz.prog w = .ok (.func fn first cap) w := fun _ _ _ _ => rfl
  have B1 := Lib.hid (balloc u (.cells #[.string ⟨#[]⟩] 9))
  have X1 := Lib.hid (heap_alloc_new u (.cells #[.string ⟨#[]⟩] 9))
  have H1 := Lib.hid (h.below I B1.out)
  have NB : Hid (pqS S Y F u.heap.size = false) := Lib.hid (by
    cases q : pqS S Y F u.heap.size with
    | false => rfl
    | true => have := (h.slo I _ q).2; omega)
  have E := Lib.hid (ho_hol p l)
  have HW := Lib.hid (qwith_any I H1.out ok (Nat.le_trans hbase B1.out.size) l (N := 44) (B1 := .cells #[.string (frA (hoQ p l).1.f (hoQ p l).2.1).b] 9 (0, 0)) (q2 := (hoQ p l).1) X1.out NB.out (fun he => by
    obtain ⟨i1, i2, i3, i4, i5, i6⟩ := ho_in ok he
    exact ⟨i1, i5, i6⟩) (fun he => by
    obtain ⟨i1, i2, i3, i4, i5, i6⟩ := ho_in ok he
    exact ⟨fun w => callFunc_in Tryz.func44 (by kernel_rfl) (by kernel_rfl) _ w, fun S2 w a hs hb => get1_any I a i1 i3 hs hb⟩))
  have EG : Hid (getQ p l = ((if (hoQ p l).2.2 = 0 then lessF (hoQ p l).1 (hoQ p l).2.1 else (hoQ p l).1), (if (hoQ p l).2.2 = 0 then (frA (hoQ p l).1.f (hoQ p l).2.1).b else ByteArray.empty), (hoQ p l).2.2)) := Lib.hid (by
    unfold getQ
    rw [E.out]
    dsimp only
    by_cases he : (hoQ p l).2.2 = 0
    · obtain ⟨i1, i2, i3, i4, i5, i6⟩ := ho_in ok he
      rw [if_pos he, if_pos he, if_pos he, he, let_go i4 i1 i5]
      rfl
    · rw [if_neg he, if_neg he, if_neg he])
  rw [EG.out]
  dsimp only
  obtain ⟨pq, hpq⟩ : ∃ pq, pq = (if (hoQ p l).2.2 = 0 then lessF (hoQ p l).1 (hoQ p l).2.1 else (hoQ p l).1) := ⟨_, rfl⟩
  obtain ⟨sq, hsq⟩ : ∃ sq, sq = (if (hoQ p l).2.2 = 0 then (frA (hoQ p l).1.f (hoQ p l).2.1).b else ByteArray.empty) := ⟨_, rfl⟩
  rw [← hpq, ← hsq]
  have HPQ := Lib.hid hpq
  have HSQ := Lib.hid hsq
  clear hpq hsq
  have HI := Lib.hid I
  clear h ok hbase I E
  generalize hbb : u.heap.size = b at *
  have HBB := Lib.hid hbb
  clear hbb
  go_enter Tryz.func13, Tryz.ntmps13
  go_upto_region 2 with fail
  rw [HBB.out]
  generalize u.alloc (.cells #[.string ⟨#[]⟩] 9) = w1 at *
  go_wp2_with fail
  refine (HW.out).mono ?_
  rintro r w2 ⟨rfl, S2, a2, n2, k2, hx⟩
  have FIN : Hid (PqTo PM base D P Y F c S pq u w2) := Lib.hid (by rw [HPQ.out]; exact to_newbox HI.out (b := b) (by rw [HBB.out]; exact Nat.le_refl _) (by rw [HBB.out]; exact B1.out) ⟨S2, a2, n2, k2⟩)
  have hz : w2.cell? ⟨b, 0, none⟩ = some (.string sq) := by
    rw [HSQ.out]
    rw [show (if (hoQ p l).2.2 = 0 then Obj.cells #[.string (frA (hoQ p l).1.f (hoQ p l).2.1).b] 9 (0, 0) else Obj.cells #[.string ⟨#[]⟩] 9 (0, 0)) = Obj.cells #[.string (if (hoQ p l).2.2 = 0 then (frA (hoQ p l).1.f (hoQ p l).2.1).b else ByteArray.empty)] 9 (0, 0) from by split <;> rfl] at hx
    rw [Lib.cell_of_heap hx]; rfl
  clear a2 n2 k2 hx HW
  go_wp2_with fail
  go_ret2
  exact ⟨rfl, FIN.out⟩
set_option maxHeartbeats 3200000 in
theorem qPut_any (I : Sh14 PM PF PC) (h : PqAt PM base D P Y F c p S u) (ok : OkP p) (hbase : base ≤ u.heap.size) (l : Int) (s : ByteArray) : Calls Tryz.prog 12 #[.pointer (some ⟨Y, 0, none⟩), .int .i64 l, .string s] u fun r u' => r = .returned (.int .i64 (putQE p l s)) ∧ PqTo PM base D P Y F c S (putQ p l s) u u' := by
  have hmf : ∀ (fn : Fn) (first cap : Array Value) (w : World), (Instr.makeFunc fn first cap).run Tryz.prog w = .ok (.func fn first cap) w := fun _ _ _ _ => rfl
  have B1 := Lib.hid (balloc u (.cells #[.string s] 9))
  have X1 := Lib.hid (heap_alloc_new u (.cells #[.string s] 9))
  have H1 := Lib.hid (h.below I B1.out)
  have NB : Hid (pqS S Y F u.heap.size = false) := Lib.hid (by
    cases q : pqS S Y F u.heap.size with
    | false => rfl
    | true => have := (h.slo I _ q).2; omega)
  have E := Lib.hid (ho_hol p l)
  have HT := Lib.hid (qtakes_any (Y := Y) s (u.alloc (.cells #[.string s] 9)))
  have HI := Lib.hid I
  by_cases hs : 232 < s.size
  · rw [if_pos hs] at HT
    have E1 : Hid (putQE p l s = 4) := Lib.hid (if_pos hs)
    have E2 : Hid (putQ p l s = p) := Lib.hid (if_pos hs)
    have FIN := Lib.hid (h.stays I B1.out)
    have x0 : (u.alloc (.cells #[.string s] 9)).cell? ⟨u.heap.size, 0, none⟩ = some (.string s) := by rw [Lib.cell_of_heap X1.out]; rfl
    clear h ok hbase I hs
    generalize hbb : u.heap.size = b at *
    have HBB := Lib.hid hbb
    clear hbb
    go_enter Tryz.func12, Tryz.ntmps12
    go_upto_region 1 with fail
    rw [HBB.out]
    generalize u.alloc (.cells #[.string s] 9) = w1 at *
    go_wp2_with fail
    refine (HT.out).mono ?_
    rintro r w2 ⟨rfl, hw⟩
    subst hw
    go_wp2_with fail
    go_ret
    exact ⟨by rw [E1.out]; rfl, by rw [E2.out]; exact FIN.out⟩
  · rw [if_neg hs] at HT
    have HSZ := Lib.hid (show s.size ≤ 232 by omega)
    have E1 : Hid (putQE p l s = (hoQ p l).2.2) := Lib.hid (by
      unfold putQE
      rw [if_neg hs, E.out])
    have HW := Lib.hid (qwith_any I H1.out ok (Nat.le_trans hbase B1.out.size) l (N := 42) (B1 := .cells #[.string s] 9 (0, 0)) (q2 := { (hoQ p l).1 with f := (hoQ p l).1.f.set (hoQ p l).2.1 { frA (hoQ p l).1.f (hoQ p l).2.1 with b := fullP s, di := true, us := true } }) X1.out NB.out (fun he => by
      obtain ⟨i1, i2, i3, i4, i5, i6⟩ := ho_in ok he
      refine ⟨by show _ < (List.set _ _ _).length; rw [List.length_set]; exact i1, ?_⟩
      show 1 ≤ (frA (List.set _ _ _) _).held ∧ (frA (List.set _ _ _) _).held ≤ _
      rw [frA_set, if_pos ⟨rfl, i1⟩]
      exact ⟨i5, i6⟩) (fun he => by
      obtain ⟨i1, i2, i3, i4, i5, i6⟩ := ho_in ok he
      exact ⟨fun w => callFunc_in Tryz.func42 (by kernel_rfl) (by kernel_rfl) _ w, fun S2 w a hs hb => put1_any I a i1 hs HSZ.out hb⟩))
    have E2 : Hid (putQ p l s = if (hoQ p l).2.2 = 0 then lessF { (hoQ p l).1 with f := (hoQ p l).1.f.set (hoQ p l).2.1 { frA (hoQ p l).1.f (hoQ p l).2.1 with b := fullP s, di := true, us := true } } (hoQ p l).2.1 else (hoQ p l).1) := Lib.hid (by
      unfold putQ
      rw [if_neg hs, E.out]
      dsimp only
      by_cases he : (hoQ p l).2.2 = 0
      · obtain ⟨i1, i2, i3, i4, i5, i6⟩ := ho_in ok he
        rw [if_pos he, if_pos he, set_let hs i4 i1 i5]
        unfold lessF
        dsimp only
        rw [frA_set, if_pos ⟨rfl, i1⟩, List.set_set]
      · rw [if_neg he, if_neg he])
    have x0 : (u.alloc (.cells #[.string s] 9)).cell? ⟨u.heap.size, 0, none⟩ = some (.string s) := by rw [Lib.cell_of_heap X1.out]; rfl
    clear h ok hbase I E hs
    generalize hbb : u.heap.size = b at *
    have HBB := Lib.hid hbb
    clear hbb
    go_enter Tryz.func12, Tryz.ntmps12
    go_upto_region 1 with fail
    rw [HBB.out]
    generalize u.alloc (.cells #[.string s] 9) = w1 at *
    go_wp2_with fail
    refine (HT.out).mono ?_
    rintro r w2 ⟨rfl, hw⟩
    subst hw
    go_wp2_with fail
    refine (HW.out).mono ?_
    rintro r w3 ⟨rfl, S2, a2, n2, k2, hx⟩
    have FIN := Lib.hid (to_newbox HI.out (b := b) (by rw [HBB.out]; exact Nat.le_refl _) (by rw [HBB.out]; exact B1.out) ⟨S2, a2, n2, k2⟩)
    clear a2 n2 k2 hx HW
    go_wp2_with fail
    go_ret
    exact ⟨by rw [E1.out]; rfl, by rw [E2.out]; exact FIN.out⟩
end
end Go.Proofs.YtmflkkkbahghgaaGreat
namespace Go.Proofs.YtmflkkkbahghgaaGreat
open Go.RowKit Go.Deep
set_option linter.unusedVariables false
set_option linter.unusedSimpArgs false
set_option maxRecDepth 100000

section
variable {PM : StM} {PF PC : FlM} {base D P Y F c : Nat} {p : Plt} {S : Nat → Bool} {u : World}
theorem qStore_any (h : PqAt PM base D P Y F c p S u) : Calls Tryz.prog 28 #[.pointer (some ⟨Y, 0, none⟩)] u fun r u' => r = .returned (.pointer (some ⟨P, 0, none⟩)) ∧ u' = u := by
  obtain ⟨x0, x1, x2, f0, f1, f2⟩ := h.cells
  clear h
  go_enter Tryz.func28, Tryz.ntmps28
  go_wp2_with fail
  go_ret
  exact ⟨rfl, rfl⟩
set_option maxHeartbeats 1600000 in
theorem qNew_any (I : Sh14 PM PF PC) (h : PqAt PM base D P Y F c p S u) (ok : OkX p.x) (hbase : base ≤ u.heap.size) (s : ByteArray) (hs : s.size ≤ 1000000) : Calls Tryz.prog 20 #[.pointer (some ⟨Y, 0, none⟩), .string s] u fun r u' => r = .returned (.tuple #[.int .i64 (newI p.x s), .int .i64 (newE p.x s)]) ∧ PqTo PM base D P Y F c S (nwpP p s) u u' := by
  have HS := Lib.hid (qStore_any h)
  have HW := Lib.hid (I.new s h.st ok hbase hs)
  have H := Lib.hid h
  have HI := Lib.hid I
  clear h I ok hbase
  go_enter Tryz.func20, Tryz.ntmps20
  go_wp2_with fail
  refine (HS.out).mono ?_
  rintro r w1 ⟨rfl, hw⟩
  subst hw
  go_wp2_with fail
  refine (HW.out).mono ?_
  rintro r w2 ⟨i, e, rfl, ho⟩
  obtain ⟨⟨rfl, rfl⟩, S2, n2, k2, p2⟩ := out_zero ho
  have FIN := Lib.hid (H.out.stored HI.out n2 k2 p2)
  clear ho n2 k2 p2 HW
  go_wp2_with fail
  go_ret2
  exact ⟨rfl, FIN.out⟩
theorem dv_drp {p : Plt} {l : Int} (hk : fndF p.f l < p.f.length) : dvE p (fndF p.f l) = drpE p l ∧ dvP p (fndF p.f l) = drpP p l := by
  have hh := fndF_has hk
  have hpg : pgN (frA p.f (fndF p.f l)) = l := by
    unfold pgN
    rw [hh.2, if_pos hh.1]
  unfold drpP dvE dvP drpE
  rw [hpg]
  cases hb : heldB p.f (fndF p.f l) with
  | true =>
    have hp : pinE p l = 0 := if_pos ⟨hk, of_decide_eq_true hb⟩
    rw [if_pos rfl, if_pos rfl, if_pos hp, if_neg (by decide)]
    exact ⟨rfl, rfl⟩
  | false =>
    have hp : ¬ pinE p l = 0 := by
      unfold pinE
      rw [if_neg (fun q => by have := held_of.1 hb; omega)]
      decide
    rw [if_neg (show ¬ (false = true) by decide), if_neg hp, if_neg (show ¬ (false = true) by decide)]
    refine ⟨rfl, ?_⟩
    by_cases he : dropSE p.x l = 0
    · rw [if_pos he, if_pos he, if_pos hk]
    · rw [if_neg he, if_neg he]
      have : dropSX p.x l = p.x := by
        unfold dropSE at he
        unfold dropSX
        split at he
        · exact absurd rfl he
        · next q => rw [if_neg q]
      rw [this]
theorem drp_none {p : Plt} {l : Int} (hk : ¬ fndF p.f l < p.f.length) : drpE p l = dropSE p.x l ∧ drpP p l = { p with x := dropSX p.x l } := by
  have hp : ¬ pinE p l = 0 := by
    unfold pinE
    rw [if_neg (fun q => hk q.1)]
    decide
  unfold drpP drpE
  rw [if_neg hp]
  refine ⟨rfl, ?_⟩
  by_cases he : dropSE p.x l = 0
  · rw [if_pos he, if_neg hk]
  · rw [if_neg he]
    have : dropSX p.x l = p.x := by
      unfold dropSE at he
      unfold dropSX
      split at he
      · exact absurd rfl he
      · next q => rw [if_neg q]
    rw [this]
set_option maxHeartbeats 1600000 in
theorem qDrop_any (I : Sh14 PM PF PC) (h : PqAt PM base D P Y F c p S u) (ok : OkP p) (hbase : base ≤ u.heap.size) (l : Int) : Calls Tryz.prog 26 #[.pointer (some ⟨Y, 0, none⟩), .int .i64 l] u fun r u' => r = .returned (.int .i64 (drpE p l)) ∧ PqTo PM base D P Y F c S (drpP p l) u u' := by
  have hmf : ∀ (fn : Fn) (first cap : Array Value) (w : World), (Instr.makeFunc fn first cap).run Tryz.prog w = .ok (.func fn first cap) w := fun _ _ _ _ => rfl
  have HO := Lib.hid (qof_any I h ok.len l)
  have H := Lib.hid h
  have HI := Lib.hid I
  have OK := Lib.hid ok
  have HBASE := Lib.hid hbase
  clear h I ok hbase
  go_enter Tryz.func26, Tryz.ntmps26
  by_cases c1 : fndF p.f l < p.f.length
  · rw [ptrQ_in c1] at HO
    have E := Lib.hid (dv_drp c1)
    have HK := Lib.hid c1
    generalize fndF p.f l = k at *
    clear c1
    go_wp2_with fail
    refine (HO.out).mono ?_
    rintro r w1 ⟨rfl, hb1⟩
    have H1 := Lib.hid (H.out.below HI.out hb1)
    have B1 := Lib.hid hb1
    have HL := Lib.hid (left_drop HI.out H1.out OK.out.x (Nat.le_trans HBASE.out hb1.size) HK.out)
    clear hb1 HO
    go_wp2_with fail
    refine (HL.out).mono ?_
    rintro r w2 ⟨rfl, t2⟩
    have FIN := Lib.hid (PqTo.from B1.out t2)
    clear t2 HL
    go_wp2_with fail
    go_ret
    exact ⟨by rw [E.out.1]; rfl, by rw [← E.out.2]; exact FIN.out⟩
  · rw [ptrQ_out c1] at HO
    have E := Lib.hid (drp_none c1)
    clear c1
    go_wp2_with fail
    refine (HO.out).mono ?_
    rintro r w1 ⟨rfl, hb1⟩
    have H1 := Lib.hid (H.out.below HI.out hb1)
    have B1 := Lib.hid hb1
    have HS := Lib.hid (qStore_any H1.out)
    have HW := Lib.hid (HI.out.drop l H1.out.st OK.out.x (Nat.le_trans HBASE.out hb1.size))
    clear hb1 HO
    go_wp2_with fail
    refine (HS.out).mono ?_
    rintro r w2 ⟨rfl, hw⟩
    subst hw
    go_wp2_with fail
    refine (HW.out).mono ?_
    rintro r w3 ⟨e, rfl, ho⟩
    obtain ⟨rfl, S2, n2, k2, p2⟩ := out_zero ho
    have FIN := Lib.hid (PqTo.from B1.out (H1.out.stored HI.out n2 k2 p2))
    clear ho n2 k2 p2 HW HS
    go_wp2_with fail
    go_ret
    exact ⟨by rw [E.out.1]; rfl, by rw [E.out.2]; exact FIN.out⟩
theorem lv_evc {p : Plt} {hm i : Nat} (hi : i < p.f.length) (hf : OkF hm (frA p.f i)) : lvE p i = evcE p (i : Int) ∧ lvP p i = evcP p (i : Int) := by
  have hr : ¬ ((i : Int) < 0 ∨ (p.f.length : Int) ≤ (i : Int)) := by omega
  unfold lvE lvP evcE evcP
  rw [if_neg hr, if_neg hr, Int.toNat_natCast]
  by_cases hn : (frA p.f i).pg < 0
  · have hx := hf.none hn
    have hb : heldB p.f i = false := held_of.2 (by rw [hx]; rfl)
    have he : bakE p i = 0 := by unfold bakE; rw [hx]; rfl
    have hp : bakP p i = p := by unfold bakP; rw [hx]; rfl
    rw [if_pos hn, if_pos hn, hb, if_neg (by decide), if_neg (by decide), if_pos he, he, hp]
    refine ⟨rfl, ?_⟩
    have := set_self (f := p.f) (i := i)
    rw [hx] at this
    rw [this]
  · rw [if_neg hn, if_neg hn]
    cases hb : heldB p.f i with
    | true =>
      have h0 : 0 < (frA p.f i).held := of_decide_eq_true hb
      rw [if_pos rfl, if_pos rfl, if_pos h0, if_pos h0]
      exact ⟨rfl, rfl⟩
    | false =>
      have h0 : ¬ 0 < (frA p.f i).held := by have := held_of.1 hb; omega
      rw [if_neg (show ¬ (false = true) by decide), if_neg h0, if_neg h0]
      exact ⟨rfl, rfl⟩
set_option maxHeartbeats 1600000 in
theorem qEvict_any (I : Sh14 PM PF PC) (h : PqAt PM base D P Y F c p S u) (ok : OkP p) (hbase : base ≤ u.heap.size) (l : Int) : Calls Tryz.prog 27 #[.pointer (some ⟨Y, 0, none⟩), .int .i64 l] u fun r u' => r = .returned (.int .i64 (evcE p l)) ∧ PqTo PM base D P Y F c S (evcP p l) u u' := by
  have hmf : ∀ (fn : Fn) (first cap : Array Value) (w : World), (Instr.makeFunc fn first cap).run Tryz.prog w = .ok (.func fn first cap) w := fun _ _ _ _ => rfl
  obtain ⟨x0, x1, x2, f0, f1, f2⟩ := h.cells
  have H := Lib.hid h
  by_cases c1 : l < 0
  · have hr : l < 0 ∨ (p.f.length : Int) ≤ l := .inl c1
    have E1 : Hid (evcE p l = 3) := Lib.hid (if_pos hr)
    have E2 : Hid (evcP p l = p) := Lib.hid (if_pos hr)
    have d1 : decide (l < 0) = true := decide_eq_true c1
    clear h I ok hbase hr c1
    go_enter Tryz.func27, Tryz.ntmps27
    go_wp2_with fail
    go_ret
    exact ⟨by rw [E1.out]; rfl, by rw [E2.out]; exact H.out.same⟩
  · have d1 : decide (l < 0) = false := decide_eq_false c1
    by_cases c2 : (p.f.length : Int) ≤ l
    · have hr : l < 0 ∨ (p.f.length : Int) ≤ l := .inr c2
      have E1 : Hid (evcE p l = 3) := Lib.hid (if_pos hr)
      have E2 : Hid (evcP p l = p) := Lib.hid (if_pos hr)
      have d2 : decide ((p.f.length : Int) ≤ l) = true := decide_eq_true c2
      clear h I ok hbase hr c1 c2
      go_enter Tryz.func27, Tryz.ntmps27
      go_wp2_with fail
      go_ret
      exact ⟨by rw [E1.out]; rfl, by rw [E2.out]; exact H.out.same⟩
    · have d2 : decide ((p.f.length : Int) ≤ l) = false := decide_eq_false c2
      obtain ⟨i, rfl⟩ : ∃ i : Nat, l = (i : Int) := ⟨l.toNat, by omega⟩
      have hi : i < p.f.length := by omega
      have hi2 : (i : Int) < (p.f.length : Int) := by omega
      have hi0 : (0 : Int) ≤ (i : Int) := by omega
      have d3 : decide (p.f.length ≤ i) = false := decide_eq_false (by omega)
      have E := Lib.hid (lv_evc hi (ok.f i))
      have HL := Lib.hid (left_save I h ok.x hbase hi (ok.f i))
      clear h I ok hbase c1 c2 hi
      go_enter Tryz.func27, Tryz.ntmps27
      go_wp2_with fail
      refine (HL.out).mono ?_
      rintro r w2 ⟨rfl, t2⟩
      have FIN := Lib.hid t2
      clear t2 HL
      go_wp2_with fail
      go_ret
      exact ⟨by rw [E.out.1]; rfl, by rw [← E.out.2]; exact FIN.out⟩
end
end Go.Proofs.YtmflkkkbahghgaaGreat
