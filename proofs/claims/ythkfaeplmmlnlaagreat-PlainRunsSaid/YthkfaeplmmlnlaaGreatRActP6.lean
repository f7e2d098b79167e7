/- The contract of the program's Handle. -/
import Derived.Test.YthkfaeplmmlnlaaGreatRZ20
import Derived.Test.YthkfaeplmmlnlaaGreatRZ0
import Derived.Test.YthkfaeplmmlnlaaGreatRZ3
import Derived.Test.YthkfaeplmmlnlaaGreatRZ27
namespace Go.Proofs.YthkfaeplmmlnlaaGreat
open Go.RowKit Go.Deep
set_option linter.unusedVariables false
set_option maxRecDepth 100000

theorem proB_iff (nl : Nat) (lp : Int) : proB nl lp = true ↔ 0 ≤ lp ∧ lp < (nl : Int) := by unfold proB; simp
theorem cntB_iff (n : Int) : cntB n = true ↔ 0 ≤ n ∧ n ≤ 1099511627776 := by unfold cntB; simp
theorem mayH_err {m : Mdl} {lp : Int} {s : Sta} {e : Evn} (h : mayH m lp s e ≠ 0) : handA m lp s e = ⟨sta0, evs0, 0, mayH m lp s e⟩ := by
  unfold mayH at *
  unfold handA
  by_cases h0 : chkN m ≠ 0
  · rw [if_pos h0, if_pos h0]
  · rw [if_neg h0] at h ⊢
    rw [if_neg h0]
    cases hb : badM m lp s e with
    | false => rw [hb] at h; exact absurd rfl h
    | true =>
      have hba : badArg m lp s e := by
        unfold badArg
        apply Classical.byContradiction
        intro hn
        simp only [not_or] at hn
        obtain ⟨g0, g1, g2, g3, g4, g5, g6, g7⟩ := hn
        have a1 : proB m.nl lp = true := (proB_iff _ _).2 ⟨by omega, by omega⟩
        have a2 : numF e.t = true := by unfold numF; exact decide_eq_true (Classical.not_not.1 g2)
        have a3 : cntB s.sent = true := (cntB_iff _).2 ⟨by omega, by omega⟩
        have a4 : cntB s.dice = true := (cntB_iff _).2 ⟨by omega, by omega⟩
        unfold badM at hb
        rw [a1, a2, a3, a4] at hb
        exact absurd hb (by decide)
      unfold handH
      rw [if_pos hba]
      rfl
theorem mayH_ok {m : Mdl} {lp : Int} {s : Sta} {e : Evn} (h : mayH m lp s e = 0) : chkN m = 0 ∧ (0 ≤ lp ∧ lp < (m.nl : Int)) ∧ isNum e.t ∧ (0 ≤ s.sent ∧ s.sent ≤ 1099511627776) ∧ (0 ≤ s.dice ∧ s.dice ≤ 1099511627776) := by
  unfold mayH at h
  by_cases h0 : chkN m ≠ 0
  · rw [if_pos h0] at h; exact absurd h (by decide)
  · rw [if_neg h0] at h
    cases hb : badM m lp s e with
    | true => rw [hb] at h; exact absurd h (by decide)
    | false =>
      unfold badM numF at hb
      simp only [Bool.or_eq_false_iff, Bool.not_eq_false'] at hb
      obtain ⟨b1, b2, b3, b4⟩ := hb
      exact ⟨Classical.not_not.1 h0, (proB_iff _ _).1 b1, of_decide_eq_true b2, (cntB_iff _).1 b3, (cntB_iff _).1 b4⟩
theorem handA_run {m : Mdl} {lp : Int} {s : Sta} {e : Evn} (h : mayH m lp s e = 0) : handA m lp s e = if 8 < s.nw then ⟨sta0, evs0, 0, 2⟩ else if (ouAt m lp s e).f ≠ 0 then ⟨s, evs0, (ouAt m lp s e).f, 0⟩ else if laterB m e (ouAt m lp s e) (ouAt m lp s e).ns = false then ⟨s, evs0, 7, 0⟩ else ⟨⟨(ouAt m lp s e).nw, (ouAt m lp s e).w, s.sent + ((ouAt m lp s e).ns : Int), (ouAt m lp s e).dice⟩, sentE m lp s e (ouAt m lp s e) (ouAt m lp s e).ns, 0, 0⟩ := by
  obtain ⟨h0, h1, h2, h3, h4⟩ := mayH_ok h
  unfold handA
  rw [if_neg (by simp [h0])]
  unfold handH
  by_cases h8 : 8 < s.nw
  · rw [if_pos h8, if_pos (show badArg m lp s e from Or.inr (Or.inr (Or.inr (Or.inl h8))))]
  · rw [if_neg h8, if_neg (show ¬ badArg m lp s e from by
      unfold badArg
      rintro (g | g | g | g | g | g | g | g)
      · omega
      · omega
      · exact g h2
      · exact h8 g
      · omega
      · omega
      · omega
      · omega)]
/-- what Handle hands back -/
def HPA (w : World) (m : Mdl) (lp : Int) (s : Sta) (e : Evn) (x : Ending) (w' : World) : Prop :=
  ∃ vs ve, x = .returned (.tuple #[vs, ve, .int .i64 (handA m lp s e).f, .int .i64 (handA m lp s e).e]) ∧ StaAt w.heap.size (handA m lp s e).s vs w' ∧ EvsAt w.heap.size (handA m lp s e).l ve w' ∧ Below w.heap.size w w'

set_option maxHeartbeats 6400000 in
theorem handle8 (m : Mdl) (vd vp vl vi : Value) (lp : Int) (s : Sta) (vI : Value) (e : Evn) (w : World) (hm : MdlAt m vd vp vl vi w) (hs : Sl 1 (gW s.w) s.nw vI w)
    (hb : ∀ p k, r64v (m.pr p k).b) (hbd : Bd (beginM (inpOf m lp s e))) :
    Calls Tryz.prog 31 #[mval m vd vp vl vi, .int .i64 lp, sval s vI, eval8 e] w (HPA w m lp s e) := by
  have H0 := Lib.hid (hinv_begin w m vd vp vl vi s vI e)
  have HM := Lib.hid hm
  have HS := Lib.hid hs
  have HB := Lib.hid hb
  have HBD := Lib.hid hbd
  obtain ⟨aI, cI, rfl, _, _, _⟩ := id hs
  obtain ⟨ad, cd, rfl, _, _, _⟩ := id hm.d
  obtain ⟨ai, ci, rfl, _, _, _⟩ := id hm.i
  obtain ⟨gl, hl1, hl2⟩ := id hm.l
  obtain ⟨al, cl, rfl, ml1, ml2, kl⟩ := hl1
  obtain ⟨gp, hp1, hp2⟩ := id hm.p
  obtain ⟨ap, cp, rfl, mp1, mp2, kp⟩ := hp1
  have KL := Lib.hid kl
  have KP := Lib.hid kp
  have HP2 := Lib.hid hp2
  have HMH : Hid (∀ u, Below w.heap.size w u → Calls Tryz.prog 61 #[.agg #[.int .i64 m.seed, .float .f64 m.fin, .slice ad m.nd cd, .slice ap m.np cp, .slice al m.nl cl, .slice ai m.ni ci], .int .i64 lp, .agg #[.slice aI s.nw cI, .int .i64 s.sent, .int .i64 s.dice], .agg #[.float .f64 e.t, .int .i64 e.src, .int .i64 e.n, .int .i64 e.dst, .int .i64 e.pay]] u fun x w' => x = .returned (.int .i64 (mayH m lp s e)) ∧ Below u.heap.size u w') := fun u k => mayHandle8_any m _ _ _ _ lp s _ e u (HM.out.below k) (HS.out.below k)
  have hpost : ∀ x w', HPA w m lp s e x w' = ∃ vs ve, x = .returned (.tuple #[vs, ve, .int .i64 (handA m lp s e).f, .int .i64 (handA m lp s e).e]) ∧ StaAt w.heap.size (handA m lp s e).s vs w' ∧ EvsAt w.heap.size (handA m lp s e).l ve w' ∧ Below w.heap.size w w' := fun _ _ => rfl
  have HPO := Lib.hid hpost
  clear hpost hm hs hb hbd kl kp hl2 hp2
  unfold mval sval eval8
  generalize HPA w m lp s e = POST at *
  generalize hu : (((w.alloc (.cells #[.int .i64 m.seed, .float .f64 m.fin, .slice ad m.nd cd, .slice ap m.np cp, .slice al m.nl cl, .slice ai m.ni ci] 28)).alloc (.cells #[.slice aI s.nw cI, .int .i64 s.sent, .int .i64 s.dice] 55)).alloc (.cells #[.float .f64 e.t, .int .i64 e.src, .int .i64 e.n, .int .i64 e.dst, .int .i64 e.pay] 41)).alloc (.cells #[.slice none 0 0, .int .i64 0, .int .i64 0] 55) = u at *
  go_enter Tryz.func31, Tryz.ntmps31
  go_upto_region 1 with fail
  try rw [hu]
  clear hu
  obtain ⟨m0, m1, m2, m3, m4, m5⟩ := six_cells7 H0.out.m
  obtain ⟨s0, s1, s2⟩ := three_cells8 H0.out.s
  obtain ⟨e0, e1, e2, e3, e4⟩ := five_cells8 H0.out.e
  by_cases hme : mayH m lp s e = 0
  case neg =>
    have EH := Lib.hid (mayH_err hme)
    have dm : (mayH m lp s e != 0) = true := by simp [hme]
    clear hme
    generalize mayH m lp s e = mh at *
    go_wp2_with (go_at_call 61; refine (HMH.out _ H0.out.l).mono ?_; rintro x u2 ⟨rfl, hb2⟩; have H2 := Lib.hid (H0.out.below hb2); clear hb2; clear m0 m1 m2 m3 m4 m5 s0 s1 s2 e0 e1 e2 e3 e4; obtain ⟨z0, z1, z2⟩ := three_cells8 H2.out.z; have zf : ∀ q, u2.frozen? ⟨w.heap.size + 3, q, none⟩ = false := fun q => Lib.frozen_of_heap H2.out.z q)
    change bodyPost _ _ _ _ _ (World.setCells u2 (w.heap.size + 3) 0 [.slice none 0 0, .int .i64 0, .int .i64 0])
    have h5 := put_three8 H2.out.z (.slice none 0 0) (.int .i64 0) (.int .i64 0)
    have LZ := Lib.hid (H2.out.l.trans (put_low7 (show w.heap.size ≤ w.heap.size + 3 by omega) [.slice none 0 0, .int .i64 0, .int .i64 0] 0 u2))
    obtain ⟨t0, t1, t2⟩ := three_cells8 h5
    clear h5
    generalize World.setCells u2 (w.heap.size + 3) 0 [.slice none 0 0, .int .i64 0, .int .i64 0] = w9 at *
    exact bodyPost_ret (v := .tuple #[.agg #[.slice none 0 0, .int .i64 0, .int .i64 0], .slice none 0 0, .int .i64 0, .int .i64 mh]) (by simp [results, Tryz.results31, go_sem, t0, t1, t2]) rfl (by
      rw [HPO.out, EH.out]
      exact ⟨_, _, rfl, sta0_at _ _, evsAt_none _ _, LZ.out⟩)
  case pos =>
    have EA := Lib.hid (handA_run hme)
    obtain ⟨hc, ⟨hlp0, hlp1⟩, hnum, ⟨hse0, hse1⟩, hdi⟩ := mayH_ok hme
    have SENT := Lib.hid (And.intro hse0 hse1)
    obtain ⟨L, rfl⟩ : ∃ L : Nat, lp = (L : Int) := ⟨lp.toNat, by omega⟩
    have hLn : L < m.nl := by omega
    obtain ⟨hlp, hd1, hd8⟩ := chk_lp hc
    obtain ⟨p, hp⟩ : ∃ p : Nat, m.lp L = (p : Int) := ⟨(m.lp L).toNat, by have := hlp L hLn; omega⟩
    have hpn : p < m.np := by have := hlp L hLn; omega
    have hpg : pgOf m (L : Int) = p := by unfold pgOf; rw [Int.toNat_natCast, hp]; omega
    have hprg := (chk_more8 hc).2.2.2 p hpn
    have MN : Hid (mayN (m.pr p) (m.pl p) (inpOf m L s e) = if 8 < s.nw then 2 else 0) := if_pos hprg
    have HRUN : Hid (∀ u2, Below w.heap.size w u2 → Calls Tryz.prog 62 #[gp p, .agg #[.slice aI s.nw cI, .int .i64 e.pay, .int .i64 (L : Int), .int .i64 (m.nl : Int), .int .i64 m.seed, .int .i64 s.dice]] u2 (Tells (ouAt m L s e) (if 8 < s.nw then 2 else 0) u2)) := fun u2 k => by
      have h1 := run_is (m.pr p) (m.pl p) (gp p) (inpOf m L s e) (.slice aI s.nw cI) u2 ((HP2.out p hpn).below k) (HS.out.below k) HBD.out (HB.out p)
      rw [MN.out] at h1
      unfold ouAt
      rw [hpg]
      exact h1
    have HIN := Lib.hid (inputOf8_any m ad cd ap cp al cl ai ci (L : Int) s aI cI e)
    have HSE := Lib.hid (sender8_any m ad cd ap cp al cl ai ci (L : Int) s aI cI e)
    have HN := Lib.hid (And.intro hLn hpn)
    have ND := Lib.hid (And.intro hd1 hd8)
    have HNS : Hid ((ouAt m L s e).ns ≤ 4) := (ouAt_ns m L s e)
    have HCP : Hid (s.nw ≤ 8 → ∀ u2, Below w.heap.size w u2 → Calls Tryz.prog 34 #[.agg #[.slice aI s.nw cI, .int .i64 s.sent, .int .i64 s.dice]] u2 fun x w' => ∃ v, x = .returned v ∧ StaAt u2.heap.size s v w' ∧ Below u2.heap.size u2 w') := fun h u2 k => copyAny8 s _ u2 (by omega) (HS.out.below k)
    rw [hme] at HMH
    obtain ⟨bl, ol, rfl, hAL⟩ := KL.out (by omega)
    obtain ⟨bp, op, rfl, hAP⟩ := KP.out (by omega)
    have HAL := Lib.hid hAL
    have HAP := Lib.hid hAP
    have PL := Lib.hid hp
    clear hme hc hlp0 hlp1 hnum hse0 hse1 hdi hlp hd1 hd8 hpg hprg MN HP2 HBD HB hAL hAP KL KP hLn hpn hp
    have hL2 : (L : Int) < (m.nl : Int) := by have := HN.out.1; omega
    have hL0 : (0 : Int) ≤ (L : Int) := by omega
    have hLt : ((L : Nat) : Int).toNat = L := by omega
    have hp2 : (p : Int) < (m.np : Int) := by have := HN.out.2; omega
    have hp0 : (0 : Int) ≤ (p : Int) := by omega
    have hpt : ((p : Nat) : Int).toNat = p := by omega
    go_upto_region 4 with (go_at_call 61; refine (HMH.out _ H0.out.l).mono ?_; rintro x u2 ⟨rfl, hb2⟩; have H2 := Lib.hid (H0.out.below hb2); clear hb2; clear m0 m1 m2 m3 m4 m5 s0 s1 s2 e0 e1 e2 e3 e4)
    clear HMH H0
    generalize ouAt m L s e = o at *
    go_cut [13, 14] (fun v c wx => ∃ xb aw cw as_ cs, v = .pointer (some ⟨xb, 0, none⟩) ∧ c = .int .i64 (if 8 < s.nw then 2 else 0) ∧ HInv w m (.slice ad m.nd cd) (.slice (some ⟨bp, op, none⟩) m.np cp) (.slice (some ⟨bl, ol, none⟩) m.nl cl) (.slice ai m.ni ci) s (.slice aI s.nw cI) e wx ∧ XInv (w.heap.size + 4) xb o aw cw as_ cs wx)
    case first =>
      generalize (if 8 < s.nw then (2 : Int) else 0) = mn at *
      have SS : ∀ u2, HInv w m (.slice ad m.nd cd) (.slice (some ⟨bp, op, none⟩) m.np cp) (.slice (some ⟨bl, ol, none⟩) m.nl cl) (.slice ai m.ni ci) s (.slice aI s.nw cI) e u2 → (fun w' => w'.cell? ⟨w.heap.size, 0, none⟩ = some (.int .i64 m.seed) ∧ w'.cell? ⟨w.heap.size, 1, none⟩ = some (.float .f64 m.fin) ∧ w'.cell? ⟨w.heap.size, 2, none⟩ = some (.slice ad m.nd cd) ∧ w'.cell? ⟨w.heap.size, 3, none⟩ = some (.slice (some ⟨bp, op, none⟩) m.np cp) ∧ w'.cell? ⟨w.heap.size, 4, none⟩ = some (.slice (some ⟨bl, ol, none⟩) m.nl cl) ∧ w'.cell? ⟨w.heap.size, 5, none⟩ = some (.slice ai m.ni ci) ∧ w'.cell? ⟨w.heap.size + 1, 0, none⟩ = some (.slice aI s.nw cI) ∧ w'.cell? ⟨w.heap.size + 1, 1, none⟩ = some (.int .i64 s.sent) ∧ w'.cell? ⟨w.heap.size + 1, 2, none⟩ = some (.int .i64 s.dice) ∧ w'.cell? ⟨w.heap.size + 2, 0, none⟩ = some (.float .f64 e.t) ∧ w'.cell? ⟨w.heap.size + 2, 1, none⟩ = some (.int .i64 e.src) ∧ w'.cell? ⟨w.heap.size + 2, 2, none⟩ = some (.int .i64 e.n) ∧ w'.cell? ⟨w.heap.size + 2, 3, none⟩ = some (.int .i64 e.dst) ∧ w'.cell? ⟨w.heap.size + 2, 4, none⟩ = some (.int .i64 e.pay) ∧ w'.cell? ⟨bl, ol + L * 2, none⟩ = some (.int .i64 (p : Int)) ∧ w'.cell? ⟨bp, op + p, none⟩ = some (gp p)) u2 := fun u2 h1 => by
        obtain ⟨q0, q1, q2, q3, q4, q5⟩ := six_cells7 h1.m
        obtain ⟨r0, r1, r2⟩ := three_cells8 h1.s
        obtain ⟨v0, v1, v2, v3, v4⟩ := five_cells8 h1.e
        have a1 := (HAL.out.below h1.l).2 L HN.out.1 0 (by omega)
        have a2 := (HAP.out.below h1.l).one p HN.out.2
        simp only [gL, gV, PL.out] at a1 a2
        exact ⟨q0, q1, q2, q3, q4, q5, r0, r1, r2, v0, v1, v2, v3, v4, a1, a2⟩
      have SS := Lib.hid SS
      have HD := Lib.hid (H2.out.below (bdrew u2))
      refine wp_region_held_drew (S := (fun w' => w'.cell? ⟨w.heap.size, 0, none⟩ = some (.int .i64 m.seed) ∧ w'.cell? ⟨w.heap.size, 1, none⟩ = some (.float .f64 m.fin) ∧ w'.cell? ⟨w.heap.size, 2, none⟩ = some (.slice ad m.nd cd) ∧ w'.cell? ⟨w.heap.size, 3, none⟩ = some (.slice (some ⟨bp, op, none⟩) m.np cp) ∧ w'.cell? ⟨w.heap.size, 4, none⟩ = some (.slice (some ⟨bl, ol, none⟩) m.nl cl) ∧ w'.cell? ⟨w.heap.size, 5, none⟩ = some (.slice ai m.ni ci) ∧ w'.cell? ⟨w.heap.size + 1, 0, none⟩ = some (.slice aI s.nw cI) ∧ w'.cell? ⟨w.heap.size + 1, 1, none⟩ = some (.int .i64 s.sent) ∧ w'.cell? ⟨w.heap.size + 1, 2, none⟩ = some (.int .i64 s.dice) ∧ w'.cell? ⟨w.heap.size + 2, 0, none⟩ = some (.float .f64 e.t) ∧ w'.cell? ⟨w.heap.size + 2, 1, none⟩ = some (.int .i64 e.src) ∧ w'.cell? ⟨w.heap.size + 2, 2, none⟩ = some (.int .i64 e.n) ∧ w'.cell? ⟨w.heap.size + 2, 3, none⟩ = some (.int .i64 e.dst) ∧ w'.cell? ⟨w.heap.size + 2, 4, none⟩ = some (.int .i64 e.pay) ∧ w'.cell? ⟨bl, ol + L * 2, none⟩ = some (.int .i64 (p : Int)) ∧ w'.cell? ⟨bp, op + p, none⟩ = some (gp p))) (by kernel_rfl) ?_ (fun hHeld => ?_)
      · exact SS.out _ HD.out
      change wpAnyH _ _ _ _ _ _ _ _ (World.drew u2)
      clear H2
      generalize u2.drew = u0 at *
      first | refine tq0 0 rfl ?_ | refine tq1 0 rfl ?_
      try go_frame
      first | refine tq0 1 rfl ?_ | refine tq1 1 rfl ?_
      try go_frame
      first | refine tq0 2 rfl ?_ | refine tq1 2 rfl ?_
      try go_frame
      first | refine tq0 3 rfl ?_ | refine tq1 3 rfl ?_
      try go_frame
      first | refine tq0 4 rfl ?_ | refine tq1 4 rfl ?_
      try go_frame
      first | refine tq0 5 rfl ?_ | refine tq1 5 rfl ?_
      try go_frame
      first | refine tq0 6 rfl ?_ | refine tq1 6 rfl ?_
      try go_frame
      first | refine tq0 7 rfl ?_ | refine tq1 7 rfl ?_
      try go_frame
      first | refine tq0 8 rfl ?_ | refine tq1 8 rfl ?_
      try go_frame
      first | refine tq0 9 rfl ?_ | refine tq1 9 rfl ?_
      try go_frame
      first | refine tq0 10 rfl ?_ | refine tq1 10 rfl ?_
      try go_frame
      first | refine tq0 11 rfl ?_ | refine tq1 11 rfl ?_
      try go_frame
      first | refine tq0 12 rfl ?_ | refine tq1 12 rfl ?_
      try go_frame
      first | refine tq0 13 rfl ?_ | refine tq1 13 rfl ?_
      try go_frame
      refine wpAnyH_ready (rs := [14, 19]) (by kernel_rfl) (by simp) ?_
      refine AllReadyH.cons (o := ⟨_, _, _, _, _, _⟩) rfl (fun K hK => ?_) (AllReadyH.cons (o := ⟨_, _, _, _, _, _⟩) rfl (fun K hK => ?_) AllReadyH.nil)
      · go_simp
        go_at_call 63
        refine (HIN.out _).mono ?_
        rintro x w1 ⟨rfl, hb_w1⟩
        have Hw1 := Lib.hid (HD.out.below hb_w1)
        refine hK.out _ _ ?_ (fun hHeld => ?_)
        · exact SS.out _ Hw1.out
        clear hK K
        try go_frame
        refine wpAnyH_ready (rs := [15, 19]) (by kernel_rfl) (by simp) ?_
        refine AllReadyH.cons (o := ⟨_, _, _, _, _, _⟩) rfl (fun K hK => ?_) (AllReadyH.cons (o := ⟨_, _, _, _, _, _⟩) rfl (fun K hK => ?_) AllReadyH.nil)
        · go_simp
          go_at_call 62
          refine (HRUN.out _ Hw1.out.l).mono ?_
          rintro x w2 ⟨aw, cw, as_, cs, rfl, hov, hb_w2⟩
          have Hw2 := Lib.hid (Hw1.out.below hb_w2)
          have Ow2 := Lib.hid (hov.lower Hw1.out.size)
          refine hK.out _ _ ?_ (fun hHeld => ?_)
          · exact SS.out _ Hw2.out
          clear hK K
          try go_frame
          first | refine tq0 16 rfl ?_ | refine tq1 16 rfl ?_
          try go_frame
          first | refine tq0 17 rfl ?_ | refine tq1 17 rfl ?_
          try go_frame
          first | refine tq0 18 rfl ?_ | refine tq1 18 rfl ?_
          try go_frame
          refine wpAnyH_ready (rs := [19]) (by kernel_rfl) (by simp) ?_
          refine AllReadyH.cons (o := ⟨_, _, _, _, _, _⟩) rfl (fun K hK => ?_) AllReadyH.nil
          go_simp
          have Hwz := Lib.hid (Hw2.out.below (balloc w2 (.cells #[.slice none 0 0, .slice none 0 0, .int .i64 0, .int .i64 0] 90)))
          have Zwz := Lib.hid (heap_alloc_new w2 (.cells #[.slice none 0 0, .slice none 0 0, .int .i64 0, .int .i64 0] 90))
          have Owz := Lib.hid (Ow2.out.below (balloc w2 (.cells #[.slice none 0 0, .slice none 0 0, .int .i64 0, .int .i64 0] 90)))
          have hxb : w.heap.size + 4 ≤ w2.heap.size := Hw2.out.size
          refine hK.out _ _ ?_ (fun hHeld => ?_)
          · exact SS.out _ Hwz.out
          clear hK K
          try go_frame
          generalize w2.alloc (.cells #[.slice none 0 0, .slice none 0 0, .int .i64 0, .int .i64 0] 90) = wz at *
          generalize w2.heap.size = xb at *
          have BZ := Lib.hid (put_low7 (base := w.heap.size + 4) (B := xb) hxb [.slice aw o.nw cw, .slice as_ o.ns cs, .int .i64 o.dice, .int .i64 o.f] 0 wz)
          have HZ := Lib.hid (Hwz.out.below4 BZ.out)
          have VZ : Hid (XInv (w.heap.size + 4) (xb) o aw cw as_ cs (World.setCells wz (xb) 0 [.slice aw o.nw cw, .slice as_ o.ns cs, .int .i64 o.dice, .int .i64 o.f])) := by
            obtain ⟨_, _, _, _, e1, r1, r2⟩ := Owz.out
            simp only [Value.agg.injEq, Array.mk.injEq, List.cons.injEq, Value.slice.injEq, true_and, and_true] at e1
            obtain ⟨⟨rfl, rfl⟩, rfl, rfl⟩ := e1
            exact ⟨put_four Zwz.out _ _ _ _, own_setCells (own_not r1 Zwz.out (by decide)) _ 0 _ r1, own_setCells (own_not r2 Zwz.out (by decide)) _ 0 _ r2⟩
          obtain ⟨z0, z1, z2, z3⟩ := four_cells Zwz.out
          have zf : ∀ q, wz.frozen? ⟨xb, q, none⟩ = false := fun q => Lib.frozen_of_heap Zwz.out q
          refine wpAnyH_ready (rs := [20]) (by kernel_rfl) (by simp) ?_
          refine AllReadyH.cons (o := ⟨_, _, _, _, _, _⟩) rfl (fun K hK => ?_) AllReadyH.nil
          go_simp
          change K _ (World.setCells wz (xb) 0 [.slice aw o.nw cw, .slice as_ o.ns cs, .int .i64 o.dice, .int .i64 o.f])
          refine hK.out _ _ ?_ (fun hHeld => ?_)
          · exact SS.out _ HZ.out
          clear hK K z0 z1 z2 z3 zf
          try go_frame
          first | refine tq0 21 rfl ?_ | refine tq1 21 rfl ?_
          try go_frame
          refine wpAnyH_done (by kernel_rfl) ?_ _
          change Exit.then _ _ _ _ (World.setCells wz (xb) 0 [.slice aw o.nw cw, .slice as_ o.ns cs, .int .i64 o.dice, .int .i64 o.f])
          generalize World.setCells wz (xb) 0 [.slice aw o.nw cw, .slice as_ o.ns cs, .int .i64 o.dice, .int .i64 o.f] = w9 at *
          go_wp2_with fail
          go_meet
          exact ⟨_, aw, cw, as_, cs, rfl, rfl, HZ.out, VZ.out⟩
        · go_simp
          have Hu1 := Lib.hid (Hw1.out.below (balloc w1 (.cells #[.slice none 0 0, .slice none 0 0, .int .i64 0, .int .i64 0] 90)))
          have Zu1 := Lib.hid (heap_alloc_new w1 (.cells #[.slice none 0 0, .slice none 0 0, .int .i64 0, .int .i64 0] 90))
          have hxb : w.heap.size + 4 ≤ w1.heap.size := Hw1.out.size
          refine hK.out _ _ ?_ (fun hHeld => ?_)
          · exact SS.out _ Hu1.out
          clear hK K
          try go_frame
          generalize w1.alloc (.cells #[.slice none 0 0, .slice none 0 0, .int .i64 0, .int .i64 0] 90) = u1 at *
          generalize w1.heap.size = xb at *
          refine wpAnyH_ready (rs := [15]) (by kernel_rfl) (by simp) ?_
          refine AllReadyH.cons (o := ⟨_, _, _, _, _, _⟩) rfl (fun K hK => ?_) AllReadyH.nil
          go_simp
          go_at_call 62
          refine (HRUN.out _ Hu1.out.l).mono ?_
          rintro x wz ⟨aw, cw, as_, cs, rfl, hov, hb_wz⟩
          have Hwz := Lib.hid (Hu1.out.below hb_wz)
          have Owz := Lib.hid (hov.lower Hu1.out.size)
          have Zwz := Lib.hid ((hb_wz.block _ (lt_of_block Zu1.out)).trans Zu1.out)
          refine hK.out _ _ ?_ (fun hHeld => ?_)
          · exact SS.out _ Hwz.out
          clear hK K
          try go_frame
          first | refine tq0 16 rfl ?_ | refine tq1 16 rfl ?_
          try go_frame
          first | refine tq0 17 rfl ?_ | refine tq1 17 rfl ?_
          try go_frame
          first | refine tq0 18 rfl ?_ | refine tq1 18 rfl ?_
          try go_frame
          have BZ := Lib.hid (put_low7 (base := w.heap.size + 4) (B := xb) hxb [.slice aw o.nw cw, .slice as_ o.ns cs, .int .i64 o.dice, .int .i64 o.f] 0 wz)
          have HZ := Lib.hid (Hwz.out.below4 BZ.out)
          have VZ : Hid (XInv (w.heap.size + 4) (xb) o aw cw as_ cs (World.setCells wz (xb) 0 [.slice aw o.nw cw, .slice as_ o.ns cs, .int .i64 o.dice, .int .i64 o.f])) := by
            obtain ⟨_, _, _, _, e1, r1, r2⟩ := Owz.out
            simp only [Value.agg.injEq, Array.mk.injEq, List.cons.injEq, Value.slice.injEq, true_and, and_true] at e1
            obtain ⟨⟨rfl, rfl⟩, rfl, rfl⟩ := e1
            exact ⟨put_four Zwz.out _ _ _ _, own_setCells (own_not r1 Zwz.out (by decide)) _ 0 _ r1, own_setCells (own_not r2 Zwz.out (by decide)) _ 0 _ r2⟩
          obtain ⟨z0, z1, z2, z3⟩ := four_cells Zwz.out
          have zf : ∀ q, wz.frozen? ⟨xb, q, none⟩ = false := fun q => Lib.frozen_of_heap Zwz.out q
          refine wpAnyH_ready (rs := [20]) (by kernel_rfl) (by simp) ?_
          refine AllReadyH.cons (o := ⟨_, _, _, _, _, _⟩) rfl (fun K hK => ?_) AllReadyH.nil
          go_simp
          change K _ (World.setCells wz (xb) 0 [.slice aw o.nw cw, .slice as_ o.ns cs, .int .i64 o.dice, .int .i64 o.f])
          refine hK.out _ _ ?_ (fun hHeld => ?_)
          · exact SS.out _ HZ.out
          clear hK K z0 z1 z2 z3 zf
          try go_frame
          first | refine tq0 21 rfl ?_ | refine tq1 21 rfl ?_
          try go_frame
          refine wpAnyH_done (by kernel_rfl) ?_ _
          change Exit.then _ _ _ _ (World.setCells wz (xb) 0 [.slice aw o.nw cw, .slice as_ o.ns cs, .int .i64 o.dice, .int .i64 o.f])
          generalize World.setCells wz (xb) 0 [.slice aw o.nw cw, .slice as_ o.ns cs, .int .i64 o.dice, .int .i64 o.f] = w9 at *
          go_wp2_with fail
          go_meet
          exact ⟨_, aw, cw, as_, cs, rfl, rfl, HZ.out, VZ.out⟩
      · go_simp
        have Hu1 := Lib.hid (HD.out.below (balloc u0 (.cells #[.slice none 0 0, .slice none 0 0, .int .i64 0, .int .i64 0] 90)))
        have Zu1 := Lib.hid (heap_alloc_new u0 (.cells #[.slice none 0 0, .slice none 0 0, .int .i64 0, .int .i64 0] 90))
        have hxb : w.heap.size + 4 ≤ u0.heap.size := HD.out.size
        refine hK.out _ _ ?_ (fun hHeld => ?_)
        · exact SS.out _ Hu1.out
        clear hK K
        try go_frame
        generalize u0.alloc (.cells #[.slice none 0 0, .slice none 0 0, .int .i64 0, .int .i64 0] 90) = u1 at *
        generalize u0.heap.size = xb at *
        refine wpAnyH_ready (rs := [14]) (by kernel_rfl) (by simp) ?_
        refine AllReadyH.cons (o := ⟨_, _, _, _, _, _⟩) rfl (fun K hK => ?_) AllReadyH.nil
        go_simp
        go_at_call 63
        refine (HIN.out _).mono ?_
        rintro x w1 ⟨rfl, hb_w1⟩
        have Hw1 := Lib.hid (Hu1.out.below hb_w1)
        have Zw1 := Lib.hid ((hb_w1.block _ (lt_of_block Zu1.out)).trans Zu1.out)
        refine hK.out _ _ ?_ (fun hHeld => ?_)
        · exact SS.out _ Hw1.out
        clear hK K
        try go_frame
        refine wpAnyH_ready (rs := [15]) (by kernel_rfl) (by simp) ?_
        refine AllReadyH.cons (o := ⟨_, _, _, _, _, _⟩) rfl (fun K hK => ?_) AllReadyH.nil
        go_simp
        go_at_call 62
        refine (HRUN.out _ Hw1.out.l).mono ?_
        rintro x wz ⟨aw, cw, as_, cs, rfl, hov, hb_wz⟩
        have Hwz := Lib.hid (Hw1.out.below hb_wz)
        have Owz := Lib.hid (hov.lower Hw1.out.size)
        have Zwz := Lib.hid ((hb_wz.block _ (lt_of_block Zw1.out)).trans Zw1.out)
        refine hK.out _ _ ?_ (fun hHeld => ?_)
        · exact SS.out _ Hwz.out
        clear hK K
        try go_frame
        first | refine tq0 16 rfl ?_ | refine tq1 16 rfl ?_
        try go_frame
        first | refine tq0 17 rfl ?_ | refine tq1 17 rfl ?_
        try go_frame
        first | refine tq0 18 rfl ?_ | refine tq1 18 rfl ?_
        try go_frame
        have BZ := Lib.hid (put_low7 (base := w.heap.size + 4) (B := xb) hxb [.slice aw o.nw cw, .slice as_ o.ns cs, .int .i64 o.dice, .int .i64 o.f] 0 wz)
        have HZ := Lib.hid (Hwz.out.below4 BZ.out)
        have VZ : Hid (XInv (w.heap.size + 4) (xb) o aw cw as_ cs (World.setCells wz (xb) 0 [.slice aw o.nw cw, .slice as_ o.ns cs, .int .i64 o.dice, .int .i64 o.f])) := by
          obtain ⟨_, _, _, _, e1, r1, r2⟩ := Owz.out
          simp only [Value.agg.injEq, Array.mk.injEq, List.cons.injEq, Value.slice.injEq, true_and, and_true] at e1
          obtain ⟨⟨rfl, rfl⟩, rfl, rfl⟩ := e1
          exact ⟨put_four Zwz.out _ _ _ _, own_setCells (own_not r1 Zwz.out (by decide)) _ 0 _ r1, own_setCells (own_not r2 Zwz.out (by decide)) _ 0 _ r2⟩
        obtain ⟨z0, z1, z2, z3⟩ := four_cells Zwz.out
        have zf : ∀ q, wz.frozen? ⟨xb, q, none⟩ = false := fun q => Lib.frozen_of_heap Zwz.out q
        refine wpAnyH_ready (rs := [20]) (by kernel_rfl) (by simp) ?_
        refine AllReadyH.cons (o := ⟨_, _, _, _, _, _⟩) rfl (fun K hK => ?_) AllReadyH.nil
        go_simp
        change K _ (World.setCells wz (xb) 0 [.slice aw o.nw cw, .slice as_ o.ns cs, .int .i64 o.dice, .int .i64 o.f])
        refine hK.out _ _ ?_ (fun hHeld => ?_)
        · exact SS.out _ HZ.out
        clear hK K z0 z1 z2 z3 zf
        try go_frame
        first | refine tq0 21 rfl ?_ | refine tq1 21 rfl ?_
        try go_frame
        refine wpAnyH_done (by kernel_rfl) ?_ _
        change Exit.then _ _ _ _ (World.setCells wz (xb) 0 [.slice aw o.nw cw, .slice as_ o.ns cs, .int .i64 o.dice, .int .i64 o.f])
        generalize World.setCells wz (xb) 0 [.slice aw o.nw cw, .slice as_ o.ns cs, .int .i64 o.dice, .int .i64 o.f] = w9 at *
        go_wp2_with fail
        go_meet
        exact ⟨_, aw, cw, as_, cs, rfl, rfl, HZ.out, VZ.out⟩
    case rest =>
      obtain ⟨xb, aw, cw, as_, cs, rfl, rfl, hH, hX⟩ := hcut
      have HU := Lib.hid hH
      have XU := Lib.hid hX
      clear hH hX H2
      obtain ⟨x0, x1, x2, x3⟩ := four_cells XU.out.x
      obtain ⟨z0, z1, z2⟩ := three_cells8 HU.out.z
      have zf : ∀ q, wc.frozen? ⟨w.heap.size + 3, q, none⟩ = false := fun q => Lib.frozen_of_heap HU.out.z q
      by_cases h8 : 8 < s.nw
      · have EH : Hid (handA m L s e = ⟨sta0, evs0, 0, 2⟩) := by show _ = _; rw [EA.out, if_pos h8]
        rw [if_pos h8]
        clear h8 EA
        go_wp2_with fail
        change bodyPost _ _ _ _ _ (World.setCells wc (w.heap.size + 3) 0 [.slice none 0 0, .int .i64 0, .int .i64 0])
        have h5 := put_three8 HU.out.z (.slice none 0 0) (.int .i64 0) (.int .i64 0)
        have LZ := Lib.hid (HU.out.l.trans (put_low7 (show w.heap.size ≤ w.heap.size + 3 by omega) [.slice none 0 0, .int .i64 0, .int .i64 0] 0 wc))
        obtain ⟨t0, t1, t2⟩ := three_cells8 h5
        clear h5
        generalize World.setCells wc (w.heap.size + 3) 0 [.slice none 0 0, .int .i64 0, .int .i64 0] = w9 at *
        exact bodyPost_ret (v := .tuple #[.agg #[.slice none 0 0, .int .i64 0, .int .i64 0], .slice none 0 0, .int .i64 0, .int .i64 2]) (by simp [results, Tryz.results31, go_sem, t0, t1, t2]) rfl (by
          rw [HPO.out, EH.out]
          exact ⟨_, _, rfl, sta0_at _ _, evsAt_none _ _, LZ.out⟩)
      · have EA2 : Hid (handA m L s e = if o.f ≠ 0 then ⟨s, evs0, o.f, 0⟩ else if laterB m e o o.ns = false then ⟨s, evs0, 7, 0⟩ else ⟨⟨o.nw, o.w, s.sent + (o.ns : Int), o.dice⟩, sentE m L s e o o.ns, 0, 0⟩) := by show _ = _; rw [EA.out, if_neg h8]
        have HCO := Lib.hid (HCP.out (by omega))
        rw [if_neg h8]
        clear h8 EA HCP
        by_cases hf : o.f = 0
        · have df : (o.f != 0) = false := by simp [hf]
          have EA3 : Hid (handA m L s e = if laterB m e o o.ns = false then ⟨s, evs0, 7, 0⟩ else ⟨⟨o.nw, o.w, s.sent + (o.ns : Int), o.dice⟩, sentE m L s e o o.ns, 0, 0⟩) := by show _ = _; rw [EA2.out, if_neg (by simp [hf])]
          clear hf EA2
          go_upto_region 9 with fail
          have SS : ∀ u2, HInv w m (.slice ad m.nd cd) (.slice (some ⟨bp, op, none⟩) m.np cp) (.slice (some ⟨bl, ol, none⟩) m.nl cl) (.slice ai m.ni ci) s (.slice aI s.nw cI) e u2 → XInv (w.heap.size + 4) xb o aw cw as_ cs u2 → (fun w' => w'.cell? ⟨w.heap.size, 0, none⟩ = some (.int .i64 m.seed) ∧ w'.cell? ⟨w.heap.size, 1, none⟩ = some (.float .f64 m.fin) ∧ w'.cell? ⟨w.heap.size, 2, none⟩ = some (.slice ad m.nd cd) ∧ w'.cell? ⟨w.heap.size, 3, none⟩ = some (.slice (some ⟨bp, op, none⟩) m.np cp) ∧ w'.cell? ⟨w.heap.size, 4, none⟩ = some (.slice (some ⟨bl, ol, none⟩) m.nl cl) ∧ w'.cell? ⟨w.heap.size, 5, none⟩ = some (.slice ai m.ni ci) ∧ w'.cell? ⟨w.heap.size + 1, 0, none⟩ = some (.slice aI s.nw cI) ∧ w'.cell? ⟨w.heap.size + 1, 1, none⟩ = some (.int .i64 s.sent) ∧ w'.cell? ⟨w.heap.size + 1, 2, none⟩ = some (.int .i64 s.dice) ∧ w'.cell? ⟨w.heap.size + 2, 0, none⟩ = some (.float .f64 e.t) ∧ w'.cell? ⟨w.heap.size + 2, 1, none⟩ = some (.int .i64 e.src) ∧ w'.cell? ⟨w.heap.size + 2, 2, none⟩ = some (.int .i64 e.n) ∧ w'.cell? ⟨w.heap.size + 2, 3, none⟩ = some (.int .i64 e.dst) ∧ w'.cell? ⟨w.heap.size + 2, 4, none⟩ = some (.int .i64 e.pay) ∧ w'.cell? ⟨xb, 1, none⟩ = some (.slice as_ o.ns cs)) u2 := fun u2 h1 h2 => by
            obtain ⟨q0, q1, q2, q3, q4, q5⟩ := six_cells7 h1.m
            obtain ⟨r0, r1, r2⟩ := three_cells8 h1.s
            obtain ⟨v0, v1, v2, v3, v4⟩ := five_cells8 h1.e
            obtain ⟨c0, c1, c2, c3⟩ := four_cells h2.x
            exact ⟨q0, q1, q2, q3, q4, q5, r0, r1, r2, v0, v1, v2, v3, v4, c1⟩
          have SS := Lib.hid SS
          have HD := Lib.hid (HU.out.below (bdrew wc))
          have XD := Lib.hid (XU.out.below (bdrew wc))
          refine wp_region_held_drew (S := (fun w' => w'.cell? ⟨w.heap.size, 0, none⟩ = some (.int .i64 m.seed) ∧ w'.cell? ⟨w.heap.size, 1, none⟩ = some (.float .f64 m.fin) ∧ w'.cell? ⟨w.heap.size, 2, none⟩ = some (.slice ad m.nd cd) ∧ w'.cell? ⟨w.heap.size, 3, none⟩ = some (.slice (some ⟨bp, op, none⟩) m.np cp) ∧ w'.cell? ⟨w.heap.size, 4, none⟩ = some (.slice (some ⟨bl, ol, none⟩) m.nl cl) ∧ w'.cell? ⟨w.heap.size, 5, none⟩ = some (.slice ai m.ni ci) ∧ w'.cell? ⟨w.heap.size + 1, 0, none⟩ = some (.slice aI s.nw cI) ∧ w'.cell? ⟨w.heap.size + 1, 1, none⟩ = some (.int .i64 s.sent) ∧ w'.cell? ⟨w.heap.size + 1, 2, none⟩ = some (.int .i64 s.dice) ∧ w'.cell? ⟨w.heap.size + 2, 0, none⟩ = some (.float .f64 e.t) ∧ w'.cell? ⟨w.heap.size + 2, 1, none⟩ = some (.int .i64 e.src) ∧ w'.cell? ⟨w.heap.size + 2, 2, none⟩ = some (.int .i64 e.n) ∧ w'.cell? ⟨w.heap.size + 2, 3, none⟩ = some (.int .i64 e.dst) ∧ w'.cell? ⟨w.heap.size + 2, 4, none⟩ = some (.int .i64 e.pay) ∧ w'.cell? ⟨xb, 1, none⟩ = some (.slice as_ o.ns cs))) (by kernel_rfl) ?_ (fun hHeld => ?_)
          · exact SS.out _ HD.out XD.out
          change wpAnyH _ _ _ _ _ _ _ _ (World.drew wc)
          clear x0 x1 x2 x3 z0 z1 z2 zf HU XU
          generalize wc.drew = u0 at *
          first | refine tq0 0 rfl ?_ | refine tq1 0 rfl ?_
          try go_frame
          first | refine tq0 1 rfl ?_ | refine tq1 1 rfl ?_
          try go_frame
          first | refine tq0 2 rfl ?_ | refine tq1 2 rfl ?_
          try go_frame
          first | refine tq0 3 rfl ?_ | refine tq1 3 rfl ?_
          try go_frame
          first | refine tq0 4 rfl ?_ | refine tq1 4 rfl ?_
          try go_frame
          first | refine tq0 5 rfl ?_ | refine tq1 5 rfl ?_
          try go_frame
          first | refine tq0 6 rfl ?_ | refine tq1 6 rfl ?_
          try go_frame
          first | refine tq0 7 rfl ?_ | refine tq1 7 rfl ?_
          try go_frame
          refine wpAnyH_ready (rs := [8]) (by kernel_rfl) (by simp) ?_
          refine AllReadyH.cons (o := ⟨_, _, _, _, _, _⟩) rfl (fun K hK => ?_) AllReadyH.nil
          go_simp
          go_at_call 65
          refine (HSE.out _).mono ?_
          rintro x w1 ⟨rfl, hsi, hb1⟩
          have H1 := Lib.hid (HD.out.below hb1)
          have X1 := Lib.hid (XD.out.below hb1)
          have I1 := Lib.hid hsi
          refine hK.out _ _ ?_ (fun hHeld => ?_)
          · exact SS.out _ H1.out X1.out
          clear hK K
          try go_frame
          refine wpAnyH_ready (rs := [9]) (by kernel_rfl) (by simp) ?_
          refine AllReadyH.cons (o := ⟨_, _, _, _, _, _⟩) rfl (fun K hK => ?_) AllReadyH.nil
          go_simp
          go_at_call 64
          have HPU : Hid (∀ k, k < o.ns → ∀ u, Below w1.heap.size w1 u → Calls Tryz.prog 86 #[.int .i64 (k : Int), .agg #[.int .i64 (o.sn k).dst, .int .i64 (o.sn k).dl, .int .i64 (o.sn k).pay], (.pointer (some ⟨u0.heap.size + 3, 0, none⟩)), (.pointer (some ⟨u0.heap.size, 0, none⟩)), (.pointer (some ⟨u0.heap.size + 1, 0, none⟩)), (.pointer (some ⟨u0.heap.size + 2, 0, none⟩))] u fun r w' => r = .returned (putV m L s e (o.sn k) k) ∧ Below u.heap.size u w') := fun k hk u kb => put8_any m ad cd _ cp _ cl ai ci (L : Int) s aI cI e u0.heap.size (o.sn k) k u (I1.out.below kb) (HM.out.d.below (bthen H1.out.l kb)) ND.out.1 ND.out.2 (by have := HNS.out; have := SENT.out; omega) (by have := HNS.out; have := SENT.out; omega)
          refine (eventsOf8_any m (L : Int) s e o HNS.out (.slice as_ o.ns cs) _ _ _ _ w1 (own_sl X1.out.s) HPU).mono ?_
          rintro x w2 ⟨ve, rfl, hve, hb2⟩
          have H2 := Lib.hid (H1.out.below hb2)
          have X2 := Lib.hid (X1.out.below hb2)
          have V2 := Lib.hid (hve.lower H1.out.l.size)
          refine hK.out _ _ ?_ (fun hHeld => ?_)
          · exact SS.out _ H2.out X2.out
          clear hK K
          try go_frame
          obtain ⟨az, cz, rfl, _⟩ := id hve
          clear hb1 hb2 hve hsi HPU
          first | refine tq0 10 rfl ?_ | refine tq1 10 rfl ?_
          try go_frame
          first | refine tq0 11 rfl ?_ | refine tq1 11 rfl ?_
          try go_frame
          first | refine tq0 12 rfl ?_ | refine tq1 12 rfl ?_
          try go_frame
          first | refine tq0 13 rfl ?_ | refine tq1 13 rfl ?_
          try go_frame
          first | refine tq0 14 rfl ?_ | refine tq1 14 rfl ?_
          try go_frame
          refine wpAnyH_done (by kernel_rfl) ?_ _
          clear hHeld SS
          obtain ⟨x0, x1, x2, x3⟩ := four_cells X2.out.x
          obtain ⟨s0, s1, s2⟩ := three_cells8 H2.out.s
          obtain ⟨z0, z1, z2⟩ := three_cells8 H2.out.z
          have zf : ∀ q, w2.frozen? ⟨w.heap.size + 3, q, none⟩ = false := fun q => Lib.frozen_of_heap H2.out.z q
          cases hlb : laterB m e o o.ns with
          | false =>
            have EH : Hid (handA m L s e = ⟨s, evs0, 7, 0⟩) := by show _ = _; rw [EA3.out, if_pos hlb]
            rw [hlb] at V2
            clear hlb EA3
            go_wp2_with fail
            refine (HCO.out _ H2.out.l).mono ?_
            rintro x w9 ⟨v, rfl, hv, hb9⟩
            obtain ⟨vW, rfl, hw9⟩ := hv
            have Hw9 := Lib.hid (H2.out.below hb9)
            have Ww9 := Lib.hid (own_lower hw9 H2.out.l.size)
            obtain ⟨a1, c1, rfl, _, _, _⟩ := id (own_sl hw9)
            unfold sval
            clear hb9 hw9 x0 x1 x2 x3 s0 s1 s2 z0 z1 z2 zf
            obtain ⟨z0, z1, z2⟩ := three_cells8 Hw9.out.z
            have zf : ∀ q, w9.frozen? ⟨w.heap.size + 3, q, none⟩ = false := fun q => Lib.frozen_of_heap Hw9.out.z q
            go_wp2_with fail
            change bodyPost _ _ _ _ _ (World.setCells w9 (w.heap.size + 3) 0 [.slice a1 s.nw c1, .int .i64 s.sent, .int .i64 s.dice])
            have h5 := put_three8 Hw9.out.z (.slice a1 s.nw c1) (.int .i64 s.sent) (.int .i64 s.dice)
            have LZ := Lib.hid (Hw9.out.l.trans (put_low7 (show w.heap.size ≤ w.heap.size + 3 by omega) [.slice a1 s.nw c1, .int .i64 s.sent, .int .i64 s.dice] 0 w9))
            have SA : Hid (StaAt w.heap.size s (.agg #[.slice a1 s.nw c1, .int .i64 s.sent, .int .i64 s.dice]) (World.setCells w9 (w.heap.size + 3) 0 [.slice a1 s.nw c1, .int .i64 s.sent, .int .i64 s.dice])) := ⟨_, rfl, own_setCells (own_not Ww9.out Hw9.out.z (by decide)) _ 0 _ Ww9.out⟩
            obtain ⟨t0, t1, t2⟩ := three_cells8 h5
            clear h5
            generalize World.setCells w9 (w.heap.size + 3) 0 [.slice a1 s.nw c1, .int .i64 s.sent, .int .i64 s.dice] = w11 at *
            exact bodyPost_ret (v := .tuple #[.agg #[.slice a1 s.nw c1, .int .i64 s.sent, .int .i64 s.dice], .slice none 0 0, .int .i64 7, .int .i64 0]) (by simp [results, Tryz.results31, go_sem, t0, t1, t2]) rfl (by
              rw [HPO.out, EH.out]
              exact ⟨_, _, rfl, SA.out, evsAt_none _ _, LZ.out⟩)
          | true =>
            have EH : Hid (handA m L s e = ⟨⟨o.nw, o.w, s.sent + (o.ns : Int), o.dice⟩, sentE m L s e o o.ns, 0, 0⟩) := by show _ = _; rw [EA3.out, if_neg (by rw [hlb]; decide)]
            rw [hlb] at V2
            dsimp only [gate8] at V2 ⊢
            clear hlb EA3
            have hn4 := HNS.out
            obtain ⟨hs0, hs1⟩ := SENT.out
            have l1 : -9223372036854775808 ≤ s.sent + (o.ns : Int) := by omega
            have l2 : s.sent + (o.ns : Int) ≤ 9223372036854775807 := by omega
            have H3 := Lib.hid (H2.out.below (balloc w2 (.cells #[.slice aw o.nw cw, .int .i64 (s.sent + (o.ns : Int)), .int .i64 o.dice] 55)))
            have X3 := Lib.hid (X2.out.below (balloc w2 (.cells #[.slice aw o.nw cw, .int .i64 (s.sent + (o.ns : Int)), .int .i64 o.dice] 55)))
            have V3 := Lib.hid (V2.out.below (balloc w2 (.cells #[.slice aw o.nw cw, .int .i64 (s.sent + (o.ns : Int)), .int .i64 o.dice] 55)))
            have T3 := Lib.hid (heap_alloc_new w2 (.cells #[.slice aw o.nw cw, .int .i64 (s.sent + (o.ns : Int)), .int .i64 o.dice] 55))
            generalize hu : w2.alloc (.cells #[.slice aw o.nw cw, .int .i64 (s.sent + (o.ns : Int)), .int .i64 o.dice] 55) = u3 at *
            go_upto_region 13 with fail
            try rw [hu]
            clear hu x0 x1 x2 x3 s0 s1 s2 z0 z1 z2 zf
            generalize w2.heap.size = q3 at *
            obtain ⟨t0, t1, t2⟩ := three_cells8 T3.out
            obtain ⟨z0, z1, z2⟩ := three_cells8 H3.out.z
            have zf : ∀ q, u3.frozen? ⟨w.heap.size + 3, q, none⟩ = false := fun q => Lib.frozen_of_heap H3.out.z q
            go_wp2_with fail
            clear t0 t1 t2
            change bodyPost _ _ _ _ _ (World.setCells u3 (w.heap.size + 3) 0 [.slice aw o.nw cw, .int .i64 (s.sent + (o.ns : Int)), .int .i64 o.dice])
            have h5 := put_three8 H3.out.z (.slice aw o.nw cw) (.int .i64 (s.sent + (o.ns : Int))) (.int .i64 o.dice)
            have LZ := Lib.hid (H3.out.l.trans (put_low7 (show w.heap.size ≤ w.heap.size + 3 by omega) [.slice aw o.nw cw, .int .i64 (s.sent + (o.ns : Int)), .int .i64 o.dice] 0 u3))
            have SA : Hid (StaAt w.heap.size ⟨o.nw, o.w, s.sent + (o.ns : Int), o.dice⟩ (.agg #[.slice aw o.nw cw, .int .i64 (s.sent + (o.ns : Int)), .int .i64 o.dice]) (World.setCells u3 (w.heap.size + 3) 0 [.slice aw o.nw cw, .int .i64 (s.sent + (o.ns : Int)), .int .i64 o.dice])) := ⟨_, rfl, own_lower (own_setCells (own_not X3.out.w H3.out.z (by decide)) _ 0 _ X3.out.w) (by omega)⟩
            have SV : Hid (EvsAt w.heap.size (sentE m L s e o o.ns) (.slice az (sentE m L s e o o.ns).n cz) (World.setCells u3 (w.heap.size + 3) 0 [.slice aw o.nw cw, .int .i64 (s.sent + (o.ns : Int)), .int .i64 o.dice])) := by
              obtain ⟨_, _, e1, h1⟩ := V3.out
              simp only [Value.slice.injEq, true_and] at e1
              obtain ⟨rfl, rfl⟩ := e1
              exact ⟨_, _, rfl, own_setCells (own_not h1 H3.out.z (by decide)) _ 0 _ h1⟩
            obtain ⟨t0, t1, t2⟩ := three_cells8 h5
            clear h5
            generalize World.setCells u3 (w.heap.size + 3) 0 [.slice aw o.nw cw, .int .i64 (s.sent + (o.ns : Int)), .int .i64 o.dice] = w9 at *
            exact bodyPost_ret (v := .tuple #[.agg #[.slice aw o.nw cw, .int .i64 (s.sent + (o.ns : Int)), .int .i64 o.dice], .slice az (sentE m L s e o o.ns).n cz, .int .i64 0, .int .i64 0]) (by simp [results, Tryz.results31, go_sem, t0, t1, t2]) rfl (by
              rw [HPO.out, EH.out]
              exact ⟨_, _, rfl, SA.out, SV.out, LZ.out⟩)
        · have df : (o.f != 0) = true := by simp [hf]
          have EH : Hid (handA m L s e = ⟨s, evs0, o.f, 0⟩) := by show _ = _; rw [EA2.out, if_pos hf]
          clear hf EA2
          go_upto_region 8 with fail
          have SS : ∀ u2, HInv w m (.slice ad m.nd cd) (.slice (some ⟨bp, op, none⟩) m.np cp) (.slice (some ⟨bl, ol, none⟩) m.nl cl) (.slice ai m.ni ci) s (.slice aI s.nw cI) e u2 → XInv (w.heap.size + 4) xb o aw cw as_ cs u2 → (fun w' => w'.cell? ⟨w.heap.size + 1, 0, none⟩ = some (.slice aI s.nw cI) ∧ w'.cell? ⟨w.heap.size + 1, 1, none⟩ = some (.int .i64 s.sent) ∧ w'.cell? ⟨w.heap.size + 1, 2, none⟩ = some (.int .i64 s.dice) ∧ w'.cell? ⟨xb, 3, none⟩ = some (.int .i64 o.f)) u2 := fun u2 h1 h2 => by
            obtain ⟨r0, r1, r2⟩ := three_cells8 h1.s
            obtain ⟨c0, c1, c2, c3⟩ := four_cells h2.x
            exact ⟨r0, r1, r2, c3⟩
          have SS := Lib.hid SS
          have HD := Lib.hid (HU.out.below (bdrew wc))
          have XD := Lib.hid (XU.out.below (bdrew wc))
          refine wp_region_held_drew (S := (fun w' => w'.cell? ⟨w.heap.size + 1, 0, none⟩ = some (.slice aI s.nw cI) ∧ w'.cell? ⟨w.heap.size + 1, 1, none⟩ = some (.int .i64 s.sent) ∧ w'.cell? ⟨w.heap.size + 1, 2, none⟩ = some (.int .i64 s.dice) ∧ w'.cell? ⟨xb, 3, none⟩ = some (.int .i64 o.f))) (by kernel_rfl) ?_ (fun hHeld => ?_)
          · exact SS.out _ HD.out XD.out
          change wpAnyH _ _ _ _ _ _ _ _ (World.drew wc)
          clear x0 x1 x2 x3 z0 z1 z2 zf HU XU
          generalize wc.drew = u0 at *
          first | refine tq0 0 rfl ?_ | refine tq1 0 rfl ?_
          try go_frame
          first | refine tq0 2 rfl ?_ | refine tq1 2 rfl ?_
          try go_frame
          first | refine tq0 3 rfl ?_ | refine tq1 3 rfl ?_
          try go_frame
          refine wpAnyH_ready (rs := [1]) (by kernel_rfl) (by simp) ?_
          refine AllReadyH.cons (o := ⟨_, _, _, _, _, _⟩) rfl (fun K hK => ?_) AllReadyH.nil
          go_simp
          go_at_call 34
          refine (HCO.out _ HD.out.l).mono ?_
          rintro x w1 ⟨v, rfl, hv, hb9⟩
          obtain ⟨vW, rfl, hw9⟩ := hv
          have Hw1 := Lib.hid (HD.out.below hb9)
          have Ww1 := Lib.hid (own_lower hw9 HD.out.l.size)
          obtain ⟨a1, c1, rfl, _, _, _⟩ := id (own_sl hw9)
          have X1 := Lib.hid (XD.out.below hb9)
          unfold sval
          refine hK.out _ _ ?_ (fun hHeld => ?_)
          · exact SS.out _ Hw1.out X1.out
          clear hK K
          try go_frame
          clear hb9 hw9
          obtain ⟨z0, z1, z2⟩ := three_cells8 Hw1.out.z
          have zf : ∀ q, w1.frozen? ⟨w.heap.size + 3, q, none⟩ = false := fun q => Lib.frozen_of_heap Hw1.out.z q
          have h5 := put_three8 Hw1.out.z (.slice a1 s.nw c1) (.int .i64 s.sent) (.int .i64 s.dice)
          have LZ := Lib.hid (Hw1.out.l.trans (put_low7 (show w.heap.size ≤ w.heap.size + 3 by omega) [.slice a1 s.nw c1, .int .i64 s.sent, .int .i64 s.dice] 0 w1))
          have SA : Hid (StaAt w.heap.size s (.agg #[.slice a1 s.nw c1, .int .i64 s.sent, .int .i64 s.dice]) (World.setCells w1 (w.heap.size + 3) 0 [.slice a1 s.nw c1, .int .i64 s.sent, .int .i64 s.dice])) := ⟨_, rfl, own_setCells (own_not Ww1.out Hw1.out.z (by decide)) _ 0 _ Ww1.out⟩
          have S9 : Hid ((fun w' => w'.cell? ⟨w.heap.size + 1, 0, none⟩ = some (.slice aI s.nw cI) ∧ w'.cell? ⟨w.heap.size + 1, 1, none⟩ = some (.int .i64 s.sent) ∧ w'.cell? ⟨w.heap.size + 1, 2, none⟩ = some (.int .i64 s.dice) ∧ w'.cell? ⟨xb, 3, none⟩ = some (.int .i64 o.f)) (World.setCells w1 (w.heap.size + 3) 0 [.slice a1 s.nw c1, .int .i64 s.sent, .int .i64 s.dice])) := by
            have k1 : (World.setCells w1 (w.heap.size + 3) 0 [.slice a1 s.nw c1, .int .i64 s.sent, .int .i64 s.dice]).heap[w.heap.size + 1]? = some (.cells #[.slice aI s.nw cI, .int .i64 s.sent, .int .i64 s.dice] 55) := (setCells_other8 (by omega) _ 0 w1).trans Hw1.out.s
            have hne : xb ≠ w.heap.size + 3 := by
              rintro rfl
              have := X1.out.x.symm.trans Hw1.out.z
              simp only [Option.some.injEq, Obj.cells.injEq] at this
              exact absurd this.2.1 (by decide)
            have k2 := (setCells_other8 hne [.slice a1 s.nw c1, .int .i64 s.sent, .int .i64 s.dice] 0 w1).trans X1.out.x
            obtain ⟨r0, r1, r2⟩ := three_cells8 k1
            obtain ⟨c0, c1, c2, c3⟩ := four_cells k2
            exact ⟨r0, r1, r2, c3⟩
          refine wpAnyH_ready (rs := [4]) (by kernel_rfl) (by simp) ?_
          refine AllReadyH.cons (o := ⟨_, _, _, _, _, _⟩) rfl (fun K hK => ?_) AllReadyH.nil
          go_simp
          change K _ (World.setCells w1 (w.heap.size + 3) 0 [.slice a1 s.nw c1, .int .i64 s.sent, .int .i64 s.dice])
          refine hK.out _ _ ?_ (fun hHeld => ?_)
          · exact S9.out
          clear hK K z0 z1 z2 zf
          try go_frame
          first | refine tq0 5 rfl ?_ | refine tq1 5 rfl ?_
          try go_frame
          first | refine tq0 6 rfl ?_ | refine tq1 6 rfl ?_
          try go_frame
          first | refine tq0 7 rfl ?_ | refine tq1 7 rfl ?_
          try go_frame
          refine wpAnyH_done (by kernel_rfl) ?_ _
          change Exit.then _ _ _ _ (World.setCells w1 (w.heap.size + 3) 0 [.slice a1 s.nw c1, .int .i64 s.sent, .int .i64 s.dice])
          obtain ⟨t0, t1, t2⟩ := three_cells8 h5
          clear h5 hHeld S9
          generalize (World.setCells w1 (w.heap.size + 3) 0 [.slice a1 s.nw c1, .int .i64 s.sent, .int .i64 s.dice]) = w9 at *
          go_wp2_with fail
          exact bodyPost_ret (v := .tuple #[.agg #[.slice a1 s.nw c1, .int .i64 s.sent, .int .i64 s.dice], .slice none 0 0, .int .i64 o.f, .int .i64 0]) (by simp [results, Tryz.results31, go_sem, t0, t1, t2]) rfl (by
            rw [HPO.out, EH.out]
            exact ⟨_, _, rfl, SA.out, evsAt_none _ _, LZ.out⟩)
theorem handleAny : HandleAny := fun m vd vp vl vi lp s vI e w hm hs hb hbd => handle8 m vd vp vl vi lp s vI e w hm hs hb hbd

end Go.Proofs.YthkfaeplmmlnlaaGreat
