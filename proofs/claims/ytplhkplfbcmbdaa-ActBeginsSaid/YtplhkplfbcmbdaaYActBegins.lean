/- The walk of the law ActBegins, over whatever the program's Begin, First, Same are known to answer. -/
import Derived.Test.YtplhkplfbcmbdaaYActHandles
import Derived.Test.YtplhkplfbcmbdaaYZ3
namespace Go.Proofs.Ytplhkplfbcmbdaa
open Go.RowKit Go.Deep
set_option linter.unusedVariables false
set_option maxRecDepth 100000

theorem chk_more {m : Mdl} (h : chkN m = 0) : (∀ i, i < m.nl → m.wl i ≤ 8) ∧ m.ni ≤ 16 := by
  unfold chkN at h
  have hm : mayB m = true := by
    cases hq : mayB m with
    | true => rfl
    | false => rw [hq] at h; exact absurd h (by decide)
  unfold mayB at hm
  simp only [Bool.and_eq_true] at hm
  obtain ⟨hc, _, _, _, hl, _⟩ := hm
  unfold countsB from1 at hc
  simp only [Bool.and_eq_true, decide_eq_true_eq] at hc
  refine ⟨fun i hi => ?_, hc.2.2.2⟩
  have := (allN_iff _ _).1 hl i hi
  unfold lpB at this
  simp only [Bool.and_eq_true, decide_eq_true_eq] at this
  exact this.2
set_option maxHeartbeats 6400000 in
theorem actBegins_core (HAW : Hid (∀ w, Calls Try.prog 10 #[] w fun e w' => e = .returned (.bool true) ∧ Below w.heap.size w w')) (HBG : Hid BeginAny) (HFI : Hid FirstAny) (HSA : Hid SameAny8)
    (m : Mdl) (vd vp vl vi : Value) (lp : Int) (w : World) (hm : MdlAt m vd vp vl vi w) :
    Calls Try.prog 3 #[mval m vd vp vl vi, .int .i64 lp] w fun x w' => x = .returned (.bool true) ∧ Below w.heap.size w w' := by
  have HM := Lib.hid hm
  obtain ⟨ad, cd, rfl, _, _, _⟩ := id hm.d
  obtain ⟨ai, ci, rfl, _, _, _⟩ := id hm.i
  obtain ⟨_, ⟨ap, cp, rfl, _, _, _⟩, _⟩ := id hm.p
  obtain ⟨_, ⟨al, cl, rfl, _, _, _⟩, _⟩ := id hm.l
  have X1 := Lib.hid (heap_alloc_new w (.cells #[.int .i64 m.seed, .float .f64 m.fin, .slice ad m.nd cd, .slice ap m.np cp, .slice al m.nl cl, .slice ai m.ni ci] 28))
  have B1 := Lib.hid (balloc w (.cells #[.int .i64 m.seed, .float .f64 m.fin, .slice ad m.nd cd, .slice ap m.np cp, .slice al m.nl cl, .slice ai m.ni ci] 28))
  have HL := Lib.hid (light8_any m _ _ _ _ _ (hm.below B1.out))
  have HB : Hid (∀ u, Below w.heap.size w u → Calls Try.prog 11 #[.agg #[.int .i64 m.seed, .float .f64 m.fin, .slice ad m.nd cd, .slice ap m.np cp, .slice al m.nl cl, .slice ai m.ni ci]] u fun x w' => ∃ v, x = .returned (.tuple #[v, .int .i64 (beginA m).2]) ∧ EvsAt u.heap.size (beginA m).1 v w' ∧ Below u.heap.size u w') := fun u k => HBG.out m _ _ _ _ u (HM.out.below k)
  have HF : Hid (∀ u, Below w.heap.size w u → Calls Try.prog 12 #[.agg #[.int .i64 m.seed, .float .f64 m.fin, .slice ad m.nd cd, .slice ap m.np cp, .slice al m.nl cl, .slice ai m.ni ci], .int .i64 lp] u fun x w' => ∃ v, x = .returned (.tuple #[v, .int .i64 (firstA m lp).2]) ∧ StaAt u.heap.size (firstA m lp).1 v w' ∧ Below u.heap.size u w') := fun u k => HFI.out m _ _ _ _ lp u (HM.out.below k)
  have HK : Hid (∀ u, Below w.heap.size w u → Calls Try.prog 13 #[.agg #[.int .i64 m.seed, .float .f64 m.fin, .slice ad m.nd cd, .slice ap m.np cp, .slice al m.nl cl, .slice ai m.ni ci]] u fun x w' => x = .returned (.int .i64 (chkN m)) ∧ Below u.heap.size u w') := fun u k => refCheck_any m _ _ _ _ u (HM.out.below k)
  have HRB : Hid (m.ni ≤ 16 → ∀ u, Below w.heap.size w u → Calls Try.prog 16 #[.agg #[.int .i64 m.seed, .float .f64 m.fin, .slice ad m.nd cd, .slice ap m.np cp, .slice al m.nl cl, .slice ai m.ni ci]] u fun x w' => ∃ v, x = .returned v ∧ EvsAt u.heap.size (beginE m m.ni) v w' ∧ Below u.heap.size u w') := fun h u k => refBegin8_any m _ _ _ _ u (HM.out.below k).i h
  have HRF : Hid (∀ L : Nat, L < m.nl → m.wl L ≤ 100 → ∀ u, Below w.heap.size w u → Calls Try.prog 18 #[.agg #[.int .i64 m.seed, .float .f64 m.fin, .slice ad m.nd cd, .slice ap m.np cp, .slice al m.nl cl, .slice ai m.ni ci], .int .i64 (L : Int)] u fun x w' => ∃ v, x = .returned v ∧ StaAt u.heap.size (firstS m L) v w' ∧ Below u.heap.size u w') := fun L h1 h2 u k => refFirst8_any m _ _ _ _ L u (HM.out.below k) h1 h2
  have HSM : Hid (∀ (b : Sta) (va vb : Value) (u : World), Sl 1 (gW b.w) b.nw va u → Sl 1 (gW b.w) b.nw vb u → Calls Try.prog 17 #[.agg #[va, .int .i64 b.sent, .int .i64 b.dice], .agg #[vb, .int .i64 b.sent, .int .i64 b.dice]] u fun x w' => x = .returned (.bool true) ∧ Below u.heap.size u w') := fun b va vb u h1 h2 => by
    have := refSame8_any b b va vb u h1 h2
    rw [sameW_refl, decide_eq_true rfl, decide_eq_true rfl] at this
    exact this
  have HSE : Hid (∀ (l : Evs) (va vb : Value) (u : World), Sl 5 (gV8 l.f) l.n va u → Sl 5 (gV8 l.f) l.n vb u → Calls Try.prog 15 #[va, vb] u fun x w' => x = .returned (.bool true) ∧ Below u.heap.size u w') := fun l va vb u h1 h2 => sameEv8_refl l va vb u h1 h2
  obtain ⟨m0, m1, m2, m3, m4, m5⟩ := six_cells7 X1.out
  have hc : chkN m = 0 ∨ chkN m = 15 := by unfold chkN; split <;> simp
  clear hm HBG HFI
  unfold mval at HL ⊢
  go_enter Try.func3, Try.ntmps3
  go_upto_region 1 with fail
  generalize w.alloc (.cells #[.int .i64 m.seed, .float .f64 m.fin, .slice ad m.nd cd, .slice ap m.np cp, .slice al m.nl cl, .slice ai m.ni ci] 28) = u at *
  go_wp2_with (first
    | (go_at_call 9; refine HL.out.mono ?_; rintro x u2 ⟨b, rfl, hb2⟩; have B2 := Lib.hid (bthen B1.out hb2); have X2 := Lib.hid ((hb2.block _ (lt_of_block X1.out)).trans X1.out); clear hb2 m0 m1 m2 m3 m4 m5 HL; obtain ⟨m0, m1, m2, m3, m4, m5⟩ := six_cells7 X2.out; cases b)
    | (go_at_call 10; refine (HAW.out _).mono ?_; rintro x w9 ⟨rfl, hb9⟩; have BU := Lib.hid (bthen B2.out hb9); clear hb9))
  · go_ret
    exact ⟨rfl, BU.out⟩
  · refine (HB.out _ B2.out).mono ?_
    rintro x u3 ⟨ve, rfl, h2, hb3⟩
    have B3 := Lib.hid (bthen B2.out hb3)
    have X3 := Lib.hid ((hb3.block _ (lt_of_block X2.out)).trans X2.out)
    have E3 := Lib.hid h2
    clear hb3 h2
    clear m0 m1 m2 m3 m4 m5
    obtain ⟨m0, m1, m2, m3, m4, m5⟩ := six_cells7 X3.out
    go_wp2_with fail
    refine (HF.out _ B3.out).mono ?_
    rintro x u4 ⟨vs, rfl, h1, hb4⟩
    have B4 := Lib.hid (bthen B3.out hb4)
    have X4 := Lib.hid ((hb4.block _ (lt_of_block X3.out)).trans X3.out)
    have E4 := Lib.hid (E3.out.below hb4)
    obtain ⟨vJ, rfl, h1⟩ := h1
    have S4 := Lib.hid h1
    obtain ⟨aJ, cJ, rfl, _⟩ := id (own_sl h1)
    unfold sval
    clear hb4 h1 E3
    clear m0 m1 m2 m3 m4 m5
    go_upto_region 5 with fail
    have B5 := Lib.hid (bthen B4.out (balloc u4 (.cells #[.slice aJ (firstA m lp).1.nw cJ, .int .i64 (firstA m lp).1.sent, .int .i64 (firstA m lp).1.dice] 37)))
    have X5 := Lib.hid ((Below.heap_alloc u4 (.cells #[.slice aJ (firstA m lp).1.nw cJ, .int .i64 (firstA m lp).1.sent, .int .i64 (firstA m lp).1.dice] 37) _ (lt_of_block X4.out)).trans X4.out)
    have S5 := Lib.hid (own_sl (own_below S4.out (balloc u4 (.cells #[.slice aJ (firstA m lp).1.nw cJ, .int .i64 (firstA m lp).1.sent, .int .i64 (firstA m lp).1.dice] 37))))
    have E5 := Lib.hid (E4.out.below (balloc u4 (.cells #[.slice aJ (firstA m lp).1.nw cJ, .int .i64 (firstA m lp).1.sent, .int .i64 (firstA m lp).1.dice] 37))).sl
    have Y5 := Lib.hid (heap_alloc_new u4 (.cells #[.slice aJ (firstA m lp).1.nw cJ, .int .i64 (firstA m lp).1.sent, .int .i64 (firstA m lp).1.dice] 37))
    clear S4 E4 HB HF
    generalize u4.alloc (.cells #[.slice aJ (firstA m lp).1.nw cJ, .int .i64 (firstA m lp).1.sent, .int .i64 (firstA m lp).1.dice] 37) = u5 at *
    generalize u4.heap.size = yb at *
    obtain ⟨m0, m1, m2, m3, m4, m5⟩ := six_cells7 X5.out
    have BZ := Lib.hid (Below.refl u5.heap.size u5)
    by_cases h0 : chkN m = 0
    · have hni := (chk_more h0).2
      have hwl := (chk_more h0).1
      have HRB2 := Lib.hid (HRB.out hni)
      have eb : beginA m = (beginE m m.ni, 0) := if_neg (by simp [h0])
      rw [eb] at E5 ⊢
      rw [h0] at HK
      by_cases hl : lp < 0 ∨ (m.nl : Int) ≤ lp
      · have ef : firstA m lp = (sta0, 2) := by unfold firstA; rw [if_neg (by simp [h0]), if_pos hl]
        rw [ef] at Y5 S5 ⊢
        have BA := Lib.hid (B5.out)
        by_cases hl0 : lp < 0
        · have d0 : decide (lp < 0) = true := by simp [hl0]
          clear hl hl0 h0 hc hni hwl eb ef HRB HRF HSA
          dsimp only [sta0] at Y5 S5 ⊢
          go_wp2_with (first
            | (go_at_call 13; refine (HK.out _ B5.out).mono ?_; rintro x w6 ⟨rfl, hb6⟩; have BZ := Lib.hid (bthen BZ.out hb6); clear m0 m1 m2 m3 m4 m5; obtain ⟨m0, m1, m2, m3, m4, m5⟩ := six_cells7 ((BZ.out.block _ (lt_of_block X5.out)).trans X5.out); clear hb6)
            | (go_at_call 10; refine (HAW.out _).mono ?_; rintro x w9 ⟨rfl, hb9⟩; have BZ := Lib.hid (bthen BZ.out hb9); clear m0 m1 m2 m3 m4 m5; obtain ⟨m0, m1, m2, m3, m4, m5⟩ := six_cells7 ((BZ.out.block _ (lt_of_block X5.out)).trans X5.out); clear hb9)
            | (go_at_call 16; refine (HRB2.out _ (bthen B5.out BZ.out)).mono ?_; rintro x w10 ⟨vr, rfl, hr, hb10⟩; have BZ := Lib.hid (bthen BZ.out hb10); have ER := Lib.hid hr.sl; clear hb10 hr)
            | (go_at_call 15; refine (HSE.out _ _ _ _ (E5.out.below BZ.out) ER.out).mono ?_; rintro x w11 ⟨rfl, hb11⟩; have BZ := Lib.hid (bthen BZ.out hb11); clear hb11))
          go_ret
          exact ⟨rfl, bthen B5.out BZ.out⟩
        · have d0 : decide (lp < 0) = false := by simp [hl0]
          have d1 : decide ((m.nl : Int) ≤ lp) = true := by simp; omega
          clear hl hl0 h0 hc hni hwl eb ef HRB HRF HSA
          dsimp only [sta0] at Y5 S5 ⊢
          go_wp2_with (first
            | (go_at_call 13; refine (HK.out _ B5.out).mono ?_; rintro x w6 ⟨rfl, hb6⟩; have BZ := Lib.hid (bthen BZ.out hb6); clear m0 m1 m2 m3 m4 m5; obtain ⟨m0, m1, m2, m3, m4, m5⟩ := six_cells7 ((BZ.out.block _ (lt_of_block X5.out)).trans X5.out); clear hb6)
            | (go_at_call 10; refine (HAW.out _).mono ?_; rintro x w9 ⟨rfl, hb9⟩; have BZ := Lib.hid (bthen BZ.out hb9); clear m0 m1 m2 m3 m4 m5; obtain ⟨m0, m1, m2, m3, m4, m5⟩ := six_cells7 ((BZ.out.block _ (lt_of_block X5.out)).trans X5.out); clear hb9)
            | (go_at_call 16; refine (HRB2.out _ (bthen B5.out BZ.out)).mono ?_; rintro x w10 ⟨vr, rfl, hr, hb10⟩; have BZ := Lib.hid (bthen BZ.out hb10); have ER := Lib.hid hr.sl; clear hb10 hr)
            | (go_at_call 15; refine (HSE.out _ _ _ _ (E5.out.below BZ.out) ER.out).mono ?_; rintro x w11 ⟨rfl, hb11⟩; have BZ := Lib.hid (bthen BZ.out hb11); clear hb11))
          go_ret
          exact ⟨rfl, bthen B5.out BZ.out⟩
      · obtain ⟨L, rfl⟩ : ∃ L : Nat, lp = (L : Int) := ⟨lp.toNat, by omega⟩
        have hLn : L < m.nl := by omega
        have HRF2 := Lib.hid (HRF.out L hLn (by have := hwl L hLn; omega))
        have ef : firstA m L = (firstS m L, 0) := by unfold firstA; rw [if_neg (by simp [h0]), if_neg hl, Int.toNat_natCast]
        rw [ef] at Y5 S5 ⊢
        have d0 : decide ((L : Int) < 0) = false := by simp
        have d1 : decide ((m.nl : Int) ≤ (L : Int)) = false := by simp; omega
        have d2 : decide (m.nl ≤ L) = false := by simp; omega
        clear hl h0 hc hni hwl eb ef HRB HRF HSA hLn
        generalize firstS m L = fs at *
        go_upto_region 9 with (go_at_call 13; refine (HK.out _ B5.out).mono ?_; rintro x w6 ⟨rfl, hb6⟩; have BZ := Lib.hid (bthen BZ.out hb6); clear m0 m1 m2 m3 m4 m5; obtain ⟨m0, m1, m2, m3, m4, m5⟩ := six_cells7 ((BZ.out.block _ (lt_of_block X5.out)).trans X5.out); clear hb6)
        clear m0 m1 m2 m3 m4 m5
        have KS : ∀ u2, Below u5.heap.size u5 u2 → (fun w' => w'.cell? ⟨w.heap.size, 0, none⟩ = some (.int .i64 m.seed) ∧ w'.cell? ⟨w.heap.size, 1, none⟩ = some (.float .f64 m.fin) ∧ w'.cell? ⟨w.heap.size, 2, none⟩ = some (.slice ad m.nd cd) ∧ w'.cell? ⟨w.heap.size, 3, none⟩ = some (.slice ap m.np cp) ∧ w'.cell? ⟨w.heap.size, 4, none⟩ = some (.slice al m.nl cl) ∧ w'.cell? ⟨w.heap.size, 5, none⟩ = some (.slice ai m.ni ci) ∧ w'.cell? ⟨yb, 0, none⟩ = some (.slice aJ fs.nw cJ) ∧ w'.cell? ⟨yb, 1, none⟩ = some (.int .i64 fs.sent) ∧ w'.cell? ⟨yb, 2, none⟩ = some (.int .i64 fs.dice)) u2 := fun u2 k => by
          obtain ⟨m0, m1, m2, m3, m4, m5⟩ := six_cells7 ((k.block _ (lt_of_block X5.out)).trans X5.out)
          obtain ⟨y0, y1, y2⟩ := three_cells8 ((k.block _ (lt_of_block Y5.out)).trans Y5.out)
          exact ⟨m0, m1, m2, m3, m4, m5, y0, y1, y2⟩
        have KS := Lib.hid KS
        have BZ := Lib.hid (bthen BZ.out (bdrew w6))
        refine wp_region_held_drew (S := (fun w' => w'.cell? ⟨w.heap.size, 0, none⟩ = some (.int .i64 m.seed) ∧ w'.cell? ⟨w.heap.size, 1, none⟩ = some (.float .f64 m.fin) ∧ w'.cell? ⟨w.heap.size, 2, none⟩ = some (.slice ad m.nd cd) ∧ w'.cell? ⟨w.heap.size, 3, none⟩ = some (.slice ap m.np cp) ∧ w'.cell? ⟨w.heap.size, 4, none⟩ = some (.slice al m.nl cl) ∧ w'.cell? ⟨w.heap.size, 5, none⟩ = some (.slice ai m.ni ci) ∧ w'.cell? ⟨yb, 0, none⟩ = some (.slice aJ fs.nw cJ) ∧ w'.cell? ⟨yb, 1, none⟩ = some (.int .i64 fs.sent) ∧ w'.cell? ⟨yb, 2, none⟩ = some (.int .i64 fs.dice))) (by kernel_rfl) ?_ (fun hHeld => ?_)
        · exact KS.out _ BZ.out
        change wpAnyH _ _ _ _ _ _ _ _ (World.drew w6)
        generalize w6.drew = u0 at *
        refine wpAnyH_ready (rs := [0]) (by kernel_rfl) (by simp) ?_
        refine AllReadyH.cons (o := ⟨_, _, _, _, _, _⟩) rfl (fun K hK => ?_) AllReadyH.nil
        go_simp
        go_at_call 10
        refine (HAW.out _).mono ?_
        rintro x w7 ⟨rfl, hb9⟩
        have BZ := Lib.hid (bthen BZ.out hb9)
        refine hK.out _ _ ?_ (fun hHeld => ?_)
        · exact KS.out _ BZ.out
        clear hK K
        try simp only [Act.put, List.setIfInBounds_toArray, List.set_cons_zero, List.set_cons_succ]
        clear hb9
        first
          | refine tk0 1 (oi := ⟨_, _, _, _, _, _⟩) rfl ?_
          | refine tk1 1 (oi := ⟨_, _, _, _, _, _⟩) (v := ?_) rfl ?_ ?_; rotate_left; · (intro w5 hSw; (try dsimp only at hSw); go_simp; (try with_reducible rfl))
        try simp only [Act.put, List.setIfInBounds_toArray, List.set_cons_zero, List.set_cons_succ]
        first
          | refine tk0 2 (oi := ⟨_, _, _, _, _, _⟩) rfl ?_
          | refine tk1 2 (oi := ⟨_, _, _, _, _, _⟩) (v := ?_) rfl ?_ ?_; rotate_left; · (intro w5 hSw; (try dsimp only at hSw); go_simp; (try with_reducible rfl))
        try simp only [Act.put, List.setIfInBounds_toArray, List.set_cons_zero, List.set_cons_succ]
        first
          | refine tk0 3 (oi := ⟨_, _, _, _, _, _⟩) rfl ?_
          | refine tk1 3 (oi := ⟨_, _, _, _, _, _⟩) (v := ?_) rfl ?_ ?_; rotate_left; · (intro w5 hSw; (try dsimp only at hSw); go_simp; (try with_reducible rfl))
        try simp only [Act.put, List.setIfInBounds_toArray, List.set_cons_zero, List.set_cons_succ]
        first
          | refine tk0 4 (oi := ⟨_, _, _, _, _, _⟩) rfl ?_
          | refine tk1 4 (oi := ⟨_, _, _, _, _, _⟩) (v := ?_) rfl ?_ ?_; rotate_left; · (intro w5 hSw; (try dsimp only at hSw); go_simp; (try with_reducible rfl))
        try simp only [Act.put, List.setIfInBounds_toArray, List.set_cons_zero, List.set_cons_succ]
        first
          | refine tk0 5 (oi := ⟨_, _, _, _, _, _⟩) rfl ?_
          | refine tk1 5 (oi := ⟨_, _, _, _, _, _⟩) (v := ?_) rfl ?_ ?_; rotate_left; · (intro w5 hSw; (try dsimp only at hSw); go_simp; (try with_reducible rfl))
        try simp only [Act.put, List.setIfInBounds_toArray, List.set_cons_zero, List.set_cons_succ]
        first
          | refine tk0 6 (oi := ⟨_, _, _, _, _, _⟩) rfl ?_
          | refine tk1 6 (oi := ⟨_, _, _, _, _, _⟩) (v := ?_) rfl ?_ ?_; rotate_left; · (intro w5 hSw; (try dsimp only at hSw); go_simp; (try with_reducible rfl))
        try simp only [Act.put, List.setIfInBounds_toArray, List.set_cons_zero, List.set_cons_succ]
        first
          | refine tk0 7 (oi := ⟨_, _, _, _, _, _⟩) rfl ?_
          | refine tk1 7 (oi := ⟨_, _, _, _, _, _⟩) (v := ?_) rfl ?_ ?_; rotate_left; · (intro w5 hSw; (try dsimp only at hSw); go_simp; (try with_reducible rfl))
        try simp only [Act.put, List.setIfInBounds_toArray, List.set_cons_zero, List.set_cons_succ]
        first
          | refine tk0 8 (oi := ⟨_, _, _, _, _, _⟩) rfl ?_
          | refine tk1 8 (oi := ⟨_, _, _, _, _, _⟩) (v := ?_) rfl ?_ ?_; rotate_left; · (intro w5 hSw; (try dsimp only at hSw); go_simp; (try with_reducible rfl))
        try simp only [Act.put, List.setIfInBounds_toArray, List.set_cons_zero, List.set_cons_succ]
        first
          | refine tk0 9 (oi := ⟨_, _, _, _, _, _⟩) rfl ?_
          | refine tk1 9 (oi := ⟨_, _, _, _, _, _⟩) (v := ?_) rfl ?_ ?_; rotate_left; · (intro w5 hSw; (try dsimp only at hSw); go_simp; (try with_reducible rfl))
        try simp only [Act.put, List.setIfInBounds_toArray, List.set_cons_zero, List.set_cons_succ]
        first
          | refine tk0 10 (oi := ⟨_, _, _, _, _, _⟩) rfl ?_
          | refine tk1 10 (oi := ⟨_, _, _, _, _, _⟩) (v := ?_) rfl ?_ ?_; rotate_left; · (intro w5 hSw; (try dsimp only at hSw); go_simp; (try with_reducible rfl))
        try simp only [Act.put, List.setIfInBounds_toArray, List.set_cons_zero, List.set_cons_succ]
        first
          | refine tk0 11 (oi := ⟨_, _, _, _, _, _⟩) rfl ?_
          | refine tk1 11 (oi := ⟨_, _, _, _, _, _⟩) (v := ?_) rfl ?_ ?_; rotate_left; · (intro w5 hSw; (try dsimp only at hSw); go_simp; (try with_reducible rfl))
        try simp only [Act.put, List.setIfInBounds_toArray, List.set_cons_zero, List.set_cons_succ]
        refine wpAnyH_ready (rs := [12]) (by kernel_rfl) (by simp) ?_
        refine AllReadyH.cons (o := ⟨_, _, _, _, _, _⟩) rfl (fun K hK => ?_) AllReadyH.nil
        go_simp
        go_at_call 16
        refine (HRB2.out _ (bthen B5.out BZ.out)).mono ?_
        rintro x w8 ⟨vr, rfl, hr, hb9⟩
        have BZ := Lib.hid (bthen BZ.out hb9)
        have ER := Lib.hid hr.sl
        refine hK.out _ _ ?_ (fun hHeld => ?_)
        · exact KS.out _ BZ.out
        clear hK K
        try simp only [Act.put, List.setIfInBounds_toArray, List.set_cons_zero, List.set_cons_succ]
        clear hb9
        clear hr
        refine wpAnyH_ready (rs := [13]) (by kernel_rfl) (by simp) ?_
        refine AllReadyH.cons (o := ⟨_, _, _, _, _, _⟩) rfl (fun K hK => ?_) AllReadyH.nil
        go_simp
        go_at_call 15
        refine (HSE.out _ _ _ _ (E5.out.below BZ.out) ER.out).mono ?_
        rintro x w9 ⟨rfl, hb9⟩
        have BZ := Lib.hid (bthen BZ.out hb9)
        refine hK.out _ _ ?_ (fun hHeld => ?_)
        · exact KS.out _ BZ.out
        clear hK K
        try simp only [Act.put, List.setIfInBounds_toArray, List.set_cons_zero, List.set_cons_succ]
        clear hb9
        first
          | refine tk0 14 (oi := ⟨_, _, _, _, _, _⟩) rfl ?_
          | refine tk1 14 (oi := ⟨_, _, _, _, _, _⟩) (v := ?_) rfl ?_ ?_; rotate_left; · (intro w5 hSw; (try dsimp only at hSw); go_simp; (try with_reducible rfl))
        try simp only [Act.put, List.setIfInBounds_toArray, List.set_cons_zero, List.set_cons_succ]
        first
          | refine tk0 15 (oi := ⟨_, _, _, _, _, _⟩) rfl ?_
          | refine tk1 15 (oi := ⟨_, _, _, _, _, _⟩) (v := ?_) rfl ?_ ?_; rotate_left; · (intro w5 hSw; (try dsimp only at hSw); go_simp; (try with_reducible rfl))
        try simp only [Act.put, List.setIfInBounds_toArray, List.set_cons_zero, List.set_cons_succ]
        first
          | refine tk0 16 (oi := ⟨_, _, _, _, _, _⟩) rfl ?_
          | refine tk1 16 (oi := ⟨_, _, _, _, _, _⟩) (v := ?_) rfl ?_ ?_; rotate_left; · (intro w5 hSw; (try dsimp only at hSw); go_simp; (try with_reducible rfl))
        try simp only [Act.put, List.setIfInBounds_toArray, List.set_cons_zero, List.set_cons_succ]
        first
          | refine tk0 17 (oi := ⟨_, _, _, _, _, _⟩) rfl ?_
          | refine tk1 17 (oi := ⟨_, _, _, _, _, _⟩) (v := ?_) rfl ?_ ?_; rotate_left; · (intro w5 hSw; (try dsimp only at hSw); go_simp; (try with_reducible rfl))
        try simp only [Act.put, List.setIfInBounds_toArray, List.set_cons_zero, List.set_cons_succ]
        first
          | refine tk0 18 (oi := ⟨_, _, _, _, _, _⟩) rfl ?_
          | refine tk1 18 (oi := ⟨_, _, _, _, _, _⟩) (v := ?_) rfl ?_ ?_; rotate_left; · (intro w5 hSw; (try dsimp only at hSw); go_simp; (try with_reducible rfl))
        try simp only [Act.put, List.setIfInBounds_toArray, List.set_cons_zero, List.set_cons_succ]
        refine wpAnyH_ready (rs := [19]) (by kernel_rfl) (by simp) ?_
        refine AllReadyH.cons (o := ⟨_, _, _, _, _, _⟩) rfl (fun K hK => ?_) AllReadyH.nil
        go_simp
        go_at_call 18
        refine (HRF2.out _ (bthen B5.out BZ.out)).mono ?_
        rintro x w10 ⟨vr2, rfl, hr, hb9⟩
        have BZ := Lib.hid (bthen BZ.out hb9)
        obtain ⟨vK, rfl, hr⟩ := hr
        have SR := Lib.hid (own_sl hr)
        unfold sval
        refine hK.out _ _ ?_ (fun hHeld => ?_)
        · exact KS.out _ BZ.out
        clear hK K
        try simp only [Act.put, List.setIfInBounds_toArray, List.set_cons_zero, List.set_cons_succ]
        clear hb9
        clear hr
        refine wpAnyH_ready (rs := [20]) (by kernel_rfl) (by simp) ?_
        refine AllReadyH.cons (o := ⟨_, _, _, _, _, _⟩) rfl (fun K hK => ?_) AllReadyH.nil
        go_simp
        go_at_call 17
        refine (HSM.out fs _ _ _ (S5.out.below BZ.out) SR.out).mono ?_
        rintro x w11 ⟨rfl, hb9⟩
        have BZ := Lib.hid (bthen BZ.out hb9)
        refine hK.out _ _ ?_ (fun hHeld => ?_)
        · exact KS.out _ BZ.out
        clear hK K
        try simp only [Act.put, List.setIfInBounds_toArray, List.set_cons_zero, List.set_cons_succ]
        clear hb9
        first
          | refine tk0 21 (oi := ⟨_, _, _, _, _, _⟩) rfl ?_
          | refine tk1 21 (oi := ⟨_, _, _, _, _, _⟩) (v := ?_) rfl ?_ ?_; rotate_left; · (intro w5 hSw; (try dsimp only at hSw); go_simp; (try with_reducible rfl))
        try simp only [Act.put, List.setIfInBounds_toArray, List.set_cons_zero, List.set_cons_succ]
        first
          | refine tk0 22 (oi := ⟨_, _, _, _, _, _⟩) rfl ?_
          | refine tk1 22 (oi := ⟨_, _, _, _, _, _⟩) (v := ?_) rfl ?_ ?_; rotate_left; · (intro w5 hSw; (try dsimp only at hSw); go_simp; (try with_reducible rfl))
        try simp only [Act.put, List.setIfInBounds_toArray, List.set_cons_zero, List.set_cons_succ]
        refine wpAnyH_done (by kernel_rfl) ?_ _
        go_wp2_with fail
        go_ret
        exact ⟨rfl, bthen B5.out BZ.out⟩
    · have h15 : chkN m = 15 := hc.resolve_left h0
      have eb : beginA m = (evs0, 15) := if_pos h0
      have ef : firstA m lp = (sta0, 15) := if_pos h0
      have HS0 : Hid (∀ u, Sl 1 (gW sta0.w) 0 (.slice aJ 0 cJ) u → Calls Try.prog 14 #[.agg #[.slice aJ 0 cJ, .int .i64 0, .int .i64 0], .agg #[.slice none 0 0, .int .i64 0, .int .i64 0]] u fun x w' => x = .returned (.bool true) ∧ Below u.heap.size u w') := fun u h1 => by
        have := HSA.out sta0 sta0 _ _ u h1 (sl_none8 1 _ _)
        rw [sameW_refl, decide_eq_true rfl, decide_eq_true rfl] at this
        exact this
      rw [eb] at E5 ⊢
      rw [ef] at Y5 S5 ⊢
      dsimp only [evs0, sta0] at E5 Y5 S5 ⊢
      obtain ⟨ae, ce, e9, _⟩ := id E5.out
      subst e9
      rw [h15] at HK
      clear h0 h15 hc eb ef HRB HRF HSA
      go_wp2_with (first
        | (go_at_call 13; refine (HK.out _ B5.out).mono ?_; rintro x w6 ⟨rfl, hb6⟩; have BZ := Lib.hid (bthen BZ.out hb6); clear hb6)
        | (go_at_call 10; refine (HAW.out _).mono ?_; rintro x w9 ⟨rfl, hb9⟩; have BZ := Lib.hid (bthen BZ.out hb9); clear hb9; obtain ⟨y0, y1, y2⟩ := three_cells8 ((BZ.out.block _ (lt_of_block Y5.out)).trans Y5.out))
        | (go_at_call 14; refine (HS0.out _ (S5.out.below BZ.out)).mono ?_; rintro x w10 ⟨rfl, hb10⟩; have BZ := Lib.hid (bthen BZ.out hb10); clear hb10))
      go_ret
      exact ⟨rfl, bthen B5.out BZ.out⟩

end Go.Proofs.Ytplhkplfbcmbdaa
