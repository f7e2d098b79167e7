/- PlainRuns, walked. -/
import Derived.Test.YthkfaeplmmlnlaaGreatRZ35
import Derived.Test.YthkfaeplmmlnlaaGreatRZ36
namespace Go.Proofs.YthkfaeplmmlnlaaGreat
open Go.RowKit Go.Deep Go.Maps
set_option linter.unusedVariables false
set_option maxRecDepth 100000

theorem u8_bdR {n : Int} (h : (Lit.int .u8 n).wf = true) : 0 ≤ n ∧ n < 256 := by
  simp [Lit.wf] at h
  have e1 : IntKind.u8.min = 0 := rfl
  have e2 : IntKind.u8.max = 255 := rfl
  omega
theorem below_hdS {S : Nat → Bool} {B : Nat} {w u : World} (h : Below B w u) (hS : ∀ k, k < B → S k = false) : Below B w (HdS S u) :=
  ⟨h.os, h.tape, h.output, by rw [HdS.size]; exact h.size, fun k hk => by rw [HdS.other _ (hS k hk)]; exact h.block k hk⟩
theorem PAt.state_out {S : Nat → Bool} {P bm bc bs : Nat} {m : Mdl} {vd vp vl vi vS : Value} {x : Sm} {k nd : Nat} {u : World} (h : PAt S P bm bc bs m vd vp vl vi vS x k nd u) (lp : Int) (hl : lp < 0 ∨ (m.nl : Int) ≤ lp) :
    Calls Tryz.prog 16 #[.pointer (some ⟨P, 0, none⟩), .int .i64 lp] u fun r u' => r = .returned (.agg #[.slice none 0 0, .int .i64 0, .int .i64 0]) ∧ Below u.heap.size u u' := by
  obtain ⟨i, ⟨nx, hx, s⟩, l⟩ := h
  exact pstate_out S P bm bc bs m vd vp vl vi vS x nx nd lp u s hl

set_option maxHeartbeats 12800000 in
theorem plRuns_core (m : Mdl) (vd vp vl vi : Value) (n : Int) (w : World) (hm : MdlAt m vd vp vl vi w) (hr : MdlR m) (h0 : 0 ≤ n) (h1 : n < 256) : Calls Tryz.prog 3 #[mval m vd vp vl vi, .int .u8 n] w fun e w' => e = .returned (.bool true) ∧ Below w.heap.size w w' := by
  have hsf := store_float
  have HA := Lib.hid awake9_any
  have HL : Hid (∀ u, Below w.heap.size w u → Calls Tryz.prog 5 #[.agg #[.int .i64 m.seed, .float .f64 m.fin, vd, vp, vl, vi]] u fun e w' => ∃ b, e = .returned (.bool b) ∧ Below u.heap.size u w') := fun u k => light8_any m vd vp vl vi u (hm.below k)
  have HK : Hid (∀ u, Below w.heap.size w u → Calls Tryz.prog 8 #[.agg #[.int .i64 m.seed, .float .f64 m.fin, vd, vp, vl, vi]] u fun e w' => e = .returned (.int .i64 (chkN m)) ∧ Below u.heap.size u w') := fun u k => refCheck_any m vd vp vl vi u (hm.below k)
  have HSZ : Hid (∀ u, Calls Tryz.prog 15 #[.agg #[.slice none 0 0, .int .i64 0, .int .i64 0], .agg #[.slice none 0 0, .int .i64 0, .int .i64 0]] u fun e w' => e = .returned (.bool true) ∧ Below u.heap.size u w') := fun u => by
    have := refSame8_any sta0 sta0 (.slice none 0 0) (.slice none 0 0) u (sl_none8 _ _ _) (sl_none8 _ _ _)
    rw [sameW_refl, decide_eq_true rfl, decide_eq_true rfl] at this
    exact this
  have X1 := Lib.hid (heap_alloc_new w (.cells #[.int .i64 m.seed, .float .f64 m.fin, vd, vp, vl, vi] 28))
  have B1 := Lib.hid (balloc w (.cells #[.int .i64 m.seed, .float .f64 m.fin, vd, vp, vl, vi] 28))
  have HM := Lib.hid hm
  have HR := Lib.hid hr
  unfold mval
  clear hm hr
  go_enter Tryz.func3, Tryz.ntmps3
  go_upto_region 1 with fail
  generalize w.alloc (.cells #[.int .i64 m.seed, .float .f64 m.fin, vd, vp, vl, vi] 28) = w1 at *
  obtain ⟨m0, m1, m2, m3, m4, m5⟩ := six_cells7 X1.out
  by_cases hc : chkN m = 0
  · have HC := Lib.hid hc
    rw [hc] at HK
    have HN : Hid (∀ u, Below w.heap.size w u → Calls Tryz.prog 7 #[.agg #[.int .i64 m.seed, .float .f64 m.fin, vd, vp, vl, vi]] u fun z w' => ∃ P bm bc bs xd xp xl xi vS, z = .returned (.tuple #[.pointer (some ⟨P, 0, none⟩), .int .i64 0]) ∧ (u.heap.size ≤ P ∧ u.heap.size ≤ bm ∧ u.heap.size ≤ bs) ∧ PAt (nwS (fun _ => false) P bm bs) P bm bc bs m xd xp xl xi vS (newP m) 0 0 w' ∧ Below u.heap.size u w') := fun u k => pnew_any m vd vp vl vi u (HM.out.below k) hc HR.out (fun _ => false) (fun k hk => by cases hk)
    obtain ⟨c1, c2, c3, c4, _⟩ := chk_nl hc
    have HNL := Lib.hid c2
    have HN1 := Lib.hid (show 0 < m.nl by omega)
    have HRN : Hid (∀ (S0 : Nat → Bool) u, (∀ k, S0 k = true → k < u.heap.size) → MdlAt m vd vp vl vi (HdS S0 u) → Calls Tryz.prog 9 #[.agg #[.int .i64 m.seed, .float .f64 m.fin, vd, vp, vl, vi]] u fun r w' => ∃ Q vS vW, r = .returned (.pointer (some ⟨Q, 0, none⟩)) ∧ u.heap.size ≤ Q ∧ RSim (fun q => S0 q || q == Q) Q m vd vp vl vi (newP m) 0 (fun _ => ⟨zE, 0⟩) vS vW (.slice none 0 0) w' ∧ Below u.heap.size u w') := fun S0 u k1 k2 => rnew_any m vd vp vl vi (fun _ => ⟨zE, 0⟩) u S0 k1 k2 (by omega) c3 (fun k hk => by have := c4 k hk; omega)
    clear hc c1 c2 c3 c4
    go_wp2_with (first
      | (go_at_call 5; refine (HL.out _ B1.out).mono ?_; rintro z w2 ⟨b, rfl, hb2⟩; have B2 := Lib.hid (bthen B1.out hb2); have X2 := Lib.hid ((hb2.block _ (lt_of_block X1.out)).trans X1.out); clear hb2 m0 m1 m2 m3 m4 m5; obtain ⟨m0, m1, m2, m3, m4, m5⟩ := six_cells7 X2.out; cases b)
      | (go_at_call 6; refine (HA.out _).mono ?_; rintro z w9 ⟨rfl, hb9⟩; have B9 := Lib.hid (bthen B2.out hb9); clear hb9)
      | fail)
    · go_ret
      exact ⟨rfl, B9.out⟩
    refine (HN.out _ B2.out).mono ?_
    rintro z w3 ⟨P, bm, bc, bs, xd, xp, xl, xi, xS, rfl, hlo, hp, hb3⟩
    have A3 := Lib.hid hp
    have LO := Lib.hid (show w.heap.size < P ∧ w.heap.size < bm ∧ w.heap.size < bs by have := lt_of_block X2.out; omega)
    have B3 := Lib.hid (bthen B2.out hb3)
    have X3 := Lib.hid ((hb3.block _ (lt_of_block X2.out)).trans X2.out)
    clear hp hlo hb3 m0 m1 m2 m3 m4 m5
    obtain ⟨m0, m1, m2, m3, m4, m5⟩ := six_cells7 X3.out
    go_wp2_with fail
    refine (HK.out _ B3.out).mono ?_
    rintro z w3b ⟨rfl, hb3b⟩
    have B4 := Lib.hid (bthen B3.out hb3b)
    have A4 := Lib.hid (A3.out.below hb3b)
    have X4 := Lib.hid ((hb3b.block _ (lt_of_block X3.out)).trans X3.out)
    clear hb3b m0 m1 m2 m3 m4 m5
    obtain ⟨m0, m1, m2, m3, m4, m5⟩ := six_cells7 X4.out
    have NOS : Hid (∀ k, k ≤ w.heap.size → nwS (fun _ => false) P bm bs k = false) := fun k hk => by
      have := LO.out
      have e1 : k ≠ P := by omega
      have e2 : k ≠ bm := by omega
      have e3 : k ≠ bs := by omega
      simp [nwS, e1, e2, e3]
    go_wp2_with fail
    refine (HRN.out (nwS (fun _ => false) P bm bs) _ A4.out.lo (HM.out.below (below_hdS B4.out (fun k hk => NOS.out k (Nat.le_of_lt hk))))).mono ?_
    rintro z w5 ⟨Q, vS0, vW0, rfl, hQ, hrs, hb5⟩
    have R5 := Lib.hid hrs
    have B5 := Lib.hid (bthen B4.out hb5)
    have LTA := Lib.hid A4.out.lt
    have LTQ := Lib.hid (show P < Q ∧ bm < Q ∧ bs < Q ∧ bc < Q ∧ w.heap.size < Q by have := LTA.out; have := LO.out; have := B4.out.size; omega)
    have A5 : Hid (PAt (fun q => nwS (fun _ => false) P bm bs q || q == Q) P bm bc bs m xd xp xl xi xS (newP m) 0 0 w5) := A4.out.more hb5 (fun k hk => by
      have e1 : k ≠ Q := by omega
      show (nwS (fun _ => false) P bm bs k || k == Q) = nwS (fun _ => false) P bm bs k
      rw [beq_eq_false_iff_ne.2 e1, Bool.or_false]) R5.out.lo
    generalize (fun q => nwS (fun _ => false) P bm bs q || q == Q) = S at *
    clear hQ hrs hb5 m0 m1 m2 m3 m4 m5
    have hN0 : 0 ≤ n % 60 := by omega
    have hN1 : n % 60 ≤ 59 := by omega
    go_wp2_with (go_at_call 6; refine (HA.out _).mono ?_; rintro z w6 ⟨rfl, hb6⟩; have B6 := Lib.hid (bthen B5.out hb6); have A6 := Lib.hid (A5.out.below hb6); have R6 := Lib.hid (R5.out.below hb6); clear hb6)
    clear A3 A4 A5 R5 B1 B2 B3 B4 B5 X1 X2 X3 X4 HN HRN HK HL NOS
    go_loopw [8] (fun i wr => ∃ (q0 : Nat) (y : Sm) (k nd : Nat) (D : Nat → Dn) (vS vW vD : Value), i = .int .i64 q0 ∧ q0 ≤ 60 ∧ k ≤ q0 ∧ nd ≤ q0 ∧ PAt S P bm bc bs m xd xp xl xi xS y k nd wr ∧ RSim S Q m vd vp vl vi y nd D (vS) (vW) (vD) wr ∧ Below w.heap.size w wr) (fun i _ => 61 - (intOf i).toNat)
    case atStart => exact ⟨0, newP m, 0, 0, _, _, _, _, rfl, Nat.zero_le _, Nat.le_refl _, Nat.le_refl _, A6.out, R6.out, B6.out⟩
    case round =>
      obtain ⟨q0, x, k, nd, D, vS, vW, vD, rfl, hq, hk, hnd, ha, hrr, hb⟩ := hrel
      have AR := Lib.hid ha
      have RR := Lib.hid hrr
      have BL := Lib.hid hb
      clear ha hrr hb
      by_cases hlt : (q0 : Int) < n % 60
      · have d1 : decide ((q0 : Int) < n % 60) = true := by simp [hlt]
        have HQ := Lib.hid hlt
        have HKK := Lib.hid hk
        have HDD := Lib.hid hnd
        obtain ⟨q, bb, y, k2, nd2, D2, j1, j2, C1, C2⟩ := duo (Q := Q) (vd := vd) (vp := vp) (vl := vl) (vi := vi) (D := D) (vS := vS) (vW := vW) (vD := vD) HC.out HR.out (by omega) (by omega) AR.out
        have HC1 := Lib.hid C1
        have HC2 := Lib.hid C2
        have HJ1 := Lib.hid j1
        have HJ2 := Lib.hid j2
        clear hlt C1 C2 hk hnd j1 j2
        go_wp2_with fail
        refine HC1.out.mono ?_
        rintro z u2 ⟨rfl, ha2, hk2⟩
        have A2 := Lib.hid ha2
        have K2 := Lib.hid hk2
        have TQ : Hid (T3 P bm bs Q = false) := Lib.hid (T3.no (by have := LTQ.out; omega) (by have := LTQ.out; omega) (by have := LTQ.out; omega))
        have R2 := Lib.hid (RR.out.kept K2.out A2.out.subT TQ.out)
        have B2 := Lib.hid (BL.out.trans (K2.out.bot BL.out.size (fun p hp => T3.no (by have := LO.out; omega) (by have := LO.out; omega) (by have := LO.out; omega))))
        clear ha2 hk2
        have X3 := Lib.hid (heap_alloc_new u2 (.cells #[.float .f64 (q).e.t, .int .i64 (q).e.src, .int .i64 (q).e.n, .int .i64 (q).e.dst, .int .i64 (q).e.pay, .int .i64 (q).f] 43))
        have B3 := Lib.hid (balloc u2 (.cells #[.float .f64 (q).e.t, .int .i64 (q).e.src, .int .i64 (q).e.n, .int .i64 (q).e.dst, .int .i64 (q).e.pay, .int .i64 (q).f] 43))
        have R3 := Lib.hid (R2.out.below B3.out)
        have A3 := Lib.hid (A2.out.below B3.out)
        go_wp2_with fail
        refine (HC2.out _ R3.out).mono ?_
        rintro z u4 ⟨rfl, ⟨vS2, vW2, vD2, hr4⟩, hk4⟩
        have R4 := Lib.hid hr4
        have K4 := Lib.hid hk4
        have QLT := Lib.hid (show Q < u2.heap.size from R2.out.lt)
        have X4 := Lib.hid ((K4.out.blk (lt_of_block X3.out) (by have := QLT.out; omega)).trans X3.out)
        have A4 := Lib.hid (A3.out.kept K4.out.one (fun p hp => by simp only [beq_iff_eq] at hp; rw [hp]; exact R4.out.hP) (by have := LTQ.out; simp; omega) (by have := LTQ.out; simp; omega) (by have := LTQ.out; simp; omega))
        have BW4 : Hid (Below w.heap.size w u4) := (B2.out.trans (B3.out.mono B2.out.size)).trans (K4.out.bot (Nat.le_trans B2.out.size B3.out.size) (by have := LTQ.out; omega))
        obtain ⟨aW, cW, rfl, _, _, _⟩ := id R4.out.wt
        obtain ⟨aD, cD, rfl, _, _, _⟩ := id R4.out.dn
        obtain ⟨la, hla⟩ : ∃ la, la = y.W.length := ⟨_, rfl⟩
        have HLA := Lib.hid hla
        clear hr4 hk4 hla
        have X5 := Lib.hid (heap_alloc_new u4 (.cells #[.float .f64 (q).e.t, .int .i64 (q).e.src, .int .i64 (q).e.n, .int .i64 (q).e.dst, .int .i64 (q).e.pay, .int .i64 (q).f] 43))
        have B5 := Lib.hid (balloc u4 (.cells #[.float .f64 (q).e.t, .int .i64 (q).e.src, .int .i64 (q).e.n, .int .i64 (q).e.dst, .int .i64 (q).e.pay, .int .i64 (q).f] 43))
        have X45 := Lib.hid ((B5.out.block _ (lt_of_block X4.out)).trans X4.out)
        have A5 := Lib.hid (A4.out.below B5.out)
        have R5 := Lib.hid (R4.out.below B5.out)
        have BW5 := Lib.hid (bthen BW4.out B5.out)
        go_upto_region 14 with fail
        change Code.wp _ _ _ _ (u4.alloc (.cells #[.float .f64 (q).e.t, .int .i64 (q).e.src, .int .i64 (q).e.n, .int .i64 (q).e.dst, .int .i64 (q).e.pay, .int .i64 (q).f] 43))
        generalize u4.alloc (.cells #[.float .f64 (q).e.t, .int .i64 (q).e.src, .int .i64 (q).e.n, .int .i64 (q).e.dst, .int .i64 (q).e.pay, .int .i64 (q).f] 43) = u5 at *
        have hbb : (bb != bb) = false := by cases bb <;> rfl
        have hll : ((la : Int) != (la : Int)) = false := by simp
        have hnn : ((nd2 : Int) != (nd2 : Int)) = false := by simp
        have HWT : Hid (∀ w', Below u5.heap.size u5 w' → Calls Tryz.prog 13 #[.pointer (some ⟨P, 0, none⟩)] w' fun z w2 => z = .returned (.int .i64 (la : Int)) ∧ w2 = w') := fun w' kk => by
          have h9 := (A5.out.below kk).wait
          rw [← HLA.out] at h9
          exact h9
        have HHD : Hid (∀ w', Below u5.heap.size u5 w' → Calls Tryz.prog 14 #[.pointer (some ⟨P, 0, none⟩)] w' fun z w2 => z = .returned (.int .i64 (nd2 : Int)) ∧ w2 = w') := fun w' kk => (A5.out.below kk).handled
        have SS : Hid (∀ w', Below u5.heap.size u5 w' → (fun w' => w'.cell? ⟨u2.heap.size, 0, none⟩ = some (.float .f64 (q).e.t) ∧ w'.cell? ⟨u2.heap.size, 1, none⟩ = some (.int .i64 (q).e.src) ∧ w'.cell? ⟨u2.heap.size, 2, none⟩ = some (.int .i64 (q).e.n) ∧ w'.cell? ⟨u2.heap.size, 3, none⟩ = some (.int .i64 (q).e.dst) ∧ w'.cell? ⟨u2.heap.size, 4, none⟩ = some (.int .i64 (q).e.pay) ∧ w'.cell? ⟨u2.heap.size, 5, none⟩ = some (.int .i64 (q).f) ∧ w'.cell? ⟨u4.heap.size, 0, none⟩ = some (.float .f64 (q).e.t) ∧ w'.cell? ⟨u4.heap.size, 1, none⟩ = some (.int .i64 (q).e.src) ∧ w'.cell? ⟨u4.heap.size, 2, none⟩ = some (.int .i64 (q).e.n) ∧ w'.cell? ⟨u4.heap.size, 3, none⟩ = some (.int .i64 (q).e.dst) ∧ w'.cell? ⟨u4.heap.size, 4, none⟩ = some (.int .i64 (q).e.pay) ∧ w'.cell? ⟨u4.heap.size, 5, none⟩ = some (.int .i64 (q).f) ∧ w'.cell? ⟨Q, 7, none⟩ = some (.slice aW la cW) ∧ w'.cell? ⟨Q, 8, none⟩ = some (.slice aD nd2 cD)) w') := fun w' kk => by
          obtain ⟨p0, p1, p2, p3, p4, p5⟩ := six_cells7 ((kk.block _ (lt_of_block X45.out)).trans X45.out)
          obtain ⟨t0, t1, t2, t3, t4, t5⟩ := six_cells7 ((kk.block _ (lt_of_block X5.out)).trans X5.out)
          have h7 := (R5.out.below kk).cells.2.2.2.2.2.2.2.1
          have h8 := (R5.out.below kk).cells.2.2.2.2.2.2.2.2.1
          rw [← HLA.out] at h7
          exact ⟨p0, p1, p2, p3, p4, p5, t0, t1, t2, t3, t4, t5, h7, h8⟩
        have L6 := Lib.hid (bdrew u5)
        go_cut [95] (fun c wx => c = .bool false ∧ Below u5.heap.size u5 wx)
        case first =>
          refine wp_region_held_drew (S := (fun w' => w'.cell? ⟨u2.heap.size, 0, none⟩ = some (.float .f64 (q).e.t) ∧ w'.cell? ⟨u2.heap.size, 1, none⟩ = some (.int .i64 (q).e.src) ∧ w'.cell? ⟨u2.heap.size, 2, none⟩ = some (.int .i64 (q).e.n) ∧ w'.cell? ⟨u2.heap.size, 3, none⟩ = some (.int .i64 (q).e.dst) ∧ w'.cell? ⟨u2.heap.size, 4, none⟩ = some (.int .i64 (q).e.pay) ∧ w'.cell? ⟨u2.heap.size, 5, none⟩ = some (.int .i64 (q).f) ∧ w'.cell? ⟨u4.heap.size, 0, none⟩ = some (.float .f64 (q).e.t) ∧ w'.cell? ⟨u4.heap.size, 1, none⟩ = some (.int .i64 (q).e.src) ∧ w'.cell? ⟨u4.heap.size, 2, none⟩ = some (.int .i64 (q).e.n) ∧ w'.cell? ⟨u4.heap.size, 3, none⟩ = some (.int .i64 (q).e.dst) ∧ w'.cell? ⟨u4.heap.size, 4, none⟩ = some (.int .i64 (q).e.pay) ∧ w'.cell? ⟨u4.heap.size, 5, none⟩ = some (.int .i64 (q).f) ∧ w'.cell? ⟨Q, 7, none⟩ = some (.slice aW la cW) ∧ w'.cell? ⟨Q, 8, none⟩ = some (.slice aD nd2 cD))) (by kernel_rfl) ?_ (fun hHeld => ?_)
          · exact SS.out _ L6.out
          change wpAnyH _ _ _ _ _ _ _ _ (World.drew u5)
          generalize u5.drew = u6 at *
          first | refine tq0 0 rfl ?_ | refine tq1 0 rfl ?_
          try go_frame
          first | refine tq0 1 rfl ?_ | refine tq1 1 rfl ?_
          try go_frame
          first | refine tq0 2 rfl ?_ | refine tq1 2 rfl ?_
          try go_frame
          first | refine tq0 3 rfl ?_ | refine tq1 3 rfl ?_
          try go_frame
          first | refine tq0 4 rfl ?_ | refine tq1 4 rfl ?_
          try go_frame
          first | refine tq0 6 rfl ?_ | refine tq1 6 rfl ?_
          try go_frame
          refine wpAnyH_ready (rs := [5, 7]) (by kernel_rfl) (by simp) ?_
          refine AllReadyH.cons (o := ⟨_, _, _, _, _, _⟩) rfl (fun K hK => ?_) (AllReadyH.cons (o := ⟨_, _, _, _, _, _⟩) rfl (fun K hK => ?_) AllReadyH.nil)
          · have L11 := Lib.hid (L6.out.trans ((balloc u6 (.cells #[.float .f64 (q).e.t, .int .i64 (q).e.src, .int .i64 (q).e.n, .int .i64 (q).e.dst, .int .i64 (q).e.pay, .int .i64 (q).f] 43)).mono L6.out.size))
            have B5 : Hid ((u6.alloc (.cells #[.float .f64 (q).e.t, .int .i64 (q).e.src, .int .i64 (q).e.n, .int .i64 (q).e.dst, .int .i64 (q).e.pay, .int .i64 (q).f] 43)).ownsRow 0 43 6 (.slice (some ⟨u6.heap.size, 0, none⟩) 1 1) 1 (rowCells 6 (gD fun _ => q) 1)) := World.ownsRow_lit (base := 0) (e := 43) (size := 6) u6 #[.float .f64 (q).e.t, .int .i64 (q).e.src, .int .i64 (q).e.n, .int .i64 (q).e.dst, .int .i64 (q).e.pay, .int .i64 (q).f] 1 (Nat.zero_le _) (by decide) rfl
            go_simp
            refine hK.out _ _ ?_ (fun hHeld => ?_)
            · exact SS.out _ L11.out
            clear hK K
            try go_frame
            have hbk : Below u6.heap.size u6 (u6.alloc (.cells #[.float .f64 (q).e.t, .int .i64 (q).e.src, .int .i64 (q).e.n, .int .i64 (q).e.dst, .int .i64 (q).e.pay, .int .i64 (q).f] 43)) := balloc u6 (.cells #[.float .f64 (q).e.t, .int .i64 (q).e.src, .int .i64 (q).e.n, .int .i64 (q).e.dst, .int .i64 (q).e.pay, .int .i64 (q).f] 43)
            generalize u6.alloc (.cells #[.float .f64 (q).e.t, .int .i64 (q).e.src, .int .i64 (q).e.n, .int .i64 (q).e.dst, .int .i64 (q).e.pay, .int .i64 (q).f] 43) = w11 at *
            refine wpAnyH_ready (rs := [7]) (by kernel_rfl) (by simp) ?_
            refine AllReadyH.cons (o := ⟨_, _, _, _, _, _⟩) rfl (fun K hK => ?_) AllReadyH.nil
            have L12 := Lib.hid (L11.out.trans ((balloc w11 (.cells #[.float .f64 (q).e.t, .int .i64 (q).e.src, .int .i64 (q).e.n, .int .i64 (q).e.dst, .int .i64 (q).e.pay, .int .i64 (q).f] 43)).mono L11.out.size))
            have B7 : Hid ((w11.alloc (.cells #[.float .f64 (q).e.t, .int .i64 (q).e.src, .int .i64 (q).e.n, .int .i64 (q).e.dst, .int .i64 (q).e.pay, .int .i64 (q).f] 43)).ownsRow 0 43 6 (.slice (some ⟨w11.heap.size, 0, none⟩) 1 1) 1 (rowCells 6 (gD fun _ => q) 1)) := World.ownsRow_lit (base := 0) (e := 43) (size := 6) w11 #[.float .f64 (q).e.t, .int .i64 (q).e.src, .int .i64 (q).e.n, .int .i64 (q).e.dst, .int .i64 (q).e.pay, .int .i64 (q).f] 1 (Nat.zero_le _) (by decide) rfl
            go_simp
            refine hK.out _ _ ?_ (fun hHeld => ?_)
            · exact SS.out _ L12.out
            clear hK K
            try go_frame
            have hbk : Below w11.heap.size w11 (w11.alloc (.cells #[.float .f64 (q).e.t, .int .i64 (q).e.src, .int .i64 (q).e.n, .int .i64 (q).e.dst, .int .i64 (q).e.pay, .int .i64 (q).f] 43)) := balloc w11 (.cells #[.float .f64 (q).e.t, .int .i64 (q).e.src, .int .i64 (q).e.n, .int .i64 (q).e.dst, .int .i64 (q).e.pay, .int .i64 (q).f] 43)
            generalize w11.alloc (.cells #[.float .f64 (q).e.t, .int .i64 (q).e.src, .int .i64 (q).e.n, .int .i64 (q).e.dst, .int .i64 (q).e.pay, .int .i64 (q).f] 43) = w12 at *
            have B5n := Lib.hid (own_below B5.out hbk)
            refine wpAnyH_ready (rs := [8]) (by kernel_rfl) (by simp) ?_
            refine AllReadyH.cons (o := ⟨_, _, _, _, _, _⟩) rfl (fun K hK => ?_) AllReadyH.nil
            go_simp
            go_at_call 12
            refine (sameDn_refl (fun _ => q) 1 _ _ _ (own_sl B5n.out) (own_sl B7.out)).mono ?_
            rintro z w13 ⟨rfl, hb13⟩
            have L13 := Lib.hid (bthen L12.out hb13)
            clear hb13
            refine hK.out _ _ ?_ (fun hHeld => ?_)
            · exact SS.out _ L13.out
            clear hK K
            try go_frame
            first | refine tq0 9 rfl ?_ | refine tq1 9 rfl ?_
            try go_frame
            first | refine tq0 10 rfl ?_ | refine tq1 10 rfl ?_
            try go_frame
            first | refine tq0 11 rfl ?_ | refine tq1 11 rfl ?_
            try go_frame
            first | refine tq0 12 rfl ?_ | refine tq1 12 rfl ?_
            try go_frame
            first | refine tq0 14 rfl ?_ | refine tq1 14 rfl ?_
            try go_frame
            first | refine tq0 15 rfl ?_ | refine tq1 15 rfl ?_
            try go_frame
            first | refine tq0 16 rfl ?_ | refine tq1 16 rfl ?_
            try go_frame
            first | refine tq0 17 rfl ?_ | refine tq1 17 rfl ?_
            try go_frame
            first | refine tq0 18 rfl ?_ | refine tq1 18 rfl ?_
            try go_frame
            refine wpAnyH_ready (rs := [13]) (by kernel_rfl) (by simp) ?_
            refine AllReadyH.cons (o := ⟨_, _, _, _, _, _⟩) rfl (fun K hK => ?_) AllReadyH.nil
            go_simp
            go_at_call 13
            refine (HWT.out _ L13.out).mono ?_
            rintro z w14 ⟨rfl, hw14⟩
            rw [hw14]
            clear hw14 w14
            refine hK.out _ _ ?_ (fun hHeld => ?_)
            · exact SS.out _ L13.out
            clear hK K
            try go_frame
            first | refine tq0 19 rfl ?_ | refine tq1 19 rfl ?_
            try go_frame
            first | refine tq0 20 rfl ?_ | refine tq1 20 rfl ?_
            try go_frame
            first | refine tq0 21 rfl ?_ | refine tq1 21 rfl ?_
            try go_frame
            first | refine tq0 22 rfl ?_ | refine tq1 22 rfl ?_
            try go_frame
            first | refine tq0 24 rfl ?_ | refine tq1 24 rfl ?_
            try go_frame
            first | refine tq0 25 rfl ?_ | refine tq1 25 rfl ?_
            try go_frame
            first | refine tq0 26 rfl ?_ | refine tq1 26 rfl ?_
            try go_frame
            first | refine tq0 27 rfl ?_ | refine tq1 27 rfl ?_
            try go_frame
            first | refine tq0 28 rfl ?_ | refine tq1 28 rfl ?_
            try go_frame
            refine wpAnyH_ready (rs := [23]) (by kernel_rfl) (by simp) ?_
            refine AllReadyH.cons (o := ⟨_, _, _, _, _, _⟩) rfl (fun K hK => ?_) AllReadyH.nil
            go_simp
            go_at_call 14
            refine (HHD.out _ L13.out).mono ?_
            rintro z w14 ⟨rfl, hw14⟩
            rw [hw14]
            clear hw14 w14
            refine hK.out _ _ ?_ (fun hHeld => ?_)
            · exact SS.out _ L13.out
            clear hK K
            try go_frame
            first | refine tq0 29 rfl ?_ | refine tq1 29 rfl ?_
            try go_frame
            first | refine tq0 30 rfl ?_ | refine tq1 30 rfl ?_
            try go_frame
            refine wpAnyH_done (by kernel_rfl) ?_ _
            clear hHeld
            go_wp2_with fail
            go_meet
            exact ⟨rfl, L13.out⟩
          · have L11 := Lib.hid (L6.out.trans ((balloc u6 (.cells #[.float .f64 (q).e.t, .int .i64 (q).e.src, .int .i64 (q).e.n, .int .i64 (q).e.dst, .int .i64 (q).e.pay, .int .i64 (q).f] 43)).mono L6.out.size))
            have B7 : Hid ((u6.alloc (.cells #[.float .f64 (q).e.t, .int .i64 (q).e.src, .int .i64 (q).e.n, .int .i64 (q).e.dst, .int .i64 (q).e.pay, .int .i64 (q).f] 43)).ownsRow 0 43 6 (.slice (some ⟨u6.heap.size, 0, none⟩) 1 1) 1 (rowCells 6 (gD fun _ => q) 1)) := World.ownsRow_lit (base := 0) (e := 43) (size := 6) u6 #[.float .f64 (q).e.t, .int .i64 (q).e.src, .int .i64 (q).e.n, .int .i64 (q).e.dst, .int .i64 (q).e.pay, .int .i64 (q).f] 1 (Nat.zero_le _) (by decide) rfl
            go_simp
            refine hK.out _ _ ?_ (fun hHeld => ?_)
            · exact SS.out _ L11.out
            clear hK K
            try go_frame
            have hbk : Below u6.heap.size u6 (u6.alloc (.cells #[.float .f64 (q).e.t, .int .i64 (q).e.src, .int .i64 (q).e.n, .int .i64 (q).e.dst, .int .i64 (q).e.pay, .int .i64 (q).f] 43)) := balloc u6 (.cells #[.float .f64 (q).e.t, .int .i64 (q).e.src, .int .i64 (q).e.n, .int .i64 (q).e.dst, .int .i64 (q).e.pay, .int .i64 (q).f] 43)
            generalize u6.alloc (.cells #[.float .f64 (q).e.t, .int .i64 (q).e.src, .int .i64 (q).e.n, .int .i64 (q).e.dst, .int .i64 (q).e.pay, .int .i64 (q).f] 43) = w11 at *
            refine wpAnyH_ready (rs := [5]) (by kernel_rfl) (by simp) ?_
            refine AllReadyH.cons (o := ⟨_, _, _, _, _, _⟩) rfl (fun K hK => ?_) AllReadyH.nil
            have L12 := Lib.hid (L11.out.trans ((balloc w11 (.cells #[.float .f64 (q).e.t, .int .i64 (q).e.src, .int .i64 (q).e.n, .int .i64 (q).e.dst, .int .i64 (q).e.pay, .int .i64 (q).f] 43)).mono L11.out.size))
            have B5 : Hid ((w11.alloc (.cells #[.float .f64 (q).e.t, .int .i64 (q).e.src, .int .i64 (q).e.n, .int .i64 (q).e.dst, .int .i64 (q).e.pay, .int .i64 (q).f] 43)).ownsRow 0 43 6 (.slice (some ⟨w11.heap.size, 0, none⟩) 1 1) 1 (rowCells 6 (gD fun _ => q) 1)) := World.ownsRow_lit (base := 0) (e := 43) (size := 6) w11 #[.float .f64 (q).e.t, .int .i64 (q).e.src, .int .i64 (q).e.n, .int .i64 (q).e.dst, .int .i64 (q).e.pay, .int .i64 (q).f] 1 (Nat.zero_le _) (by decide) rfl
            go_simp
            refine hK.out _ _ ?_ (fun hHeld => ?_)
            · exact SS.out _ L12.out
            clear hK K
            try go_frame
            have hbk : Below w11.heap.size w11 (w11.alloc (.cells #[.float .f64 (q).e.t, .int .i64 (q).e.src, .int .i64 (q).e.n, .int .i64 (q).e.dst, .int .i64 (q).e.pay, .int .i64 (q).f] 43)) := balloc w11 (.cells #[.float .f64 (q).e.t, .int .i64 (q).e.src, .int .i64 (q).e.n, .int .i64 (q).e.dst, .int .i64 (q).e.pay, .int .i64 (q).f] 43)
            generalize w11.alloc (.cells #[.float .f64 (q).e.t, .int .i64 (q).e.src, .int .i64 (q).e.n, .int .i64 (q).e.dst, .int .i64 (q).e.pay, .int .i64 (q).f] 43) = w12 at *
            have B7n := Lib.hid (own_below B7.out hbk)
            refine wpAnyH_ready (rs := [8]) (by kernel_rfl) (by simp) ?_
            refine AllReadyH.cons (o := ⟨_, _, _, _, _, _⟩) rfl (fun K hK => ?_) AllReadyH.nil
            go_simp
            go_at_call 12
            refine (sameDn_refl (fun _ => q) 1 _ _ _ (own_sl B5.out) (own_sl B7n.out)).mono ?_
            rintro z w13 ⟨rfl, hb13⟩
            have L13 := Lib.hid (bthen L12.out hb13)
            clear hb13
            refine hK.out _ _ ?_ (fun hHeld => ?_)
            · exact SS.out _ L13.out
            clear hK K
            try go_frame
            first | refine tq0 9 rfl ?_ | refine tq1 9 rfl ?_
            try go_frame
            first | refine tq0 10 rfl ?_ | refine tq1 10 rfl ?_
            try go_frame
            first | refine tq0 11 rfl ?_ | refine tq1 11 rfl ?_
            try go_frame
            first | refine tq0 12 rfl ?_ | refine tq1 12 rfl ?_
            try go_frame
            first | refine tq0 14 rfl ?_ | refine tq1 14 rfl ?_
            try go_frame
            first | refine tq0 15 rfl ?_ | refine tq1 15 rfl ?_
            try go_frame
            first | refine tq0 16 rfl ?_ | refine tq1 16 rfl ?_
            try go_frame
            first | refine tq0 17 rfl ?_ | refine tq1 17 rfl ?_
            try go_frame
            first | refine tq0 18 rfl ?_ | refine tq1 18 rfl ?_
            try go_frame
            refine wpAnyH_ready (rs := [13]) (by kernel_rfl) (by simp) ?_
            refine AllReadyH.cons (o := ⟨_, _, _, _, _, _⟩) rfl (fun K hK => ?_) AllReadyH.nil
            go_simp
            go_at_call 13
            refine (HWT.out _ L13.out).mono ?_
            rintro z w14 ⟨rfl, hw14⟩
            rw [hw14]
            clear hw14 w14
            refine hK.out _ _ ?_ (fun hHeld => ?_)
            · exact SS.out _ L13.out
            clear hK K
            try go_frame
            first | refine tq0 19 rfl ?_ | refine tq1 19 rfl ?_
            try go_frame
            first | refine tq0 20 rfl ?_ | refine tq1 20 rfl ?_
            try go_frame
            first | refine tq0 21 rfl ?_ | refine tq1 21 rfl ?_
            try go_frame
            first | refine tq0 22 rfl ?_ | refine tq1 22 rfl ?_
            try go_frame
            first | refine tq0 24 rfl ?_ | refine tq1 24 rfl ?_
            try go_frame
            first | refine tq0 25 rfl ?_ | refine tq1 25 rfl ?_
            try go_frame
            first | refine tq0 26 rfl ?_ | refine tq1 26 rfl ?_
            try go_frame
            first | refine tq0 27 rfl ?_ | refine tq1 27 rfl ?_
            try go_frame
            first | refine tq0 28 rfl ?_ | refine tq1 28 rfl ?_
            try go_frame
            refine wpAnyH_ready (rs := [23]) (by kernel_rfl) (by simp) ?_
            refine AllReadyH.cons (o := ⟨_, _, _, _, _, _⟩) rfl (fun K hK => ?_) AllReadyH.nil
            go_simp
            go_at_call 14
            refine (HHD.out _ L13.out).mono ?_
            rintro z w14 ⟨rfl, hw14⟩
            rw [hw14]
            clear hw14 w14
            refine hK.out _ _ ?_ (fun hHeld => ?_)
            · exact SS.out _ L13.out
            clear hK K
            try go_frame
            first | refine tq0 29 rfl ?_ | refine tq1 29 rfl ?_
            try go_frame
            first | refine tq0 30 rfl ?_ | refine tq1 30 rfl ?_
            try go_frame
            refine wpAnyH_done (by kernel_rfl) ?_ _
            clear hHeld
            go_wp2_with fail
            go_meet
            exact ⟨rfl, L13.out⟩
        case rest =>
          obtain ⟨rfl, hL⟩ := hcut
          rename_i wc _
          have LX := Lib.hid hL
          clear hL SS HWT HHD L6 hbb hll hnn
          have A7 := Lib.hid (A5.out.below LX.out)
          have R7 := Lib.hid (R5.out.below LX.out)
          have BW7 := Lib.hid (bthen BW5.out LX.out)
          obtain ⟨gs, hsl, hwd⟩ := id R7.out.st
          obtain ⟨aS, cS, rfl, _, _, hs3⟩ := id hsl
          obtain ⟨bS, oS, rfl, _⟩ := hs3 HN1.out
          have SL7 := Lib.hid hsl.hds
          have WD7 : Hid (∀ j, j < m.nl → Sl 1 (gW (y.S j).w) (y.S j).nw (gs j) wc) := fun j hj => (hwd j hj).hds
          clear hsl hwd hs3
          go_wp2_with fail
          go_loopw [13] (fun i wz => ∃ i0 : Int, i = .int .i64 i0 ∧ -1 ≤ i0 ∧ i0 ≤ 7 ∧ Below wc.heap.size wc wz) (fun i _ => (7 - intOf i).toNat)
          case atStart => exact ⟨-1, rfl, by omega, by omega, Below.refl _ _⟩
          case round =>
            obtain ⟨i0, rfl, hi1, hi2, hbz⟩ := hrel
            have BZ := Lib.hid hbz
            clear hbz
            by_cases hi7 : i0 < 7
            · have d7 : decide (i0 < 7) = true := by simp [hi7]
              have XT := Lib.hid (heap_alloc_new wr (.cells #[.slice none 0 0, .int .i64 0, .int .i64 0] 55))
              have LY := Lib.hid (bthen BZ.out (balloc wr (.cells #[.slice none 0 0, .int .i64 0, .int .i64 0] 55)))
              by_cases hneg : i0 < 0
              · have d8 : decide (0 ≤ i0) = false := by simp; omega
                have HST : Hid (∀ w', Below wc.heap.size wc w' → Calls Tryz.prog 16 #[.pointer (some ⟨P, 0, none⟩), .int .i64 i0] w' fun r u' => r = .returned (.agg #[.slice none 0 0, .int .i64 0, .int .i64 0]) ∧ Below w'.heap.size w' u') := fun w' kk => (A7.out.below kk).state_out i0 (.inl hneg)
                go_upto_region 22 with fail
                generalize wr.alloc (.cells #[.slice none 0 0, .int .i64 0, .int .i64 0] 55) = wy at *
                have L22 := Lib.hid (bthen LY.out (bdrew wy))
                have X22 := Lib.hid (show (World.drew wy).heap[wr.heap.size]? = _ from XT.out)
                refine wp_region_held_drew (S := (fun w' => w'.cell? ⟨wr.heap.size, 0, none⟩ = some (.slice none 0 0) ∧ w'.cell? ⟨wr.heap.size, 1, none⟩ = some (.int .i64 0) ∧ w'.cell? ⟨wr.heap.size, 2, none⟩ = some (.int .i64 0))) (by kernel_rfl) ?_ (fun hHeld => ?_)
                · exact three_cells8 X22.out
                change wpAnyH _ _ _ _ _ _ _ _ (World.drew wy)
                generalize World.drew wy = w30 at *
                first | refine tq0 0 rfl ?_ | refine tq1 0 rfl ?_
                try go_frame
                first | refine tq0 1 rfl ?_ | refine tq1 1 rfl ?_
                try go_frame
                first | refine tq0 3 rfl ?_ | refine tq1 3 rfl ?_
                try go_frame
                refine wpAnyH_ready (rs := [2]) (by kernel_rfl) (by simp) ?_
                refine AllReadyH.cons (o := ⟨_, _, _, _, _, _⟩) rfl (fun K hK => ?_) AllReadyH.nil
                go_simp
                go_at_call 16
                refine (HST.out _ L22.out).mono ?_
                rintro z w31 ⟨rfl, hb31⟩
                have L31 := Lib.hid (bthen L22.out hb31)
                have X31 := Lib.hid ((hb31.block _ (lt_of_block X22.out)).trans X22.out)
                clear hb31
                refine hK.out _ _ ?_ (fun hHeld => ?_)
                · exact three_cells8 X31.out
                clear hK K
                try go_frame
                refine wpAnyH_ready (rs := [4]) (by kernel_rfl) (by simp) ?_
                refine AllReadyH.cons (o := ⟨_, _, _, _, _, _⟩) rfl (fun K hK => ?_) AllReadyH.nil
                go_simp
                go_at_call 15
                refine (HSZ.out _).mono ?_
                rintro z w32 ⟨rfl, hb32⟩
                have L32 := Lib.hid (bthen L31.out hb32)
                have X32 := Lib.hid ((hb32.block _ (lt_of_block X31.out)).trans X31.out)
                clear hb32
                refine hK.out _ _ ?_ (fun hHeld => ?_)
                · exact three_cells8 X32.out
                clear hK K
                try go_frame
                first | refine tq0 5 rfl ?_ | refine tq1 5 rfl ?_
                try go_frame
                refine wpAnyH_done (by kernel_rfl) ?_ _
                clear hHeld
                go_wp2_with fail
                go_roundw
                case rel => exact ⟨i0 + 1, by go_num, by omega, by omega, L32.out⟩
                case measure => simp [intOf]; omega
              · obtain ⟨j, rfl⟩ : ∃ j : Nat, i0 = (j : Int) := ⟨i0.toNat, by omega⟩
                have d8 : decide (0 ≤ (j : Int)) = true := by simp
                have hcw : (wr.alloc (.cells #[.slice none 0 0, .int .i64 0, .int .i64 0] 55)).cell? ⟨Q, 6, none⟩ = some (.slice (some ⟨bS, oS, none⟩) m.nl cS) := (R7.out.below LY.out).cells.2.2.2.2.2.2.1
                by_cases hjn : j < m.nl
                · have d9 : decide (j < m.nl) = true := by simp [hjn]
                  have hj0 : (0 : Int) ≤ (j : Int) := by omega
                  have hj1 : (j : Int) < (m.nl : Int) := by omega
                  obtain ⟨ag, cg, hge, _, _, _⟩ := id (WD7.out j hjn)
                  have WG := Lib.hid (WD7.out j hjn)
                  rw [hge] at WG
                  obtain ⟨a9, c9, e9, _, _, h3⟩ := (SL7.out).below LY.out
                  simp only [Value.slice.injEq, true_and] at e9
                  obtain ⟨rfl, rfl⟩ := e9
                  obtain ⟨b9, o9, e8, hA⟩ := h3 (by omega)
                  simp only [Option.some.injEq, Addr.mk.injEq, and_true] at e8
                  obtain ⟨rfl, rfl⟩ := e8
                  have r0 : (wr.alloc (.cells #[.slice none 0 0, .int .i64 0, .int .i64 0] 55)).cell? ⟨bS, oS + j * 3, none⟩ = some (.slice ag (y.S j).nw cg) := by have := hA.2 j hjn 0 (by omega); unfold gT at this; rw [hge] at this; exact this
                  have r1 : (wr.alloc (.cells #[.slice none 0 0, .int .i64 0, .int .i64 0] 55)).cell? ⟨bS, oS + j * 3 + 1, none⟩ = some (.int .i64 (y.S j).sent) := hA.2 j hjn 1 (by omega)
                  have r2 : (wr.alloc (.cells #[.slice none 0 0, .int .i64 0, .int .i64 0] 55)).cell? ⟨bS, oS + j * 3 + 2, none⟩ = some (.int .i64 (y.S j).dice) := hA.2 j hjn 2 (by omega)
                  have HST : Hid (∀ w', Below wc.heap.size wc w' → Calls Tryz.prog 16 #[.pointer (some ⟨P, 0, none⟩), .int .i64 (j : Int)] w' fun r u' => ∃ v, r = .returned v ∧ StaAt w'.heap.size (y.S j) v u' ∧ Below w'.heap.size w' u') := fun w' kk => (A7.out.below kk).state j hjn
                  have HSS : Hid (∀ v1 v2 u', Sl 1 (gW (y.S j).w) (y.S j).nw v1 u' → Sl 1 (gW (y.S j).w) (y.S j).nw v2 u' → Calls Tryz.prog 15 #[.agg #[v1, .int .i64 (y.S j).sent, .int .i64 (y.S j).dice], .agg #[v2, .int .i64 (y.S j).sent, .int .i64 (y.S j).dice]] u' fun e w' => e = .returned (.bool true) ∧ Below u'.heap.size u' w') := fun v1 v2 u' k1 k2 => by
                    have := refSame8_any (y.S j) (y.S j) v1 v2 u' k1 k2
                    rw [sameW_refl, decide_eq_true rfl, decide_eq_true rfl] at this
                    exact this
                  have zf : ∀ q9, (wr.alloc (.cells #[.slice none 0 0, .int .i64 0, .int .i64 0] 55)).frozen? ⟨wr.heap.size, q9, none⟩ = false := fun q9 => Lib.frozen_of_heap XT.out q9
                  obtain ⟨z0, z1, z2⟩ := three_cells8 XT.out
                  have XW := Lib.hid (heap_alloc_new wr (.cells #[.slice ag (y.S j).nw cg, .int .i64 (y.S j).sent, .int .i64 (y.S j).dice] 55))
                  have LW := Lib.hid (bthen BZ.out (balloc wr (.cells #[.slice ag (y.S j).nw cg, .int .i64 (y.S j).sent, .int .i64 (y.S j).dice] 55)))
                  clear h3 hA hge
                  go_upto_region 22 with fail
                  change Code.wp _ _ _ _ (wr.alloc (.cells #[.slice ag (y.S j).nw cg, .int .i64 (y.S j).sent, .int .i64 (y.S j).dice] 55))
                  clear z0 z1 z2 zf r0 r1 r2 hcw XT LY
                  have XT := XW
                  have LY := LW
                  clear XW LW
                  generalize wr.alloc (.cells #[.slice ag (y.S j).nw cg, .int .i64 (y.S j).sent, .int .i64 (y.S j).dice] 55) = wy at *
                  have L22 := Lib.hid (bthen LY.out (bdrew wy))
                  have X22 := Lib.hid (show (World.drew wy).heap[wr.heap.size]? = _ from XT.out)
                  refine wp_region_held_drew (S := (fun w' => w'.cell? ⟨wr.heap.size, 0, none⟩ = some (.slice ag (y.S j).nw cg) ∧ w'.cell? ⟨wr.heap.size, 1, none⟩ = some (.int .i64 (y.S j).sent) ∧ w'.cell? ⟨wr.heap.size, 2, none⟩ = some (.int .i64 (y.S j).dice))) (by kernel_rfl) ?_ (fun hHeld => ?_)
                  · exact three_cells8 X22.out
                  change wpAnyH _ _ _ _ _ _ _ _ (World.drew wy)
                  generalize World.drew wy = w30 at *
                  first | refine tq0 0 rfl ?_ | refine tq1 0 rfl ?_
                  try go_frame
                  first | refine tq0 1 rfl ?_ | refine tq1 1 rfl ?_
                  try go_frame
                  first | refine tq0 3 rfl ?_ | refine tq1 3 rfl ?_
                  try go_frame
                  refine wpAnyH_ready (rs := [2]) (by kernel_rfl) (by simp) ?_
                  refine AllReadyH.cons (o := ⟨_, _, _, _, _, _⟩) rfl (fun K hK => ?_) AllReadyH.nil
                  go_simp
                  go_at_call 16
                  refine (HST.out _ L22.out).mono ?_
                  rintro z w31 ⟨v, rfl, ⟨vI, rfl, hoI⟩, hb31⟩
                  obtain ⟨ax, cx, rfl, _⟩ := own_form hoI
                  unfold sval
                  have I31 := Lib.hid (own_sl hoI)
                  have L31 := Lib.hid (bthen L22.out hb31)
                  have X31 := Lib.hid ((hb31.block _ (lt_of_block X22.out)).trans X22.out)
                  clear hb31
                  refine hK.out _ _ ?_ (fun hHeld => ?_)
                  · exact three_cells8 X31.out
                  clear hK K
                  try go_frame
                  refine wpAnyH_ready (rs := [4]) (by kernel_rfl) (by simp) ?_
                  refine AllReadyH.cons (o := ⟨_, _, _, _, _, _⟩) rfl (fun K hK => ?_) AllReadyH.nil
                  go_simp
                  go_at_call 15
                  refine (HSS.out _ _ _ I31.out ((WG.out).below L31.out)).mono ?_
                  rintro z w32 ⟨rfl, hb32⟩
                  have L32 := Lib.hid (bthen L31.out hb32)
                  have X32 := Lib.hid ((hb32.block _ (lt_of_block X31.out)).trans X31.out)
                  clear hb32
                  refine hK.out _ _ ?_ (fun hHeld => ?_)
                  · exact three_cells8 X32.out
                  clear hK K
                  try go_frame
                  first | refine tq0 5 rfl ?_ | refine tq1 5 rfl ?_
                  try go_frame
                  refine wpAnyH_done (by kernel_rfl) ?_ _
                  clear hHeld
                  go_wp2_with fail
                  go_roundw
                  case rel => exact ⟨(j : Int) + 1, by go_num, by omega, by omega, L32.out⟩
                  case measure => simp [intOf]; omega
                · have d9 : decide (j < m.nl) = false := by simp [hjn]
                  have HST : Hid (∀ w', Below wc.heap.size wc w' → Calls Tryz.prog 16 #[.pointer (some ⟨P, 0, none⟩), .int .i64 (j : Int)] w' fun r u' => r = .returned (.agg #[.slice none 0 0, .int .i64 0, .int .i64 0]) ∧ Below w'.heap.size w' u') := fun w' kk => (A7.out.below kk).state_out (j : Int) (.inr (by omega))
                  go_upto_region 22 with fail
                  clear hcw
                  generalize wr.alloc (.cells #[.slice none 0 0, .int .i64 0, .int .i64 0] 55) = wy at *
                  have L22 := Lib.hid (bthen LY.out (bdrew wy))
                  have X22 := Lib.hid (show (World.drew wy).heap[wr.heap.size]? = _ from XT.out)
                  refine wp_region_held_drew (S := (fun w' => w'.cell? ⟨wr.heap.size, 0, none⟩ = some (.slice none 0 0) ∧ w'.cell? ⟨wr.heap.size, 1, none⟩ = some (.int .i64 0) ∧ w'.cell? ⟨wr.heap.size, 2, none⟩ = some (.int .i64 0))) (by kernel_rfl) ?_ (fun hHeld => ?_)
                  · exact three_cells8 X22.out
                  change wpAnyH _ _ _ _ _ _ _ _ (World.drew wy)
                  generalize World.drew wy = w30 at *
                  first | refine tq0 0 rfl ?_ | refine tq1 0 rfl ?_
                  try go_frame
                  first | refine tq0 1 rfl ?_ | refine tq1 1 rfl ?_
                  try go_frame
                  first | refine tq0 3 rfl ?_ | refine tq1 3 rfl ?_
                  try go_frame
                  refine wpAnyH_ready (rs := [2]) (by kernel_rfl) (by simp) ?_
                  refine AllReadyH.cons (o := ⟨_, _, _, _, _, _⟩) rfl (fun K hK => ?_) AllReadyH.nil
                  go_simp
                  go_at_call 16
                  refine (HST.out _ L22.out).mono ?_
                  rintro z w31 ⟨rfl, hb31⟩
                  have L31 := Lib.hid (bthen L22.out hb31)
                  have X31 := Lib.hid ((hb31.block _ (lt_of_block X22.out)).trans X22.out)
                  clear hb31
                  refine hK.out _ _ ?_ (fun hHeld => ?_)
                  · exact three_cells8 X31.out
                  clear hK K
                  try go_frame
                  refine wpAnyH_ready (rs := [4]) (by kernel_rfl) (by simp) ?_
                  refine AllReadyH.cons (o := ⟨_, _, _, _, _, _⟩) rfl (fun K hK => ?_) AllReadyH.nil
                  go_simp
                  go_at_call 15
                  refine (HSZ.out _).mono ?_
                  rintro z w32 ⟨rfl, hb32⟩
                  have L32 := Lib.hid (bthen L31.out hb32)
                  have X32 := Lib.hid ((hb32.block _ (lt_of_block X31.out)).trans X31.out)
                  clear hb32
                  refine hK.out _ _ ?_ (fun hHeld => ?_)
                  · exact three_cells8 X32.out
                  clear hK K
                  try go_frame
                  first | refine tq0 5 rfl ?_ | refine tq1 5 rfl ?_
                  try go_frame
                  refine wpAnyH_done (by kernel_rfl) ?_ _
                  clear hHeld
                  go_wp2_with fail
                  go_roundw
                  case rel => exact ⟨(j : Int) + 1, by go_num, by omega, by omega, L32.out⟩
                  case measure => simp [intOf]; omega
            · have d7 : decide (i0 < 7) = false := by simp; omega
              have AF := Lib.hid (A7.out.below BZ.out)
              have RF := Lib.hid (R7.out.below BZ.out)
              have BF := Lib.hid (bthen BW7.out BZ.out)
              go_wp2_with fail
              go_roundw
              case rel => exact ⟨q0 + 1, y, k2, nd2, D2, _, _, _, by go_num, by have := HQ.out; omega, by have := HJ1.out; have := HKK.out; omega, by have := HJ2.out; have := HDD.out; omega, AF.out, RF.out, BF.out⟩
              case measure => have := HQ.out; simp [intOf]; omega
      · have d1 : decide ((q0 : Int) < n % 60) = false := by simp [hlt]
        clear hlt
        go_wp2_with fail
        go_ret
        exact ⟨rfl, BL.out⟩
  · have h15 : chkN m = 15 := by unfold chkN at hc ⊢; split <;> simp_all
    have HN : Hid (∀ u, Below w.heap.size w u → Calls Tryz.prog 7 #[.agg #[.int .i64 m.seed, .float .f64 m.fin, vd, vp, vl, vi]] u fun z w' => z = .returned (.tuple #[.pointer none, .int .i64 15]) ∧ Below u.heap.size u w') := fun u k => pnew_bad m vd vp vl vi u (HM.out.below k) hc
    rw [h15] at HK
    clear hc h15
    go_wp2_with (first
      | (go_at_call 5; refine (HL.out _ B1.out).mono ?_; rintro z w2 ⟨b, rfl, hb2⟩; have B2 := Lib.hid (bthen B1.out hb2); have X2 := Lib.hid ((hb2.block _ (lt_of_block X1.out)).trans X1.out); clear hb2 m0 m1 m2 m3 m4 m5; obtain ⟨m0, m1, m2, m3, m4, m5⟩ := six_cells7 X2.out; cases b)
      | (go_at_call 6; refine (HA.out _).mono ?_; rintro z w9 ⟨rfl, hb9⟩; have B9 := Lib.hid (bthen B2.out hb9); clear hb9)
      | fail)
    · go_ret
      exact ⟨rfl, B9.out⟩
    refine (HN.out _ B2.out).mono ?_
    rintro z w3 ⟨rfl, hb3⟩
    have B3 := Lib.hid (bthen B2.out hb3)
    have X3 := Lib.hid ((hb3.block _ (lt_of_block X2.out)).trans X2.out)
    clear hb3 m0 m1 m2 m3 m4 m5
    obtain ⟨m0, m1, m2, m3, m4, m5⟩ := six_cells7 X3.out
    go_wp2_with fail
    refine (HK.out _ B3.out).mono ?_
    rintro z w4 ⟨rfl, hb4⟩
    have B4 := Lib.hid (bthen B3.out hb4)
    clear hb4 m0 m1 m2 m3 m4 m5
    go_wp2_with (go_at_call 6; refine (HA.out _).mono ?_; rintro z w9 ⟨rfl, hb9⟩; have B9 := Lib.hid (bthen B4.out hb9); clear hb9)
    go_ret
    exact ⟨rfl, B9.out⟩
theorem plRuns_walk (m : Mdl) (vd vp vl vi : Value) (n : Int) (w : World) (hm : MdlAt m vd vp vl vi w) (hg : Rng m) (hn : (Lit.int .u8 n).wf = true) : Calls Tryz.prog 3 #[mval m vd vp vl vi, .int .u8 n] w fun e w' => e = .returned (.bool true) ∧ Below w.heap.size w w' := by
  obtain ⟨m2, h1, h2, h3, h4⟩ := mdl_clamp hm hg
  have := plRuns_core m2 vd vp vl vi n w h1 h2 (u8_bdR hn).1 (u8_bdR hn).2
  unfold mval at this ⊢
  rwa [h3, h4] at this

end Go.Proofs.YthkfaeplmmlnlaaGreat
