/- PlainOrder, walked. -/
import Derived.Test.YthkfaeplmmlnlaaYPlLaws0
import Derived.Test.YthkfaeplmmlnlaaYZ0
import Derived.Test.YthkfaeplmmlnlaaYZ10
namespace Go.Proofs.Ythkfaeplmmlnlaa
open Go.RowKit Go.Deep Go.Maps
set_option linter.unusedVariables false
set_option maxRecDepth 100000

theorem u8_bd {n : Int} (h : (Lit.int .u8 n).wf = true) : 0 ≤ n ∧ n < 256 := by
  simp [Lit.wf] at h
  have e1 : IntKind.u8.min = 0 := rfl
  have e2 : IntKind.u8.max = 255 := rfl
  omega
set_option maxHeartbeats 3200000 in
theorem plOrder_core (m : Mdl) (vd vp vl vi : Value) (n : Int) (w : World) (hm : MdlAt m vd vp vl vi w) (hr : MdlR m) (h0 : 0 ≤ n) (h1 : n < 256) : Calls Try.prog 9 #[mval m vd vp vl vi, .int .u8 n] w fun e w' => e = .returned (.bool true) ∧ Below w.heap.size w w' := by
  have hsf := store_float
  have HA := Lib.hid awake9_any
  have HL : Hid (∀ u, Below w.heap.size w u → Calls Try.prog 12 #[.agg #[.int .i64 m.seed, .float .f64 m.fin, vd, vp, vl, vi]] u fun e w' => ∃ b, e = .returned (.bool b) ∧ Below u.heap.size u w') := fun u k => light8_any m vd vp vl vi u (hm.below k)
  have X1 := Lib.hid (heap_alloc_new w (.cells #[.int .i64 m.seed, .float .f64 m.fin, vd, vp, vl, vi] 28))
  have B1 := Lib.hid (balloc w (.cells #[.int .i64 m.seed, .float .f64 m.fin, vd, vp, vl, vi] 28))
  have HM := Lib.hid hm
  have HR := Lib.hid hr
  unfold mval
  clear hm hr
  go_enter Try.func9, Try.ntmps9
  go_upto_region 1 with fail
  generalize w.alloc (.cells #[.int .i64 m.seed, .float .f64 m.fin, vd, vp, vl, vi] 28) = w1 at *
  obtain ⟨m0, m1, m2, m3, m4, m5⟩ := six_cells7 X1.out
  by_cases hc : chkN m = 0
  · have HC := Lib.hid hc
    have HN : Hid (∀ u, Below w.heap.size w u → Calls Try.prog 30 #[.agg #[.int .i64 m.seed, .float .f64 m.fin, vd, vp, vl, vi]] u fun z w' => ∃ P bm bc bs xd xp xl xi vS, z = .returned (.tuple #[.pointer (some ⟨P, 0, none⟩), .int .i64 0]) ∧ (u.heap.size ≤ P ∧ u.heap.size ≤ bm ∧ u.heap.size ≤ bs) ∧ PAt (nwS (fun _ => false) P bm bs) P bm bc bs m xd xp xl xi vS (newP m) 0 0 w' ∧ Below u.heap.size u w') := fun u k => pnew_any m vd vp vl vi u (HM.out.below k) hc HR.out (fun _ => false) (fun k hk => by cases hk)
    go_wp2_with (first
      | (go_at_call 12; refine (HL.out _ B1.out).mono ?_; rintro z w2 ⟨b, rfl, hb2⟩; have B2 := Lib.hid (bthen B1.out hb2); have X2 := Lib.hid ((hb2.block _ (lt_of_block X1.out)).trans X1.out); clear hb2 m0 m1 m2 m3 m4 m5; obtain ⟨m0, m1, m2, m3, m4, m5⟩ := six_cells7 X2.out; cases b)
      | (go_at_call 29; refine (HA.out _).mono ?_; rintro z w9 ⟨rfl, hb9⟩; have B9 := Lib.hid (bthen B2.out hb9); clear hb9)
      | (go_at_call 30; refine (HN.out _ B2.out).mono ?_; rintro z w3 ⟨P, bm, bc, bs, xd, xp, xl, xi, vS, rfl, hlo, hp, hb3⟩; have P3 := Lib.hid hp; have LO := Lib.hid (show w.heap.size < P ∧ w.heap.size < bm ∧ w.heap.size < bs by have := lt_of_block X2.out; omega); have B3 := Lib.hid (bthen B2.out hb3); have X3 := Lib.hid ((hb3.block _ (lt_of_block X2.out)).trans X2.out); clear hp hlo hb3 m0 m1 m2 m3 m4 m5)
      | fail)
    · go_ret
      exact ⟨rfl, B9.out⟩
    have hN : (n % 100).toNat ≤ 99 := by omega
    refine (prun_any _ P bm bc bs m xd xp xl xi vS (newP m) 0 0 (n % 100) w3 P3.out hc HR.out (by omega) (by omega)).mono ?_
    rintro z w4 ⟨v, j, rfl, hj, hne, _, ho, hp, hk⟩
    have NE := Lib.hid hne
    have OR := Lib.hid ho
    have P4 := Lib.hid hp
    have T3N : Hid (∀ q, q ≤ w.heap.size → T3 P bm bs q = false) := fun q hq => T3.no (by have := LO.out; omega) (by have := LO.out; omega) (by have := LO.out; omega)
    have B4 : Hid (Below w.heap.size w w4) := B3.out.trans (hk.bot B3.out.size (fun q hq => T3N.out q (Nat.le_of_lt hq)))
    have X4 := Lib.hid ((hk.blk (lt_of_block X3.out) (T3N.out _ (Nat.le_refl _))).trans X3.out)
    have HJ : j ≤ 99 := by omega
    have ORD : Hid (∀ p, p + 1 < j → ordE (dnF m (newP m) p).e (dnF m (newP m) (p + 1)).e ≤ 0 ∧ leqF (dnF m (newP m) (p + 1)).e.t m.fin = true) := fun p hp => by
      have I := inv_new HC.out HR.out
      exact ⟨dn_order HC.out HR.out I (by omega) (NE.out p (by omega)) (NE.out (p + 1) hp), (dn_fin HC.out HR.out I (by omega) (NE.out (p + 1) hp)).2⟩
    have SL := Lib.hid (own_sl OR.out)
    obtain ⟨a, c, rfl, hjc, hc9, _⟩ := id SL.out
    clear hj hne ho hp hk hc
    go_wp2_with fail
    go_loopw [8] (fun i wr => ∃ p : Nat, (p + 1 ≤ j ∨ p = 0) ∧ i = .int .i64 ((p : Int) + 1) ∧ Below w4.heap.size w4 wr) (fun i _ => j + 1 - (intOf i).toNat)
    case atStart => exact ⟨0, .inr rfl, rfl, Below.refl _ _⟩
    case round =>
      obtain ⟨p, hp, rfl, hb⟩ := hrel
      have B5 := Lib.hid hb
      clear hb
      by_cases hlt : p + 1 < j
      · have d1 : decide ((p : Int) + 1 < (j : Int)) = true := by simp; omega
        obtain ⟨O1, O2⟩ := ORD.out p hlt
        obtain ⟨a9, c9, e9, _, _, h3⟩ := SL.out
        simp only [Value.slice.injEq, true_and] at e9
        obtain ⟨rfl, rfl⟩ := e9
        obtain ⟨b, rfl⟩ : ∃ b, a = some ⟨b, 0, none⟩ := by
          rcases OR.out.2 with ⟨e9, _⟩ | ⟨g, cap, cur, e9, _⟩
          · cases e9; omega
          · simp only [Value.slice.injEq, true_and] at e9; exact ⟨g, e9.1⟩
        obtain ⟨b9, o9, e8, hA⟩ := h3 (by omega)
        simp only [Option.some.injEq, Addr.mk.injEq, and_true] at e8
        obtain ⟨rfl, rfl⟩ := e8
        have KK : Hid (∀ w', Below w4.heap.size w4 w' → (∀ q, q < 6 → w'.cell? ⟨b, p * 6 + q, none⟩ = some (gD (dnF m (newP m)) p q)) ∧ (∀ q, q < 6 → w'.cell? ⟨b, (p + 1) * 6 + q, none⟩ = some (gD (dnF m (newP m)) (p + 1) q)) ∧ w'.cell? ⟨w.heap.size, 1, none⟩ = some (.float .f64 m.fin)) := fun w' k => by
          have hA2 := hA.below k
          refine ⟨fun q hq => ?_, fun q hq => ?_, ?_⟩
          · have := hA2.2 p (by omega) q hq; rwa [Nat.zero_add] at this
          · have := hA2.2 (p + 1) hlt q hq; rwa [Nat.zero_add] at this
          · rw [Lib.cell_of_heap ((k.block _ (lt_of_block X4.out)).trans X4.out)]; rfl
        clear hA h3
        have SS : Hid (∀ w', Below w4.heap.size w4 w' → (fun w' => w'.cell? ⟨b, p * 6, none⟩ = some (.float .f64 (dnF m (newP m) p).e.t) ∧ w'.cell? ⟨b, p * 6 + 1, none⟩ = some (.int .i64 (dnF m (newP m) p).e.src) ∧ w'.cell? ⟨b, p * 6 + 2, none⟩ = some (.int .i64 (dnF m (newP m) p).e.n) ∧ w'.cell? ⟨b, p * 6 + 3, none⟩ = some (.int .i64 (dnF m (newP m) p).e.dst) ∧ w'.cell? ⟨b, p * 6 + 4, none⟩ = some (.int .i64 (dnF m (newP m) p).e.pay) ∧ w'.cell? ⟨b, (p + 1) * 6, none⟩ = some (.float .f64 (dnF m (newP m) (p + 1)).e.t) ∧ w'.cell? ⟨b, (p + 1) * 6 + 1, none⟩ = some (.int .i64 (dnF m (newP m) (p + 1)).e.src) ∧ w'.cell? ⟨b, (p + 1) * 6 + 2, none⟩ = some (.int .i64 (dnF m (newP m) (p + 1)).e.n) ∧ w'.cell? ⟨b, (p + 1) * 6 + 3, none⟩ = some (.int .i64 (dnF m (newP m) (p + 1)).e.dst) ∧ w'.cell? ⟨b, (p + 1) * 6 + 4, none⟩ = some (.int .i64 (dnF m (newP m) (p + 1)).e.pay) ∧ w'.cell? ⟨w.heap.size, 1, none⟩ = some (.float .f64 m.fin)) w') := fun w' k => by
          obtain ⟨s1, s2, s3⟩ := KK.out w' k
          exact ⟨s1 0 (by omega), s1 1 (by omega), s1 2 (by omega), s1 3 (by omega), s1 4 (by omega), s2 0 (by omega), s2 1 (by omega), s2 2 (by omega), s2 3 (by omega), s2 4 (by omega), s3⟩
        clear KK
        generalize dnF m (newP m) p = D0 at *
        generalize dnF m (newP m) (p + 1) = D1 at *
        have d4 : decide (0 < ordE D0.e D1.e) = false := by simp; omega
        have d5 : (FloatKind.f64.format.order D1.e.t m.fin == some Ordering.gt) = false := by
          unfold leqF at O2
          cases hq : FloatKind.f64.format.order D1.e.t m.fin with
          | none => rfl
          | some o => rw [hq] at O2; cases o <;> first | rfl | exact absurd O2 (by decide)
        have HC := Lib.hid (refCompare8_any D0.e D1.e)
        rw [cmpE_ord] at HC
        unfold eval8 at HC
        have hp0 : (0 : Int) ≤ (p : Int) := by omega
        have hp1 : (p : Int) < (j : Int) := by omega
        have hp2 : (0 : Int) ≤ (p : Int) + 1 := by omega
        have hp3 : (p : Int) + 1 < (j : Int) := by omega
        have hp4 : ((p : Int) + 1).toNat = p + 1 := by omega
        have hp5 : IntKind.i64.wrap (p : Int) = (p : Int) := IntWalk.i64_in _ ⟨by omega, by omega⟩
        clear O1 O2
        go_upto_region 10 with fail
        have L6 := Lib.hid (bthen B5.out (bdrew wr))
        refine wp_region_held_drew (S := (fun w' => w'.cell? ⟨b, p * 6, none⟩ = some (.float .f64 D0.e.t) ∧ w'.cell? ⟨b, p * 6 + 1, none⟩ = some (.int .i64 D0.e.src) ∧ w'.cell? ⟨b, p * 6 + 2, none⟩ = some (.int .i64 D0.e.n) ∧ w'.cell? ⟨b, p * 6 + 3, none⟩ = some (.int .i64 D0.e.dst) ∧ w'.cell? ⟨b, p * 6 + 4, none⟩ = some (.int .i64 D0.e.pay) ∧ w'.cell? ⟨b, (p + 1) * 6, none⟩ = some (.float .f64 D1.e.t) ∧ w'.cell? ⟨b, (p + 1) * 6 + 1, none⟩ = some (.int .i64 D1.e.src) ∧ w'.cell? ⟨b, (p + 1) * 6 + 2, none⟩ = some (.int .i64 D1.e.n) ∧ w'.cell? ⟨b, (p + 1) * 6 + 3, none⟩ = some (.int .i64 D1.e.dst) ∧ w'.cell? ⟨b, (p + 1) * 6 + 4, none⟩ = some (.int .i64 D1.e.pay) ∧ w'.cell? ⟨w.heap.size, 1, none⟩ = some (.float .f64 m.fin))) (by kernel_rfl) ?_ (fun hHeld => ?_)
        · exact SS.out _ L6.out
        change wpAnyH _ _ _ _ _ _ _ _ (World.drew wr)
        generalize World.drew wr = w6 at *
        first | refine tq0 0 rfl ?_ | refine tq1 0 rfl ?_
        try go_frame
        first | refine tq0 1 rfl ?_ | refine tq1 1 rfl ?_
        try go_frame
        first | refine tq0 2 rfl ?_ | refine tq1 2 rfl ?_
        try go_frame
        first | refine tq0 3 rfl ?_ | refine tq1 3 rfl ?_
        try go_frame
        first | refine tq0 4 rfl ?_ | refine tq1 4 rfl ?_
        try go_frame
        first | refine tq0 5 rfl ?_ | refine tq1 5 rfl ?_
        try go_frame
        first | refine tq0 6 rfl ?_ | refine tq1 6 rfl ?_
        try go_frame
        first | refine tq0 7 rfl ?_ | refine tq1 7 rfl ?_
        try go_frame
        first | refine tq0 8 rfl ?_ | refine tq1 8 rfl ?_
        try go_frame
        first | refine tq0 9 rfl ?_ | refine tq1 9 rfl ?_
        try go_frame
        first | refine tq0 10 rfl ?_ | refine tq1 10 rfl ?_
        try go_frame
        refine wpAnyH_ready (rs := [11]) (by kernel_rfl) (by simp) ?_
        refine AllReadyH.cons (o := ⟨_, _, _, _, _, _⟩) rfl (fun K hK => ?_) AllReadyH.nil
        go_simp
        go_at_call 26
        refine (HC.out _).mono ?_
        rintro z w7 ⟨rfl, hb7⟩
        have L7 := Lib.hid (bthen L6.out hb7)
        clear hb7
        refine hK.out _ _ ?_ (fun hHeld => ?_)
        · exact SS.out _ L7.out
        clear hK K
        try go_frame
        first | refine tq0 12 rfl ?_ | refine tq1 12 rfl ?_
        try go_frame
        first | refine tq0 13 rfl ?_ | refine tq1 13 rfl ?_
        try go_frame
        first | refine tq0 14 rfl ?_ | refine tq1 14 rfl ?_
        try go_frame
        first | refine tq0 15 rfl ?_ | refine tq1 15 rfl ?_
        try go_frame
        first | refine tq0 16 rfl ?_ | refine tq1 16 rfl ?_
        try go_frame
        first | refine tq0 17 rfl ?_ | refine tq1 17 rfl ?_
        try go_frame
        first | refine tq0 18 rfl ?_ | refine tq1 18 rfl ?_
        try go_frame
        first | refine tq0 19 rfl ?_ | refine tq1 19 rfl ?_
        try go_frame
        first | refine tq0 20 rfl ?_ | refine tq1 20 rfl ?_
        try go_frame
        first | refine tq0 21 rfl ?_ | refine tq1 21 rfl ?_
        try go_frame
        first | refine tq0 22 rfl ?_ | refine tq1 22 rfl ?_
        try go_frame
        first | refine tq0 23 rfl ?_ | refine tq1 23 rfl ?_
        try go_frame
        first | refine tq0 24 rfl ?_ | refine tq1 24 rfl ?_
        try go_frame
        refine wpAnyH_done (by kernel_rfl) ?_ _
        clear hHeld
        go_wp2_with fail
        go_roundw
        case rel => exact ⟨p + 1, .inl (by omega), by go_num, L7.out⟩
        case measure => simp [intOf]; omega
      · have d1 : decide ((p : Int) + 1 < (j : Int)) = false := by simp; omega
        have P6 := Lib.hid (P4.out.below B5.out)
        have BW := Lib.hid (bthen B4.out B5.out)
        go_wp2_with (first
          | (go_at_call 29; refine (HA.out _).mono ?_; rintro z w9 ⟨rfl, hb9⟩; have B9 := Lib.hid (bthen BW.out hb9); have P9 := Lib.hid (P6.out.below hb9); have HHD := Lib.hid P9.out.handled; clear hb9)
          | (go_at_call 32; refine HHD.out.mono ?_; rintro z w8 ⟨rfl, hw8⟩; rw [hw8]; clear hw8 w8)
          | fail)
        go_ret
        exact ⟨rfl, B9.out⟩
  · have HN : Hid (∀ u, Below w.heap.size w u → Calls Try.prog 30 #[.agg #[.int .i64 m.seed, .float .f64 m.fin, vd, vp, vl, vi]] u fun z w' => z = .returned (.tuple #[.pointer none, .int .i64 15]) ∧ Below u.heap.size u w') := fun u k => pnew_bad m vd vp vl vi u (HM.out.below k) hc
    clear hc
    go_wp2_with (first
      | (go_at_call 12; refine (HL.out _ B1.out).mono ?_; rintro z w2 ⟨b, rfl, hb2⟩; have B2 := Lib.hid (bthen B1.out hb2); have X2 := Lib.hid ((hb2.block _ (lt_of_block X1.out)).trans X1.out); clear hb2 m0 m1 m2 m3 m4 m5; obtain ⟨m0, m1, m2, m3, m4, m5⟩ := six_cells7 X2.out; cases b)
      | (go_at_call 29; refine (HA.out _).mono ?_; rintro z w9 ⟨rfl, hb9⟩; have B9 := Lib.hid (bthen B2.out hb9); clear hb9)
      | (go_at_call 30; refine (HN.out _ B2.out).mono ?_; rintro z w3 ⟨rfl, hb3⟩; have B3 := Lib.hid (bthen B2.out hb3); clear hb3 m0 m1 m2 m3 m4 m5)
      | fail)
    · go_ret
      exact ⟨rfl, B9.out⟩
    go_wp2_with (go_at_call 29; refine (HA.out _).mono ?_; rintro z w9 ⟨rfl, hb9⟩; have B9 := Lib.hid (bthen B3.out hb9); clear hb9)
    go_ret
    exact ⟨rfl, B9.out⟩
theorem plOrder_walk (m : Mdl) (vd vp vl vi : Value) (n : Int) (w : World) (hm : MdlAt m vd vp vl vi w) (hg : Rng m) (hn : (Lit.int .u8 n).wf = true) : Calls Try.prog 9 #[mval m vd vp vl vi, .int .u8 n] w fun e w' => e = .returned (.bool true) ∧ Below w.heap.size w w' := by
  obtain ⟨m2, h1, h2, h3, h4⟩ := mdl_clamp hm hg
  have := plOrder_core m2 vd vp vl vi n w h1 h2 (u8_bd hn).1 (u8_bd hn).2
  unfold mval at this ⊢
  rwa [h3, h4] at this

end Go.Proofs.Ythkfaeplmmlnlaa
