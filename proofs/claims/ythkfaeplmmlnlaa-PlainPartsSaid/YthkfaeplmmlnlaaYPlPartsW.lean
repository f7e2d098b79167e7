/- PlainParts, walked. -/
import Derived.Test.YthkfaeplmmlnlaaYPlParts0
import Derived.Test.YthkfaeplmmlnlaaYModelRefCheck2
namespace Go.Proofs.Ythkfaeplmmlnlaa
open Go.RowKit Go.Deep Go.Maps
set_option linter.unusedVariables false
set_option maxRecDepth 100000

theorem gD_one (D : Nat → Dn) (i c : Nat) : (gD D i c).oneCell' = true := by
  rcases c with _ | _ | _ | _ | _ | c <;> rfl
set_option maxHeartbeats 6400000 in
theorem plParts_core (m : Mdl) (vd vp vl vi : Value) (f : Nat → Int) (a : Option Addr) (len cap : Nat) (w : World) (hm : MdlAt m vd vp vl vi w) (hr : MdlR m) (hrow : Sl 1 (fun i _ => .int .u8 (f i)) len (.slice a len cap) w) (hf : ∀ i, 0 ≤ f i ∧ f i < 256) : Calls Try.prog 10 #[mval m vd vp vl vi, .slice a len cap] w fun e w' => e = .returned (.bool true) ∧ Below w.heap.size w w' := by
  obtain ⟨i0, hi0, hz0, hz1, hz2⟩ := info_parts info_done9
  have hsf := store_float
  have HA := Lib.hid awake9_any
  have HL : Hid (∀ u, Below w.heap.size w u → Calls Try.prog 12 #[.agg #[.int .i64 m.seed, .float .f64 m.fin, vd, vp, vl, vi]] u fun e w' => ∃ b, e = .returned (.bool b) ∧ Below u.heap.size u w') := fun u k => light8_any m vd vp vl vi u (hm.below k)
  have HK : Hid (∀ u, Below w.heap.size w u → Calls Try.prog 16 #[.agg #[.int .i64 m.seed, .float .f64 m.fin, vd, vp, vl, vi]] u fun e w' => e = .returned (.int .i64 (chkN m)) ∧ Below u.heap.size u w') := fun u k => refCheck_any m vd vp vl vi u (hm.below k)
  have X1 := Lib.hid (heap_alloc_new w (.cells #[.int .i64 m.seed, .float .f64 m.fin, vd, vp, vl, vi] 28))
  have B1 := Lib.hid (balloc w (.cells #[.int .i64 m.seed, .float .f64 m.fin, vd, vp, vl, vi] 28))
  have HM := Lib.hid hm
  have HR := Lib.hid hr
  have ROWP := Lib.hid hrow
  have HF := Lib.hid hf
  unfold mval
  clear hm hr hrow hf
  go_enter Try.func10, Try.ntmps10
  go_upto_region 1 with fail
  generalize w.alloc (.cells #[.int .i64 m.seed, .float .f64 m.fin, vd, vp, vl, vi] 28) = w1 at *
  obtain ⟨m0, m1, m2, m3, m4, m5⟩ := six_cells7 X1.out
  by_cases hc : chkN m = 0
  · have HC := Lib.hid hc
    rw [hc] at HK
    have HN : Hid (∀ (S0 : Nat → Bool) u, Below w.heap.size w u → (∀ k, S0 k = true → k < u.heap.size) → Calls Try.prog 30 #[.agg #[.int .i64 m.seed, .float .f64 m.fin, vd, vp, vl, vi]] u fun z w' => ∃ P bm bc bs xd xp xl xi vS, z = .returned (.tuple #[.pointer (some ⟨P, 0, none⟩), .int .i64 0]) ∧ (u.heap.size ≤ P ∧ u.heap.size ≤ bm ∧ u.heap.size ≤ bs) ∧ PAt (nwS S0 P bm bs) P bm bc bs m xd xp xl xi vS (newP m) 0 0 w' ∧ Below u.heap.size u w') := fun S0 u k h0 => pnew_any m vd vp vl vi u (HM.out.below k) hc HR.out S0 h0
    clear hc
    go_wp2_with (first
      | (go_at_call 12; refine (HL.out _ B1.out).mono ?_; rintro z w2 ⟨b, rfl, hb2⟩; have B2 := Lib.hid (bthen B1.out hb2); have X2 := Lib.hid ((hb2.block _ (lt_of_block X1.out)).trans X1.out); clear hb2 m0 m1 m2 m3 m4 m5; obtain ⟨m0, m1, m2, m3, m4, m5⟩ := six_cells7 X2.out; cases b)
      | (go_at_call 29; refine (HA.out _).mono ?_; rintro z w9 ⟨rfl, hb9⟩; have B9 := Lib.hid (bthen B2.out hb9); clear hb9)
      | fail)
    · go_ret
      exact ⟨rfl, B9.out⟩
    refine (HK.out _ B2.out).mono ?_
    rintro z w2b ⟨rfl, hb2⟩
    have B2b := Lib.hid (bthen B2.out hb2)
    have X2b := Lib.hid ((hb2.block _ (lt_of_block X2.out)).trans X2.out)
    clear hb2
    obtain ⟨m0, m1, m2, m3, m4, m5⟩ := six_cells7 X2b.out
    go_upto_region 4 with (go_at_call 30; refine (HN.out (fun _ => false) _ B2b.out (fun k hk => by cases hk)).mono ?_; rintro z w3 ⟨P1, bm1, bc1, bs1, xd1, xp1, xl1, xi1, vS1, rfl, hlo, hp, hb3⟩; have A3 := Lib.hid hp; have LO1 := Lib.hid (show w.heap.size < P1 ∧ w.heap.size < bm1 ∧ w.heap.size < bs1 by have := lt_of_block X2b.out; omega); have B3 := Lib.hid (bthen B2b.out hb3); have X3 := Lib.hid ((hb3.block _ (lt_of_block X2b.out)).trans X2b.out); clear hp hlo hb3 m0 m1 m2 m3 m4 m5)
    obtain ⟨m0, m1, m2, m3, m4, m5⟩ := six_cells7 X3.out
    go_upto_region 7 with (go_at_call 30; refine (HN.out (nwS (fun _ => false) P1 bm1 bs1) _ B3.out (fun k hk => A3.out.lo k hk)).mono ?_; rintro z w4 ⟨P2, bm2, bc2, bs2, xd2, xp2, xl2, xi2, vS2, rfl, hlo, hp, hb4⟩; have Q4 := Lib.hid hp; have LO2 := Lib.hid hlo; have BB4 := Lib.hid hb4; have B4 := Lib.hid (bthen B3.out hb4); clear hp hlo hb4 m0 m1 m2 m3 m4 m5)
    have A4 : Hid (PAt (nwS (nwS (fun _ => false) P1 bm1 bs1) P2 bm2 bs2) P1 bm1 bc1 bs1 m xd1 xp1 xl1 xi1 vS1 (newP m) 0 0 w4) := A3.out.more BB4.out (fun k hk => by
      have h1 : k ≠ P2 := by have := LO2.out; omega
      have h2 : k ≠ bm2 := by have := LO2.out; omega
      have h3 : k ≠ bs2 := by have := LO2.out; omega
      show ((nwS (fun _ => false) P1 bm1 bs1 k || k == P2) || k == bm2 || k == bs2) = nwS (fun _ => false) P1 bm1 bs1 k
      rw [beq_eq_false_iff_ne.2 h1, beq_eq_false_iff_ne.2 h2, beq_eq_false_iff_ne.2 h3, Bool.or_false, Bool.or_false, Bool.or_false]) (fun q hq => Q4.out.lo q hq)
    have LT1 := Lib.hid (show w.heap.size < P1 ∧ w.heap.size < bm1 ∧ w.heap.size < bs1 ∧ P1 < P2 ∧ P1 < bm2 ∧ P1 < bs2 ∧ bm1 < P2 ∧ bm1 < bm2 ∧ bm1 < bs2 ∧ bs1 < P2 ∧ bs1 < bm2 ∧ bs1 < bs2 ∧ P2 < w4.heap.size ∧ bm2 < w4.heap.size ∧ bs2 < w4.heap.size by have := LO1.out; have := LO2.out; have := A3.out.lt; have := Q4.out.lt; omega)
    generalize nwS (nwS (fun _ => false) P1 bm1 bs1) P2 bm2 bs2 = S4 at *
    clear HN HK HL HM X1 X2 X2b X3 B1 B2 B2b B3 A3 LO1 LO2 BB4
    go_wp2_with fail
    go_loopw [9, 10, 11] (fun l n i wr => ∃ (q J N : Nat) (ar : Option Addr) (cr : Nat) (S2 : Nat → Bool), i = .int .i64 q ∧ n = .int .i64 N ∧ l = .slice ar J cr ∧ q ≤ 8 ∧ q ≤ len ∧ N ≤ 15 * q ∧ J ≤ N ∧ (∀ p, p < J → (stepsP m p (newP m)).W ≠ []) ∧ (J < N → (stepsP m J (newP m)).W = []) ∧ wr.ownsRow w4.heap.size 66 6 (.slice ar J cr) (J) (rowCells 6 (gD (dnF m (newP m))) (J)) ∧ PAt S2 P1 bm1 bc1 bs1 m xd1 xp1 xl1 xi1 vS1 (stepsP m J (newP m)) J J wr ∧ PAt S2 P2 bm2 bc2 bs2 m xd2 xp2 xl2 xi2 vS2 (newP m) 0 0 wr ∧ (∀ g, (Value.slice ar J cr).ownBlock = some g → S2 g = true) ∧ Below w.heap.size w wr ∧ w4.heap.size ≤ wr.heap.size)
      (fun _ _ i _ => 9 - (intOf i).toNat)
    case atStart => exact ⟨0, 0, 0, none, 0, S4, rfl, rfl, rfl, by omega, Nat.zero_le _, Nat.le_refl _, Nat.le_refl _, fun p hp => absurd hp (Nat.not_lt_zero p), fun h9 => absurd h9 (Nat.lt_irrefl 0), by rw [rowCells_zero]; exact World.ownsRow_nil _ _ _ _, A4.out, Q4.out, fun g hg => by simp [Value.ownBlock] at hg, B4.out, Nat.le_refl _⟩
    case round =>
      obtain ⟨q, J, N, ar, cr, S2, rfl, rfl, rfl, hq8, hql, hN, hJ, hne, hst, ho, ha, hb, hs, hbl, hsz⟩ := hrel
      have NE := Lib.hid hne
      have ST := Lib.hid hst
      have OR := Lib.hid ho
      have AR := Lib.hid ha
      have QR := Lib.hid hb
      have HS := Lib.hid hs
      have BL := Lib.hid hbl
      have SZ := Lib.hid hsz
      clear hne hst ho ha hb hs hbl hsz
      by_cases hc2 : q < len ∧ q < 8
      · have d1 : decide (q < len) = true := by simp [hc2.1]
        have d2 : decide ((q : Int) < 8) = true := by simp; omega
        obtain ⟨a9, c9, e9, _, _, h3⟩ := ROWP.out.below BL.out
        simp only [Value.slice.injEq, true_and] at e9
        obtain ⟨rfl, rfl⟩ := e9
        obtain ⟨b, o, rfl, hA⟩ := h3 (by omega)
        have k0 : wr.cell? ⟨b, o + q, none⟩ = some (.int .u8 (f q)) := by have := hA.2 q hc2.1 0 (by omega); rwa [Nat.mul_one, Nat.add_zero] at this
        have hy := HF.out q
        have hq0 : (0 : Int) ≤ (q : Int) := by omega
        have hq1 : (q : Int) < (len : Int) := by omega
        have HQ2 := Lib.hid hc2
        clear h3 hA hc2
        generalize f q = y at *
        have hy0 : 0 ≤ y % 15 := by omega
        have hy1 : y % 15 ≤ 14 := by omega
        have hN2 : (N : Int) ≤ 120 := by omega
        have hN3 : (0 : Int) ≤ (N : Int) := by omega
        have HRUN := Lib.hid (prun_any S2 P1 bm1 bc1 bs1 m xd1 xp1 xl1 xi1 vS1 (stepsP m J (newP m)) J J (y % 15) wr AR.out HC.out HR.out (by omega) (by omega))
        go_upto_region 11 with fail
        go_wp2_with fail
        refine HRUN.out.mono ?_
        rintro z w6 ⟨v6, j6, rfl, j1, j2, j3, ho6, hp6, hk6⟩
        have J1 := Lib.hid j1
        have J2 := Lib.hid j2
        have J3 := Lib.hid j3
        have O6 := Lib.hid ho6
        have P6 := Lib.hid hp6
        have K6 := Lib.hid hk6
        have OL6 : Hid (w6.ownsRow w4.heap.size 66 6 (.slice ar J cr) (J) (rowCells 6 (gD (dnF m (newP m))) (J))) := own_kept OR.out (fun g9 hg => K6.out.blk (own_lt OR.out hg).2 (T3.no (by have := (own_lt OR.out hg).1; have := LT1.out; omega) (by have := (own_lt OR.out hg).1; have := LT1.out; omega) (by have := (own_lt OR.out hg).1; have := LT1.out; omega)))
        have HB6 := Lib.hid (show w4.heap.size ≤ w6.heap.size from Nat.le_trans SZ.out K6.out.size)
        have hj6 : j6 ≤ 14 := by omega
        clear j1 j2 j3 ho6 hp6 hk6
        go_wp2_with (first
          | (at_builtin; refine wpList_append_any_at rfl _ _ 63 rfl w4.heap.size 66 i0 (.agg #[.float .f64 0, .int .i64 0, .int .i64 0, .int .i64 0, .int .i64 0, .int .i64 0]) 6 48 Try.underlying63 hi0 hz0 hz1 hz2 rfl (by decide) (.slice ar J cr) J _ rfl OL6.out (gD (dnF m (stepsP m J (newP m)))) j6 v6 rfl (own_sl O6.out) (fun _ _ c _ => gD_one _ _ c) (by unfold maxLen; omega) (by omega) HB6.out (J + j6) rfl ?_)
          | fail)
        intro aN cN w7 hown hgr hat
        have O7 : Hid (w7.ownsRow w4.heap.size 66 6 (.slice aN (J + j6) cN) ((J + j6)) (rowCells 6 (gD (dnF m (newP m))) ((J + j6)))) := by
          have e9 : rowCells 6 (gD (dnF m (newP m))) (J + j6) = rowCells 6 (gD (dnF m (newP m))) J ++ rowCells 6 (gD (dnF m (stepsP m J (newP m)))) j6 := by
            rw [rowCells_append 6 (by decide)]
            refine rowCells_congr (by decide) fun i hi c hc => ?_
            by_cases hij : i < J
            · rw [if_pos hij]
            · rw [if_neg hij]
              have e8 : dnF m (newP m) i = dnF m (stepsP m J (newP m)) (i - J) := by rw [dnF_add, show J + (i - J) = i by omega]
              unfold gD
              rcases c with _ | _ | _ | _ | _ | c <;> simp only [e8]
          show w7.ownsRow _ _ _ _ _ _
          rw [e9]
          exact hown
        have NB : Hid (∀ b, (Value.slice ar J cr).ownBlock = some b → S2 b = true ∧ w4.heap.size ≤ b) := fun b hb => ⟨HS.out b hb, (own_lt OR.out hb).1⟩
        have EQ : Hid (∀ k, k < w6.heap.size → (fun p => S2 p || decide ((Value.slice aN (J + j6) cN).ownBlock = some p)) k = S2 k) := fun k hk => by
          by_cases c9 : (Value.slice aN (J + j6) cN).ownBlock = some k
          · rcases hat with h9 | h9
            · simp [HS.out k (h9.symm.trans c9)]
            · have h8 := Option.some.inj (c9.symm.trans h9); omega
          · simp [c9]
        have HLO : Hid (∀ p, (fun p => S2 p || decide ((Value.slice aN (J + j6) cN).ownBlock = some p)) p = true → p < w7.heap.size) := fun p hp => by
          simp only [Bool.or_eq_true, decide_eq_true_eq] at hp
          rcases hp with hp | hp
          · exact Nat.lt_of_lt_of_le (P6.out.lo p hp) hgr.size
          · exact (own_lt hown hp).2
        have A7 := Lib.hid (P6.out.grow hgr (fun b hb => ⟨(NB.out b hb).1, by have := (NB.out b hb).2; have := LT1.out; omega, by have := (NB.out b hb).2; have := LT1.out; omega, by have := (NB.out b hb).2; have := LT1.out; omega⟩) EQ.out HLO.out)
        have Q6 := Lib.hid (QR.out.kept K6.out P6.out.subT (T3.no (by have := LT1.out; omega) (by have := LT1.out; omega) (by have := LT1.out; omega)) (T3.no (by have := LT1.out; omega) (by have := LT1.out; omega) (by have := LT1.out; omega)) (T3.no (by have := LT1.out; omega) (by have := LT1.out; omega) (by have := LT1.out; omega)))
        have Q7 := Lib.hid (Q6.out.grow hgr (fun b hb => ⟨(NB.out b hb).1, by have := (NB.out b hb).2; have := LT1.out; omega, by have := (NB.out b hb).2; have := LT1.out; omega, by have := (NB.out b hb).2; have := LT1.out; omega⟩) EQ.out HLO.out)
        have HS7 : Hid (∀ g, (Value.slice aN (J + j6) cN).ownBlock = some g → (fun p => S2 p || decide ((Value.slice aN (J + j6) cN).ownBlock = some p)) g = true) := fun g hg => by simp [hg]
        have B7 : Hid (Below w.heap.size w w7) := by
          have b6 : Below w.heap.size w w6 := BL.out.trans (K6.out.bot BL.out.size (fun q hq => T3.no (by have := LT1.out; omega) (by have := LT1.out; omega) (by have := LT1.out; omega)))
          exact b6.trans ⟨hgr.os, hgr.tape, hgr.output, hgr.size, fun k hk => hgr.block k (Nat.lt_of_lt_of_le hk b6.size) (fun c9 => by have := (NB.out k c9.symm).2; have := LT1.out; omega)⟩
        have FM := Lib.hid (far_more (by omega : J ≤ N) NE.out ST.out J1.out J2.out J3.out)
        have SZ7 := Lib.hid (Nat.le_trans HB6.out hgr.size)
        have ADD := Lib.hid (stepsP_add m J j6 (newP m)).symm
        rw [ADD.out] at A7
        generalize (fun p => S2 p || decide ((Value.slice aN (J + j6) cN).ownBlock = some p)) = S7 at *
        clear hown hgr hat NB EQ HLO
        go_wp2_with fail
        go_roundw
        case rel =>
          have e15 : ((N + (y % 15).toNat : Nat) : Int) = (N : Int) + y % 15 := by omega
          refine ⟨q + 1, J + j6, N + (y % 15).toNat, aN, cN, S7, by go_num, by rw [e15], rfl, by have := HQ2.out; omega, by have := HQ2.out; omega, by omega, FM.out.1, FM.out.2.1, FM.out.2.2, O7.out, A7.out, Q7.out, HS7.out, B7.out, SZ7.out⟩
        case measure => simp [intOf]; omega
      · by_cases hc3 : q < len
        · have d1 : decide (q < len) = true := by simp [hc3]
          have d2 : decide ((q : Int) < 8) = false := by simp; omega
          have hN2 : (N : Int) ≤ 120 := by omega
          have hN3 : (0 : Int) ≤ (N : Int) := by omega
          go_upto_region 12 with fail
          go_wp2_with (go_at_call 29; refine (HA.out _).mono ?_; rintro z w5 ⟨rfl, hb5⟩; have B5 := Lib.hid (bthen BL.out hb5); have A5 := Lib.hid (AR.out.below hb5); have Q5 := Lib.hid (QR.out.below hb5); have O5 := Lib.hid (own_below OR.out hb5); have HB5 := Lib.hid (show w4.heap.size ≤ w5.heap.size from Nat.le_trans SZ.out hb5.size); clear hb5)
          refine (prun_any S2 P2 bm2 bc2 bs2 m xd2 xp2 xl2 xi2 vS2 (newP m) 0 0 (N : Int) w5 Q5.out HC.out HR.out (by omega) (by omega)).mono ?_
          rintro z w6 ⟨v6, j6, rfl, j1, j2, j3, ho6, hp6, hk6⟩
          have hjj : j6 = J := far_one j1 j2 j3 (by omega) NE.out (fun h9 => ST.out (by omega))
          rw [hjj] at ho6 hp6
          have HSM := Lib.hid (sameDn_refl (dnF m (newP m)) J (.slice ar J cr) v6 w6 (own_sl (own_kept O5.out (fun g9 hg => hk6.blk (own_lt O5.out hg).2 (T3.no (by have := (own_lt O5.out hg).1; have := LT1.out; omega) (by have := (own_lt O5.out hg).1; have := LT1.out; omega) (by have := (own_lt O5.out hg).1; have := LT1.out; omega))))) (own_sl ho6))
          have A6 := Lib.hid (A5.out.kept hk6 hp6.subT (T3.no (by have := LT1.out; omega) (by have := LT1.out; omega) (by have := LT1.out; omega)) (T3.no (by have := LT1.out; omega) (by have := LT1.out; omega) (by have := LT1.out; omega)) (T3.no (by have := LT1.out; omega) (by have := LT1.out; omega) (by have := LT1.out; omega)))
          have Q6 := Lib.hid hp6
          have B6 := Lib.hid (B5.out.trans (hk6.bot B5.out.size (fun p hp => T3.no (by have := LT1.out; omega) (by have := LT1.out; omega) (by have := LT1.out; omega))))
          clear j1 j2 j3 ho6 hp6 hk6 hjj
          go_wp2_with (go_at_call 33; refine HSM.out.mono ?_; rintro z w7 ⟨rfl, hb7⟩; have B7 := Lib.hid (bthen B6.out hb7); have WA := Lib.hid (A6.out.below hb7).wait; have WQ := Lib.hid (Q6.out.below hb7).wait; clear hb7)
          refine WA.out.mono ?_
          rintro z w8 ⟨rfl, hw8⟩
          rw [hw8]
          clear hw8 w8
          go_wp2_with fail
          refine WQ.out.mono ?_
          rintro z w8 ⟨rfl, hw8⟩
          rw [hw8]
          clear hw8 w8
          go_wp2_with fail
          go_ret
          exact ⟨by simp, B7.out⟩
        · have d1 : decide (q < len) = false := by simp [hc3]
          have hN2 : (N : Int) ≤ 120 := by omega
          have hN3 : (0 : Int) ≤ (N : Int) := by omega
          go_upto_region 12 with fail
          go_wp2_with (go_at_call 29; refine (HA.out _).mono ?_; rintro z w5 ⟨rfl, hb5⟩; have B5 := Lib.hid (bthen BL.out hb5); have A5 := Lib.hid (AR.out.below hb5); have Q5 := Lib.hid (QR.out.below hb5); have O5 := Lib.hid (own_below OR.out hb5); have HB5 := Lib.hid (show w4.heap.size ≤ w5.heap.size from Nat.le_trans SZ.out hb5.size); clear hb5)
          refine (prun_any S2 P2 bm2 bc2 bs2 m xd2 xp2 xl2 xi2 vS2 (newP m) 0 0 (N : Int) w5 Q5.out HC.out HR.out (by omega) (by omega)).mono ?_
          rintro z w6 ⟨v6, j6, rfl, j1, j2, j3, ho6, hp6, hk6⟩
          have hjj : j6 = J := far_one j1 j2 j3 (by omega) NE.out (fun h9 => ST.out (by omega))
          rw [hjj] at ho6 hp6
          have HSM := Lib.hid (sameDn_refl (dnF m (newP m)) J (.slice ar J cr) v6 w6 (own_sl (own_kept O5.out (fun g9 hg => hk6.blk (own_lt O5.out hg).2 (T3.no (by have := (own_lt O5.out hg).1; have := LT1.out; omega) (by have := (own_lt O5.out hg).1; have := LT1.out; omega) (by have := (own_lt O5.out hg).1; have := LT1.out; omega))))) (own_sl ho6))
          have A6 := Lib.hid (A5.out.kept hk6 hp6.subT (T3.no (by have := LT1.out; omega) (by have := LT1.out; omega) (by have := LT1.out; omega)) (T3.no (by have := LT1.out; omega) (by have := LT1.out; omega) (by have := LT1.out; omega)) (T3.no (by have := LT1.out; omega) (by have := LT1.out; omega) (by have := LT1.out; omega)))
          have Q6 := Lib.hid hp6
          have B6 := Lib.hid (B5.out.trans (hk6.bot B5.out.size (fun p hp => T3.no (by have := LT1.out; omega) (by have := LT1.out; omega) (by have := LT1.out; omega))))
          clear j1 j2 j3 ho6 hp6 hk6 hjj
          go_wp2_with (go_at_call 33; refine HSM.out.mono ?_; rintro z w7 ⟨rfl, hb7⟩; have B7 := Lib.hid (bthen B6.out hb7); have WA := Lib.hid (A6.out.below hb7).wait; have WQ := Lib.hid (Q6.out.below hb7).wait; clear hb7)
          refine WA.out.mono ?_
          rintro z w8 ⟨rfl, hw8⟩
          rw [hw8]
          clear hw8 w8
          go_wp2_with fail
          refine WQ.out.mono ?_
          rintro z w8 ⟨rfl, hw8⟩
          rw [hw8]
          clear hw8 w8
          go_wp2_with fail
          go_ret
          exact ⟨by simp, B7.out⟩
  · have h15 : chkN m = 15 := by unfold chkN at hc ⊢; split <;> simp_all
    rw [h15] at HK
    clear hc h15
    go_wp2_with (first
      | (go_at_call 12; refine (HL.out _ B1.out).mono ?_; rintro z w2 ⟨b, rfl, hb2⟩; have B2 := Lib.hid (bthen B1.out hb2); have X2 := Lib.hid ((hb2.block _ (lt_of_block X1.out)).trans X1.out); clear hb2 m0 m1 m2 m3 m4 m5; obtain ⟨m0, m1, m2, m3, m4, m5⟩ := six_cells7 X2.out; cases b)
      | (go_at_call 29; refine (HA.out _).mono ?_; rintro z w9 ⟨rfl, hb9⟩; have B9 := Lib.hid (bthen B2.out hb9); clear hb9)
      | fail)
    · go_ret
      exact ⟨rfl, B9.out⟩
    refine (HK.out _ B2.out).mono ?_
    rintro z w3 ⟨rfl, hb3⟩
    have B3 := Lib.hid (bthen B2.out hb3)
    clear hb3 m0 m1 m2 m3 m4 m5
    go_wp2_with (go_at_call 29; refine (HA.out _).mono ?_; rintro z w9 ⟨rfl, hb9⟩; have B9 := Lib.hid (bthen B3.out hb9); clear hb9)
    go_ret
    exact ⟨rfl, B9.out⟩
theorem plParts_walk (m : Mdl) (vd vp vl vi : Value) (a : Option Addr) (len cap : Nat) (zs : List Int) (w : World) (hm : MdlAt m vd vp vl vi w) (hg : Rng m) (hrow : IsRow .u8 w a len cap zs) : Calls Try.prog 10 #[mval m vd vp vl vi, .slice a len cap] w fun e w' => e = .returned (.bool true) ∧ Below w.heap.size w w' := by
  obtain ⟨m2, h1, h2, h3, h4⟩ := mdl_clamp hm hg
  obtain ⟨f, f1, f2⟩ := u8_row hrow
  have := plParts_core m2 vd vp vl vi f a len cap w h1 h2 f1 f2
  unfold mval at this ⊢
  rwa [h3, h4] at this

end Go.Proofs.Ythkfaeplmmlnlaa
