/- The contract of the document's victim. The contracts of the document's Let, Set; what victim and back keep. The contract of the document's Hold. -/
import Derived.Test.YtmflkkkbahghgaaGreatYZ26
namespace Go.Proofs.YtmflkkkbahghgaaGreat
open Go.RowKit Go.Deep
set_option linter.unusedVariables false
set_option linter.unusedSimpArgs false
set_option maxRecDepth 100000

def vicI (p : Plt) : Int := if (vicP p).2 < p.f.length then ((vicP p).2 : Int) else -1
def pAt (p : Plt) (f : List Frm) (h : Nat) : Plt := { p with f := f, hand := h }
section
variable {base Q R : Nat} {p : Plt} {u : World}
set_option maxHeartbeats 3200000 in
theorem rvictim15_any (h : RPl base Q R p u) (ok : OkR p) (hbase : base ≤ u.heap.size) : Calls Tryz.prog 80 #[.pointer (some ⟨R, 0, none⟩)] u fun r u' => r = .returned (.int .i64 (vicI p)) ∧ RQ base Q R (vicP p).1 u u' := by
  obtain ⟨i0, hi0, hz0, hz1, hz2⟩ := info_parts infoFrame15
  have H := Lib.hid h
  have OK := Lib.hid ok
  have HBASE := Lib.hid hbase
  have hlen := ok.len
  obtain ⟨a, c, x0, x1, x2, hf, f0, f1, f2⟩ := h.cells
  have F := Lib.hid hf
  have ST := Lib.hid (h.stays (Below.refl _ _))
  clear h ok hbase hf x0 x2 f0 f2
  go_enter Tryz.func80, Tryz.ntmps80
  go_wp2_with fail
  go_loopw [3] (fun i wr => ∃ j : Nat, j ≤ p.f.length ∧ i = .int .i64 j ∧ Hid (∀ k, k < j → emptyF p.f k = false) ∧ wr = u) (fun i _ => p.f.length - (intOf i).toNat)
  case atStart => exact ⟨0, Nat.zero_le _, rfl, Lib.hid fun k hk => absurd hk (Nat.not_lt_zero k), rfl⟩
  case round =>
    obtain ⟨j, hj, rfl, HK, hw⟩ := hrel
    rw [hw]
    clear hw wr
    by_cases hlt : j < p.f.length
    · have hj2 : (0 : Int) ≤ (j : Int) := by omega
      have hj1 : (j : Int) < (p.f.length : Int) := by omega
      have d1 : decide ((j : Int) < (p.f.length : Int)) = true := decide_eq_true hj1
      obtain ⟨b, ha, y0, _⟩ := FRow.look F.out hlt
      subst ha
      by_cases c1 : (frA p.f j).pg < 0
      · have d2 : decide ((frA p.f j).pg < 0) = true := decide_eq_true c1
        have E : Hid (lstP (emptyF p.f) p.f.length = j) := Lib.hid (lstP_of (by omega) (.inr (by simp [emptyF, c1])) HK.out)
        have EI : Hid (vicI p = (j : Int)) := Lib.hid (by unfold vicI vicP; rw [E.out, if_pos hlt]; exact if_pos hlt)
        have EP : Hid ((vicP p).1 = p) := Lib.hid (by unfold vicP; rw [E.out, if_pos hlt])
        go_wp2_with fail
        go_ret
        exact ⟨by rw [EI.out]; rfl, by rw [EP.out]; exact ST.out⟩
      · have d2 : decide ((frA p.f j).pg < 0) = false := decide_eq_false c1
        have HK2 : Hid (∀ k, k < j + 1 → emptyF p.f k = false) := Lib.hid fun k hk => by
          rcases Nat.lt_succ_iff_lt_or_eq.1 hk with h9 | rfl
          · exact HK.out k h9
          · simp [emptyF, c1]
        go_wp2_with fail
        go_roundw
        case rel => exact ⟨j + 1, hlt, by go_num, HK2, trivial⟩
        case measure => simp [intOf]; omega
    · have d1 : decide ((j : Int) < (p.f.length : Int)) = false := decide_eq_false (by omega)
      have E : Hid (lstP (emptyF p.f) p.f.length = p.f.length) := Lib.hid (lstP_of (Nat.le_refl _) (.inl rfl) fun k hk => HK.out k (by omega))
      have EV : Hid (vicP p = (pAt p (vicN p.f.length (2 * p.f.length + 1) p.f p.hand).1 (vicN p.f.length (2 * p.f.length + 1) p.f p.hand).2.1, (vicN p.f.length (2 * p.f.length + 1) p.f p.hand).2.2)) := Lib.hid (by unfold vicP; rw [E.out, if_neg (Nat.lt_irrefl _)]; rfl)
      go_wp2_with fail
      clear E HK d1 x1 f1
      go_loopw [4] (fun i wr => ∃ (k : Nat) (f : List Frm) (hd : Nat), k ≤ 2 * p.f.length + 1 ∧ i = .int .i64 k ∧ Hid (vicN p.f.length (2 * p.f.length + 1) p.f p.hand = vicN p.f.length (2 * p.f.length + 1 - k) f hd) ∧ f.length = p.f.length ∧ hd < p.f.length ∧ Hid (RQ base Q R (pAt p f hd) u wr)) (fun i _ => 2 * p.f.length + 1 - (intOf i).toNat)
      case atStart => exact ⟨0, p.f, p.hand, Nat.zero_le _, rfl, Lib.hid rfl, rfl, OK.out.hand, ST⟩
      case round =>
        obtain ⟨k, f, hd, hk, rfl, HV, hfl, hhd, HQ⟩ := hrel
        obtain ⟨a2, c2, x0, x1, x2, hf, f0, f1, f2⟩ := HQ.out.1.cells
        rw [show (pAt p f hd).f.length = p.f.length from hfl] at x1 hf
        rw [show (pAt p f hd).hand = hd from rfl] at x2
        by_cases hlt2 : k < 2 * p.f.length + 1
        · have d1 : decide ((k : Int) ≤ 2 * (p.f.length : Int)) = true := decide_eq_true (by omega)
          have hfr := hf
          rw [← hfl] at hfr
          obtain ⟨b, ha, y0, y1, y2, y3, y4⟩ := FRow.look (f := f) hfr (i := hd) (by omega)
          clear hfr hf
          subst ha
          have hh1 : (hd : Int) < (p.f.length : Int) := by omega
          have hh2 : (0 : Int) ≤ (hd : Int) := by omega
          have HE := (show vicN p.f.length (2 * p.f.length + 1 - k) f hd = if (frA f hd).held = 0 ∧ (frA f hd).us = false then (f, (hd + 1) % p.f.length, hd) else vicN p.f.length (2 * p.f.length + 1 - (k + 1)) (if (frA f hd).held = 0 then f.set hd { frA f hd with us := false } else f) ((hd + 1) % p.f.length) from by
            rw [show 2 * p.f.length + 1 - k = (2 * p.f.length + 1 - (k + 1)) + 1 from by omega]
            rfl)
          have X0 := Lib.hid (heap_alloc_new wr (frC (frA f hd)))
          have B0 := Lib.hid (balloc wr (frC (frA f hd)))
          go_upto_region 11 with fail
          obtain ⟨C, hC⟩ : ∃ C, C = wr.heap.size := ⟨_, rfl⟩
          have Q0 := Lib.hid (HQ.out.1.stays B0.out)
          rw [← hC] at X0 ⊢
          have HC := Lib.hid hC
          have LEN := Lib.hid (show (pAt p f hd).f.length = p.f.length from hfl)
          clear x0 x1 x2 f0 f1 f2 y0 y1 y2 y3 y4 hC
          generalize wr.alloc (frC (frA f hd)) = w1 at *
          obtain ⟨a3, c3, _, v1, v2, _, _, _, _⟩ := Q0.out.1.cells
          rw [LEN.out] at v1
          rw [show (pAt p f hd).hand = hd from rfl] at v2
          refine wp_region_x_drew 14 (S := (fun w' => w'.cell? ⟨R, 1, none⟩ = some (.slice a3 p.f.length c3) ∧ w'.cell? ⟨R, 2, none⟩ = some (.int .i64 (hd : Int)))) (by kernel_rfl) ⟨v1, v2⟩ (fun hHeld => ?_)
          change wpAnyX _ _ _ _ _ _ _ _ _ (World.drew _)
          have QD := Lib.hid (Q0.out.trans (Q0.out.1.stays (bdrew w1)))
          have XD := Lib.hid (((bdrew w1).block C (lt_of_block X0.out)).trans X0.out)
          have BW := Lib.hid (B0.out.trans (Below.mono (bdrew w1) B0.out.size))
          have VD := Lib.hid (And.intro ((cell_stays (bdrew w1) v1)) ((cell_stays (bdrew w1) v2)))
          clear v1 v2
          generalize World.drew w1 = wd at *
          have hne : (p.f.length : Int) ≠ 0 := by omega
          obtain ⟨h2, hh2e⟩ : ∃ h2, h2 = (hd + 1) % p.f.length := ⟨_, rfl⟩
          rw [← hh2e] at HE
          have H2 : Hid (h2 < p.f.length) := Lib.hid (by rw [hh2e]; exact Nat.mod_lt _ (by omega))
          have HTM : Hid (Int.tmod ((hd : Int) + 1) (p.f.length : Int) = (h2 : Int)) := Lib.hid (by
            rw [Int.tmod_eq_emod_of_nonneg (by omega), hh2e]
            rfl)
          clear hh2e
          first
            | refine tx0 0 (oi := ⟨_, _, _, _, _, _⟩) rfl ?_
            | refine tx1 0 (oi := ⟨_, _, _, _, _, _⟩) (v := ?_) rfl ?_ ?_; rotate_left; · (intro w5 hSw; (try dsimp only at hSw); go_simp; (try with_reducible rfl))
          try simp only [Act.put, List.setIfInBounds_toArray, List.set_cons_zero, List.set_cons_succ]
          first
            | refine tx0 1 (oi := ⟨_, _, _, _, _, _⟩) rfl ?_
            | refine tx1 1 (oi := ⟨_, _, _, _, _, _⟩) (v := ?_) rfl ?_ ?_; rotate_left; · (intro w5 hSw; (try dsimp only at hSw); go_simp; (try with_reducible rfl))
          try simp only [Act.put, List.setIfInBounds_toArray, List.set_cons_zero, List.set_cons_succ]
          first
            | refine tx0 2 (oi := ⟨_, _, _, _, _, _⟩) rfl ?_
            | refine tx1 2 (oi := ⟨_, _, _, _, _, _⟩) (v := ?_) rfl ?_ ?_; rotate_left; · (intro w5 hSw; (try dsimp only at hSw); go_simp; (try with_reducible rfl))
          try simp only [Act.put, List.setIfInBounds_toArray, List.set_cons_zero, List.set_cons_succ]
          first
            | refine tx0 3 (oi := ⟨_, _, _, _, _, _⟩) rfl ?_
            | refine tx1 3 (oi := ⟨_, _, _, _, _, _⟩) (v := ?_) rfl ?_ ?_; rotate_left; · (intro w5 hSw; (try dsimp only at hSw); go_simp; (try with_reducible rfl))
          try simp only [Act.put, List.setIfInBounds_toArray, List.set_cons_zero, List.set_cons_succ]
          first
            | refine tx0 4 (oi := ⟨_, _, _, _, _, _⟩) rfl ?_
            | refine tx1 4 (oi := ⟨_, _, _, _, _, _⟩) (v := ?_) rfl ?_ ?_; rotate_left; · (intro w5 hSw; (try dsimp only at hSw); go_simp; (try with_reducible rfl))
          try simp only [Act.put, List.setIfInBounds_toArray, List.set_cons_zero, List.set_cons_succ]
          first
            | refine tx0 5 (oi := ⟨_, _, _, _, _, _⟩) rfl ?_
            | refine tx1 5 (oi := ⟨_, _, _, _, _, _⟩) (v := ?_) rfl ?_ ?_; rotate_left; · (intro w5 hSw; (try dsimp only at hSw); go_simp; (try with_reducible rfl))
          try simp only [Act.put, List.setIfInBounds_toArray, List.set_cons_zero, List.set_cons_succ]
          first
            | refine tx0 6 (oi := ⟨_, _, _, _, _, _⟩) rfl ?_
            | refine tx1 6 (oi := ⟨_, _, _, _, _, _⟩) (v := ?_) rfl ?_ ?_; rotate_left; · (intro w5 hSw; (try dsimp only at hSw); go_simp; (try with_reducible rfl))
          try simp only [Act.put, List.setIfInBounds_toArray, List.set_cons_zero, List.set_cons_succ]
          first
            | refine tx0 7 (oi := ⟨_, _, _, _, _, _⟩) rfl ?_
            | refine tx1 7 (oi := ⟨_, _, _, _, _, _⟩) (v := ?_) rfl ?_ ?_; rotate_left; · (intro w5 hSw; (try dsimp only at hSw); go_simp; (try with_reducible rfl))
          try simp only [Act.put, List.setIfInBounds_toArray, List.set_cons_zero, List.set_cons_succ]
          first
            | refine tx0 8 (oi := ⟨_, _, _, _, _, _⟩) rfl ?_
            | refine tx1 8 (oi := ⟨_, _, _, _, _, _⟩) (v := ?_) rfl ?_ ?_; rotate_left; · (intro w5 hSw; (try dsimp only at hSw); go_simp; (try with_reducible rfl))
          try simp only [Act.put, List.setIfInBounds_toArray, List.set_cons_zero, List.set_cons_succ]
          first
            | refine tx0 9 (oi := ⟨_, _, _, _, _, _⟩) rfl ?_
            | refine tx1 9 (oi := ⟨_, _, _, _, _, _⟩) (v := ?_) rfl ?_ ?_; rotate_left; · (intro w5 hSw; (try dsimp only at hSw); go_simp; (try with_reducible rfl))
          try simp only [Act.put, List.setIfInBounds_toArray, List.set_cons_zero, List.set_cons_succ]
          first
            | refine tx0 10 (oi := ⟨_, _, _, _, _, _⟩) rfl ?_
            | refine tx1 10 (oi := ⟨_, _, _, _, _, _⟩) (v := ?_) rfl ?_ ?_; rotate_left; · (intro w5 hSw; (try dsimp only at hSw); go_simp; (try with_reducible rfl))
          try simp only [Act.put, List.setIfInBounds_toArray, List.set_cons_zero, List.set_cons_succ]
          have hnil : p.f ≠ [] := fun h9 => by rw [h9] at hlen; exact absurd hlen.1 (by decide)
          have HWR : Hid (IntKind.i64.wrap ((hd : Int) + 1) = (hd : Int) + 1) := Lib.hid (by rw [IntKind.wrap_i64]; omega)
          refine tx1 11 (oi := ⟨_, _, _, _, _, _⟩) (v := .int .i64 (h2 : Int)) rfl ?_ ?_
          · intro w5 hSw
            try dsimp only at hSw
            go_simp
            first
              | rw [if_neg hnil, HWR.out, HTM.out]
              | rw [HWR.out, HTM.out]
          try simp only [Act.put, List.setIfInBounds_toArray, List.set_cons_zero, List.set_cons_succ]
          refine wpAnyX_ready (rs := [12]) (by kernel_rfl) (by simp) ?_
          refine AllReadyX.cons (o := ⟨_, _, _, _, _, _⟩) rfl (fun K hK => ?_) AllReadyX.nil
          go_simp
          refine hK.out _ _ VD.out (fun hHeld => ?_)
          clear hK K
          try simp only [Act.put, List.setIfInBounds_toArray, List.set_cons_zero, List.set_cons_succ]
          refine wpAnyX_ready (rs := [13]) (by kernel_rfl) (by simp) ?_
          refine AllReadyX.cons (o := ⟨_, _, _, _, _, _⟩) rfl (fun K hK => ?_) AllReadyX.nil
          go_simp
          refine hK.out _ _ VD.out (fun hHeld => ?_)
          clear hK K
          try simp only [Act.put, List.setIfInBounds_toArray, List.set_cons_zero, List.set_cons_succ]
          obtain ⟨_, _, _, _, _, _, _, _, fz⟩ := QD.out.1.cells
          refine wpAnyX_last (o := ⟨_, _, _, _, _, _⟩) (by kernel_rfl) rfl (fun K hK => ?_) (by kernel_rfl)
          go_simp
          refine hK.out _ _ ?_
          clear hK K
          try simp only [Act.put, List.setIfInBounds_toArray, List.set_cons_zero, List.set_cons_succ]
          have QT := Lib.hid (QD.out.1.turn h2)
          have Q9 : Hid (RQ base Q R (pAt p f h2) u (wd.setCell ⟨R, 2, none⟩ (.int .i64 (h2 : Int)))) := Lib.hid (HQ.out.trans (QD.out.trans QT.out))
          have X9 : Hid ((wd.setCell ⟨R, 2, none⟩ (.int .i64 (h2 : Int))).heap[C]? = some (frC (frA f hd))) := Lib.hid ((set_else12 _ (by have := HQ.out.1.lt; have := HC.out; omega)).trans XD.out)
          have NC : Hid (∀ k, Rp Q R (wd.setCell ⟨R, 2, none⟩ (.int .i64 (h2 : Int))) k → k ≠ C) := Lib.hid (fun k hk h9 => by
            have hC := HC.out
            have hD := lt_of_block XD.out
            rcases QT.out.2.2 k hk with h1 | h1
            · have h2 := (HQ.out.1.rlt (rp_below HQ.out.1 BW.out h1)).2
              omega
            · omega)
          have LC : Hid (u.heap.size ≤ C) := Lib.hid (by rw [HC.out]; exact HQ.out.2.1.size)
          clear hHeld fz
          generalize wd.setCell ⟨R, 2, none⟩ (.int .i64 (h2 : Int)) = w9 at *
          clear VD QD QT XD Q0 X0 B0 BW HTM hne HWR
          have v2 : w9.cell? ⟨C, 2, none⟩ = some (.int .i64 ((frA f hd).held : Int)) := by rw [Lib.cell_of_heap X9.out]; rfl
          have v4 : w9.cell? ⟨C, 4, none⟩ = some (.bool (frA f hd).us) := by rw [Lib.cell_of_heap X9.out]; rfl
          by_cases c1 : (frA f hd).held = 0
          · rw [c1] at v2
            by_cases c2 : (frA f hd).us = false
            · rw [c2] at v4
              have EW : Hid (vicN p.f.length (2 * p.f.length + 1) p.f p.hand = (f, h2, hd)) := Lib.hid (by rw [HV.out, HE, if_pos ⟨c1, c2⟩])
              have EI : Hid (vicI p = (hd : Int)) := Lib.hid (by unfold vicI; rw [EV.out, EW.out]; exact if_pos hhd)
              have EP : Hid ((vicP p).1 = pAt p f h2) := Lib.hid (by rw [EV.out, EW.out])
              clear HE c1 c2
              go_wp2_with fail
              go_ret
              exact ⟨by rw [EI.out]; rfl, by rw [EP.out]; exact Q9.out⟩
            · have c3 : (frA f hd).us = true := by simpa using c2
              rw [c3] at v4
              have HV2 : Hid (vicN p.f.length (2 * p.f.length + 1) p.f p.hand = vicN p.f.length (2 * p.f.length + 1 - (k + 1)) (f.set hd { frA f hd with us := false }) h2) := Lib.hid (by rw [HV.out, HE, if_neg (fun h9 => c2 h9.2), if_pos c1])
              have g4 := Lib.frozen_of_heap X9.out 4
              have K8 : Hid (RQ base Q R (pAt p f h2) u (w9.setCell ⟨C, 4, none⟩ (.bool false))) := Lib.hid (by
                obtain ⟨hk, hr⟩ := Q9.out.1.kept (S := Q1 C) (fun k hk => Q1.no (NC.out k hk)) (KpS.set (Q1.a C) 4 (.bool false) w9)
                refine ⟨hk, Q9.out.2.1.low ((Below.refl _ _).setCell (p := ⟨C, 4, none⟩) LC.out _), fun k h9 => Q9.out.2.2 k (hr k h9)⟩)
              have X8 := Lib.hid (Joins.block_setCell (i := 4) X9.out (.bool false))
              have HC1 := Lib.hid c1
              clear HE c1 c2 c3
              go_upto_region 16 with fail
              clear v2 v4 g4
              generalize w9.setCell ⟨C, 4, none⟩ (.bool false) = w8 at *
              have v0 : w8.cell? ⟨C, 0, none⟩ = some (.int .i64 (frA f hd).pg) := by rw [Lib.cell_of_heap X8.out]; rfl
              have v1 : w8.cell? ⟨C, 1, none⟩ = some (.string (frA f hd).b) := by rw [Lib.cell_of_heap X8.out]; rfl
              have v2 : w8.cell? ⟨C, 2, none⟩ = some (.int .i64 ((frA f hd).held : Int)) := by rw [Lib.cell_of_heap X8.out]; rfl
              have v3 : w8.cell? ⟨C, 3, none⟩ = some (.bool (frA f hd).di) := by rw [Lib.cell_of_heap X8.out]; rfl
              have v4 : w8.cell? ⟨C, 4, none⟩ = some (.bool false) := by rw [Lib.cell_of_heap X8.out]; rfl
              have HT := Lib.hid (rset15_any K8.out.1 (by show f.length ≤ 32; rw [hfl]; exact hlen.2) (Nat.le_trans HBASE.out K8.out.2.1.size) hd (by show hd < f.length; rw [hfl]; exact hhd) { frA f hd with us := false })
              go_wp2_with fail
              refine (HT.out).mono ?_
              rintro r w10 ⟨rfl, hq⟩
              have HQ2 : Hid (RQ base Q R (pAt p (f.set hd { frA f hd with us := false }) h2) u w10) := Lib.hid (K8.out.trans hq)
              have hfl2 : (f.set hd { frA f hd with us := false }).length = p.f.length := by rw [List.length_set]; exact hfl
              clear hq v0 v1 v2 v3 v4
              go_wp2_with fail
              go_roundw
              case rel => exact ⟨k + 1, _, h2, by omega, by go_num, HV2, hfl2, H2.out, HQ2⟩
              case measure => simp [intOf]; omega
          · have HV2 : Hid (vicN p.f.length (2 * p.f.length + 1) p.f p.hand = vicN p.f.length (2 * p.f.length + 1 - (k + 1)) f h2) := Lib.hid (by rw [HV.out, HE, if_neg (fun h9 => c1 h9.1), if_neg c1])
            have c2 : ¬ (((frA f hd).held : Int) = 0) := by omega
            have c3 : (((frA f hd).held : Int) == 0) = false := by simpa using c1
            clear HE
            go_wp2_with fail
            go_roundw
            case rel => exact ⟨k + 1, f, h2, by omega, by go_num, HV2, hfl, H2.out, Q9⟩
            case measure => simp [intOf]; omega
        · have d1 : decide ((k : Int) ≤ 2 * (p.f.length : Int)) = false := decide_eq_false (by omega)
          obtain rfl : k = 2 * p.f.length + 1 := by omega
          have EW : Hid (vicN p.f.length (2 * p.f.length + 1) p.f p.hand = (f, hd, p.f.length)) := Lib.hid (by rw [HV.out, Nat.sub_self]; rfl)
          have EI : Hid (vicI p = -1) := Lib.hid (by unfold vicI; rw [EV.out, EW.out]; exact if_neg (Nat.lt_irrefl _))
          have EP : Hid ((vicP p).1 = pAt p f hd) := Lib.hid (by rw [EV.out, EW.out])
          clear hf
          go_wp2_with fail
          go_ret
          exact ⟨by rw [EI.out]; rfl, by rw [EP.out]; exact HQ.out⟩
end
end Go.Proofs.YtmflkkkbahghgaaGreat
namespace Go.Proofs.YtmflkkkbahghgaaGreat
open Go.RowKit Go.Deep
set_option linter.unusedVariables false
set_option linter.unusedSimpArgs false
set_option maxRecDepth 100000

theorem putWX_len {x : Stt} {l : Int} {s : ByteArray} : (putWX x l s).now.length = x.now.length := by
  unfold putWX
  split
  · next h =>
    have hi : inS x.now l := by
      apply Classical.byContradiction
      intro hn
      unfold putWE at h
      split at h
      · cases h
      · exact absurd h (by decide)
    show (wrS x.now l.toNat s).length = _
    unfold wrS
    rw [setS_len]
    have : l.toNat < x.now.length := by
      apply Classical.byContradiction
      intro hn
      have := hi.2
      rw [isS_out (by omega)] at this
      cases this
    omega
  · rfl
theorem putWX_old {x : Stt} {l : Int} {s : ByteArray} : (putWX x l s).old = x.old ∧ (putWX x l s).many = x.many ∧ (putWX x l s).ep = x.ep := by
  unfold putWX
  split <;> exact ⟨rfl, rfl, rfl⟩
theorem bakP_x (p : Plt) (i : Nat) : (bakP p i).x.now.length = p.x.now.length ∧ (bakP p i).x.old = p.x.old ∧ (bakP p i).x.many = p.x.many ∧ (bakP p i).x.ep = p.x.ep := by
  unfold bakP
  split
  · exact ⟨putWX_len, putWX_old.1, putWX_old.2.1, putWX_old.2.2⟩
  · exact ⟨rfl, rfl, rfl, rfl⟩
theorem OkR.bak {p : Plt} (h : OkR p) (i : Nat) : OkR (bakP p i) := by
  obtain ⟨e1, e2, e3, e4⟩ := bakP_x p i
  refine ⟨by rw [e1]; exact h.now, by rw [e2]; exact h.old, by rw [e3]; exact h.many, by rw [e4]; exact h.ep, by rw [bakP_len]; exact h.len, by rw [bakP_hand, bakP_len]; exact h.hand, fun k => ?_, fun k => ?_⟩
  · rw [(bakP_at p i k).2.1]; exact h.held k
  · rw [(bakP_at p i k).2.2.1]; exact h.b k
theorem vicP_at (p : Plt) (i : Nat) : (frA (vicP p).1.f i).pg = (frA p.f i).pg ∧ (frA (vicP p).1.f i).held = (frA p.f i).held ∧ (frA (vicP p).1.f i).b = (frA p.f i).b ∧ (frA (vicP p).1.f i).di = (frA p.f i).di := by
  unfold vicP
  split
  · exact ⟨rfl, rfl, rfl, rfl⟩
  · exact vicN_at _ _ _ _ _
theorem vicP_len (p : Plt) : (vicP p).1.f.length = p.f.length := by
  unfold vicP
  split
  · rfl
  · exact vicN_len _ _ _ _
theorem vicP_x (p : Plt) : (vicP p).1.x = p.x := by
  unfold vicP
  split <;> rfl
theorem OkR.vic {p : Plt} (h : OkR p) : OkR (vicP p).1 := by
  refine ⟨by rw [vicP_x]; exact h.now, by rw [vicP_x]; exact h.old, by rw [vicP_x]; exact h.many, by rw [vicP_x]; exact h.ep, by rw [vicP_len]; exact h.len, ?_, fun k => ?_, fun k => ?_⟩
  · rw [vicP_len]
    unfold vicP
    split
    · exact h.hand
    · exact vicN_hand _ (by have := h.hand; omega) _ _ _ h.hand
  · rw [(vicP_at p k).2.1]; exact h.held k
  · rw [(vicP_at p k).2.2.1]; exact h.b k
section
variable {base Q R : Nat} {p : Plt} {u : World}
set_option maxHeartbeats 3200000 in
theorem rlet15_any (h : RPl base Q R p u) (ok : OkR p) (hbase : base ≤ u.heap.size) (l : Int) : Calls Tryz.prog 33 #[.pointer (some ⟨R, 0, none⟩), .int .i64 l] u fun r u' => r = .returned (.int .i64 (pinE p l)) ∧ RQ base Q R (letP p l) u u' := by
  obtain ⟨i0, hi0, hz0, hz1, hz2⟩ := info_parts infoFrame15
  obtain ⟨a, c, x0, x1, x2, hf, f0, f1, f2⟩ := h.cells
  have HF := Lib.hid (rfind15_any h ok.len.2 l)
  have H := Lib.hid h
  have OK := Lib.hid ok
  have HBASE := Lib.hid hbase
  have hlen := ok.len
  have F := Lib.hid hf
  have ST := Lib.hid (h.stays (Below.refl _ _))
  clear h x2 f2 ok hbase hf
  go_enter Tryz.func33, Tryz.ntmps33
  go_wp2_with fail
  refine (HF.out).mono ?_
  rintro r w1 ⟨rfl, e1⟩
  rw [e1]
  clear HF e1 w1
  by_cases hlt : fndF p.f l < p.f.length
  · have EF : Hid (fndI p.f l = (fndF p.f l : Int)) := Lib.hid (if_pos hlt)
    rw [EF.out]
    generalize hi : fndF p.f l = i at *
    have HI := Lib.hid hi
    clear hi
    obtain ⟨b, ha, y0, y1, y2, y3, y4⟩ := FRow.look F.out hlt
    subst ha
    have hj1 : (i : Int) < (p.f.length : Int) := by omega
    have hj2 : (0 : Int) ≤ (i : Int) := by omega
    have hj3 : ¬ ((i : Int) < 0) := by omega
    by_cases hz : (frA p.f i).held = 0
    · have E1 : Hid (pinE p l = 16) := Lib.hid (by unfold pinE; rw [HI.out, hz]; exact if_neg fun h9 => absurd h9.2 (by decide))
      have E2 : Hid (letP p l = p) := Lib.hid (by unfold letP; rw [E1.out]; rfl)
      rw [hz] at y2
      clear hz
      go_wp2_with fail
      go_ret
      exact ⟨by rw [E1.out]; rfl, by rw [E2.out]; exact ST.out⟩
    · have E1 : Hid (pinE p l = 0) := Lib.hid (by unfold pinE; rw [HI.out]; exact if_pos ⟨hlt, by omega⟩)
      have E2 : Hid (letP p l = { p with f := p.f.set i { frA p.f i with held := (frA p.f i).held - 1 } }) := Lib.hid (by unfold letP; rw [E1.out, HI.out]; rfl)
      have hz2' : ¬ (((frA p.f i).held : Int) = 0) := by omega
      have hh := OK.out.held i
      obtain ⟨m, hm⟩ : ∃ m, (frA p.f i).held = m + 1 := ⟨(frA p.f i).held - 1, by omega⟩
      have E3 : Hid ((frA p.f i).held - 1 = m) := Lib.hid (by omega)
      rw [E3.out] at E2
      rw [hm] at y2 hz2'
      have X0 := Lib.hid (heap_alloc_new u (frC { frA p.f i with held := m }))
      have Q0 := Lib.hid (H.out.stays (balloc u (frC { frA p.f i with held := m })))
      have HW : Hid (wrap64 (m : Int) = (m : Int)) := Lib.hid (by unfold wrap64; omega)
      have d1 : decide ((i : Int) < 0) = false := decide_eq_false hj3
      have d2 : (((m : Int) + 1) == 0) = false := by
        rw [beq_eq_false_iff_ne]
        omega
      clear hz hm hh E3
      go_upto_region 6 with fail
      rw [HW.out]
      obtain ⟨C, hC⟩ : ∃ C, C = u.heap.size := ⟨_, rfl⟩
      rw [← hC] at X0 ⊢
      clear hC HW x0 f0 f1 x1 y0 y1 y2 y3 y4
      generalize u.alloc (frC { frA p.f i with held := m }) = w8 at *
      have v0 : w8.cell? ⟨C, 0, none⟩ = some (.int .i64 (frA p.f i).pg) := by rw [Lib.cell_of_heap X0.out]; rfl
      have v1 : w8.cell? ⟨C, 1, none⟩ = some (.string (frA p.f i).b) := by rw [Lib.cell_of_heap X0.out]; rfl
      have v2 : w8.cell? ⟨C, 2, none⟩ = some (.int .i64 (m : Int)) := by rw [Lib.cell_of_heap X0.out]; rfl
      have v3 : w8.cell? ⟨C, 3, none⟩ = some (.bool (frA p.f i).di) := by rw [Lib.cell_of_heap X0.out]; rfl
      have v4 : w8.cell? ⟨C, 4, none⟩ = some (.bool (frA p.f i).us) := by rw [Lib.cell_of_heap X0.out]; rfl
      have HT := Lib.hid (rset15_any Q0.out.1 hlen.2 (Nat.le_trans HBASE.out Q0.out.2.1.size) i hlt { frA p.f i with held := m })
      go_wp2_with fail
      refine (HT.out).mono ?_
      rintro r w10 ⟨rfl, hq⟩
      have FF : Hid (RQ base Q R (letP p l) u w10) := Lib.hid (by rw [E2.out]; exact Q0.out.trans hq)
      clear hq v0 v1 v2 v3 v4
      go_wp2_with fail
      go_ret
      exact ⟨by rw [E1.out]; rfl, FF.out⟩
  · have E0 : Hid (fndI p.f l = -1) := Lib.hid (if_neg hlt)
    have E1 : Hid (pinE p l = 16) := Lib.hid (if_neg fun h9 => hlt h9.1)
    have E2 : Hid (letP p l = p) := Lib.hid (by unfold letP; rw [E1.out]; rfl)
    rw [E0.out]
    go_wp2_with fail
    go_ret
    exact ⟨by rw [E1.out]; rfl, by rw [E2.out]; exact ST.out⟩
end
end Go.Proofs.YtmflkkkbahghgaaGreat
namespace Go.Proofs.YtmflkkkbahghgaaGreat
open Go.RowKit Go.Deep
set_option linter.unusedVariables false
set_option linter.unusedSimpArgs false
set_option maxRecDepth 100000

section
variable {base Q R : Nat} {p : Plt} {u : World}
set_option maxHeartbeats 3200000 in
theorem rhold15_any (h : RPl base Q R p u) (ok : OkR p) (hbase : base ≤ u.heap.size) (l : Int) : Calls Tryz.prog 32 #[.pointer (some ⟨R, 0, none⟩), .int .i64 l] u fun r u' => r = .returned (.tuple #[.string (holR p l).2.1, .int .i64 (holR p l).2.2]) ∧ RQ base Q R (holR p l).1 u u' := by
  obtain ⟨i0, hi0, hz0, hz1, hz2⟩ := info_parts infoFrame15
  obtain ⟨a, c, x0, x1, x2, hf, f0, f1, f2⟩ := h.cells
  have HF := Lib.hid (rfind15_any h ok.len.2 l)
  have HRD := Lib.hid (rread15_any h ok.now l)
  have HV := Lib.hid (rvictim15_any h ok hbase)
  have H := Lib.hid h
  have OK := Lib.hid ok
  have HBASE := Lib.hid hbase
  have hlen := ok.len
  have F := Lib.hid hf
  have ST := Lib.hid (h.stays (Below.refl _ _))
  clear h x2 f2 ok hbase hf
  go_enter Tryz.func32, Tryz.ntmps32
  go_wp2_with fail
  refine (HF.out).mono ?_
  rintro r w1 ⟨rfl, e1⟩
  rw [e1]
  clear HF e1 w1
  by_cases hlt : fndF p.f l < p.f.length
  · have EF : Hid (fndI p.f l = (fndF p.f l : Int)) := Lib.hid (if_pos hlt)
    have ER : Hid (holR p l = ({ p with f := p.f.set (fndF p.f l) { frA p.f (fndF p.f l) with held := (frA p.f (fndF p.f l)).held + 1, us := true } }, (frA p.f (fndF p.f l)).b, 0)) := Lib.hid (if_pos hlt)
    rw [EF.out]
    generalize hi : fndF p.f l = i at *
    clear hi EF HRD HV
    obtain ⟨b, ha, y0, y1, y2, y3, y4⟩ := FRow.look F.out hlt
    subst ha
    have hj1 : (i : Int) < (p.f.length : Int) := by omega
    have hj2 : (0 : Int) ≤ (i : Int) := by omega
    have d1 : decide ((0 : Int) ≤ (i : Int)) = true := decide_eq_true hj2
    have hh := OK.out.held i
    generalize hm : (frA p.f i).held = m at *
    have HW : Hid (wrap64 ((m : Int) + 1) = ((m + 1 : Nat) : Int)) := Lib.hid (by unfold wrap64; omega)
    have X0 := Lib.hid (heap_alloc_new u (frC { frA p.f i with held := m + 1, us := true }))
    have Q0 := Lib.hid (H.out.stays (balloc u (frC { frA p.f i with held := m + 1, us := true })))
    clear hm hh
    go_upto_region 6 with fail
    rw [HW.out]
    obtain ⟨C, hC⟩ : ∃ C, C = u.heap.size := ⟨_, rfl⟩
    rw [← hC] at X0 ⊢
    have CN : Hid (C ≠ Q ∧ C ≠ R) := Lib.hid ⟨by have := H.out.st.lt; omega, by have := H.out.lt; omega⟩
    clear hC HW x0 f0 f1 x1 y0 y1 y2 y3 y4
    generalize u.alloc (frC { frA p.f i with held := m + 1, us := true }) = w8 at *
    have v0 : w8.cell? ⟨C, 0, none⟩ = some (.int .i64 (frA p.f i).pg) := by rw [Lib.cell_of_heap X0.out]; rfl
    have v1 : w8.cell? ⟨C, 1, none⟩ = some (.string (frA p.f i).b) := by rw [Lib.cell_of_heap X0.out]; rfl
    have v2 : w8.cell? ⟨C, 2, none⟩ = some (.int .i64 ((m + 1 : Nat) : Int)) := by rw [Lib.cell_of_heap X0.out]; rfl
    have v3 : w8.cell? ⟨C, 3, none⟩ = some (.bool (frA p.f i).di) := by rw [Lib.cell_of_heap X0.out]; rfl
    have v4 : w8.cell? ⟨C, 4, none⟩ = some (.bool true) := by rw [Lib.cell_of_heap X0.out]; rfl
    have HT := Lib.hid (rset15_any Q0.out.1 hlen.2 (Nat.le_trans HBASE.out Q0.out.2.1.size) i hlt { frA p.f i with held := m + 1, us := true })
    go_wp2_with fail
    refine (HT.out).mono ?_
    rintro r w10 ⟨rfl, hq⟩
    have FF : Hid (RQ base Q R (holR p l).1 u w10) := Lib.hid (by rw [ER.out]; exact Q0.out.trans hq)
    have X10 := Lib.hid ((hq.2.1.blk (lt_of_block X0.out) (R2.no CN.out.1 CN.out.2)).trans X0.out)
    have z1 : w10.cell? ⟨C, 1, none⟩ = some (.string (frA p.f i).b) := by rw [Lib.cell_of_heap X10.out]; rfl
    clear hq v0 v1 v2 v3 v4
    go_wp2_with fail
    go_ret2
    exact ⟨by rw [ER.out]; rfl, FF.out⟩
  · have E0 : Hid (fndI p.f l = -1) := Lib.hid (if_neg hlt)
    rw [E0.out]
    by_cases hin : inS p.x.now l
    · have ER : Hid (holR p l = newR p l (slA p.x.now l.toNat).b) := Lib.hid (by unfold holR; rw [if_neg hlt, if_pos hin])
      have RB : Hid (reaB p.x l = (slA p.x.now l.toNat).b ∧ reaE p.x l = 0) := Lib.hid ⟨if_pos hin, if_pos hin⟩
      rw [RB.out.1, RB.out.2] at HRD
      generalize (slA p.x.now l.toNat).b = bb at *
      clear hin x0 x1 f0 f1
      go_wp2_with fail
      refine (HRD.out).mono ?_
      rintro r w1 ⟨rfl, e1⟩
      rw [e1]
      clear HRD e1 w1
      go_wp2_with fail
      refine (HV.out).mono ?_
      rintro r w1 ⟨rfl, hq⟩
      have Q1' := Lib.hid hq
      clear HV hq
      by_cases hv : (vicP p).2 < p.f.length
      · have EV : Hid (vicI p = ((vicP p).2 : Int)) := Lib.hid (if_pos hv)
        rw [EV.out]
        generalize hi : (vicP p).2 = i at *
        have HI := Lib.hid hi
        have HB := Lib.hid (rback15_any Q1'.out.1 OK.out.vic (Nat.le_trans HBASE.out Q1'.out.2.1.size) i (by rw [vicP_len]; exact hv))
        have d1 : decide ((i : Int) < 0) = false := decide_eq_false (by omega)
        have hi0' : ¬ ((i : Int) < 0) := by omega
        clear hi EV
        go_wp2_with fail
        refine (HB.out).mono ?_
        rintro r w2 ⟨rfl, hq⟩
        have Q2 := Lib.hid (Q1'.out.trans hq)
        clear HB hq
        by_cases he : bakE (vicP p).1 i = 0
        · rw [he]
          have EN : Hid (newR p l bb = ({ bakP (vicP p).1 i with f := (bakP (vicP p).1 i).f.set i ⟨l, bb, 1, false, true⟩ }, bb, 0)) := Lib.hid (by unfold newR; rw [HI.out, if_pos hv, if_pos he])
          have HT := Lib.hid (rset15_any Q2.out.1 (by rw [bakP_len, vicP_len]; exact hlen.2) (Nat.le_trans HBASE.out Q2.out.2.1.size) i (by rw [bakP_len, vicP_len]; exact hv) ⟨l, bb, 1, false, true⟩)
          clear he
          go_wp2_with fail
          refine (HT.out).mono ?_
          rintro r w3 ⟨rfl, hq⟩
          have FF : Hid (RQ base Q R (holR p l).1 u w3) := Lib.hid (by rw [ER.out, EN.out]; exact Q2.out.trans hq)
          clear hq
          go_wp2_with fail
          go_ret2
          exact ⟨by rw [ER.out, EN.out]; rfl, FF.out⟩
        · have EN : Hid (newR p l bb = (bakP (vicP p).1 i, ByteArray.empty, bakE (vicP p).1 i)) := Lib.hid (by unfold newR; rw [HI.out, if_pos hv, if_neg he])
          have d2 : (bakE (vicP p).1 i != 0) = true := by simpa using he
          have FF : Hid (RQ base Q R (holR p l).1 u w2) := Lib.hid (by rw [ER.out, EN.out]; exact Q2.out)
          go_wp2_with fail
          go_ret2
          exact ⟨by rw [ER.out, EN.out]; rfl, FF.out⟩
      · have EV : Hid (vicI p = -1) := Lib.hid (if_neg hv)
        rw [EV.out]
        have EN : Hid (newR p l bb = ((vicP p).1, ByteArray.empty, 12)) := Lib.hid (if_neg hv)
        have FF : Hid (RQ base Q R (holR p l).1 u w1) := Lib.hid (by rw [ER.out, EN.out]; exact Q1'.out)
        go_wp2_with fail
        go_ret2
        exact ⟨by rw [ER.out, EN.out]; rfl, FF.out⟩
    · have ER : Hid (holR p l = (p, ByteArray.empty, 3)) := Lib.hid (by unfold holR; rw [if_neg hlt, if_neg hin])
      have RB : Hid (reaB p.x l = ByteArray.empty ∧ reaE p.x l = 3) := Lib.hid ⟨if_neg hin, if_neg hin⟩
      rw [RB.out.1, RB.out.2] at HRD
      clear hin x0 x1 f0 f1 HV
      go_wp2_with fail
      refine (HRD.out).mono ?_
      rintro r w1 ⟨rfl, e1⟩
      rw [e1]
      clear HRD e1 w1
      go_wp2_with fail
      go_ret2
      exact ⟨by rw [ER.out]; rfl, by rw [ER.out]; exact ST.out⟩
end
end Go.Proofs.YtmflkkkbahghgaaGreat
