/- The walk of the law ActLater, over whatever the program's Handle is known to answer. -/
import Derived.Test.YtplhkplfbcmbdaaYActLaterMath
namespace Go.Proofs.Ytplhkplfbcmbdaa
open Go.RowKit Go.Deep
set_option linter.unusedVariables false
set_option maxRecDepth 100000

theorem leqF_gt {x y : Nat} (h : leqF x y = true) : (FloatKind.f64.format.order x y == some Ordering.gt) = false := by
  unfold leqF at h
  cases hq : FloatKind.f64.format.order x y with
  | none => rfl
  | some o => rw [hq] at h; cases o <;> first | rfl | exact absurd h (by decide)
set_option maxHeartbeats 6400000 in
theorem actLater_core (HAW : Hid (∀ w, Calls Try.prog 10 #[] w fun e w' => e = .returned (.bool true) ∧ Below w.heap.size w w')) (HH : Hid HandleAny)
    (m : Mdl) (vd vp vl vi : Value) (lp : Int) (s : Sta) (vI : Value) (e : Evn) (w : World) (hm : MdlAt m vd vp vl vi w) (hs : Sl 1 (gW s.w) s.nw vI w) (hb : ∀ p k, r64v (m.pr p k).b) (hbd : Bd (beginM (inpOf m lp s e))) :
    Calls Try.prog 5 #[cval m vd vp vl vi lp s vI e] w fun x w' => x = .returned (.bool true) ∧ Below w.heap.size w w' := by
  obtain ⟨aI, cI, rfl, _, _, _⟩ := id hs
  obtain ⟨_, ⟨al, cl, rfl, _, _, _⟩, _⟩ := id hm.l
  have HS0 := Lib.hid hs
  have HLH := Lib.hid (handA_later m lp s e)
  have X1 : Hid ((w.alloc (cbox m vd vp (.slice al m.nl cl) vi lp s (.slice aI s.nw cI) e)).heap[w.heap.size]? = some (cbox m vd vp (.slice al m.nl cl) vi lp s (.slice aI s.nw cI) e)) := heap_alloc_new w _
  have B1 := Lib.hid (balloc w (cbox m vd vp (.slice al m.nl cl) vi lp s (.slice aI s.nw cI) e))
  have HL := Lib.hid (light8c_any m vd vp (.slice al m.nl cl) vi lp s aI cI e _ (hm.below B1.out))
  have HA : Hid (∀ u, Below w.heap.size w u → Calls Try.prog 20 #[.agg #[.int .i64 m.seed, .float .f64 m.fin, vd, vp, .slice al m.nl cl, vi], .int .i64 lp, .agg #[.slice aI s.nw cI, .int .i64 s.sent, .int .i64 s.dice], .agg #[.float .f64 e.t, .int .i64 e.src, .int .i64 e.n, .int .i64 e.dst, .int .i64 e.pay]] u fun x w' => ∃ vs ve, x = .returned (.tuple #[vs, ve, .int .i64 (handA m lp s e).f, .int .i64 (handA m lp s e).e]) ∧ StaAt u.heap.size (handA m lp s e).s vs w' ∧ EvsAt u.heap.size (handA m lp s e).l ve w' ∧ Below u.heap.size u w') := fun u k => HH.out m vd vp (.slice al m.nl cl) vi lp s _ e u (hm.below k) (hs.below k) hb hbd
  have HSM : Hid (∀ (b : Sta) (va vb : Value) (u : World), Sl 1 (gW b.w) b.nw va u → Sl 1 (gW b.w) b.nw vb u → Calls Try.prog 17 #[.agg #[va, .int .i64 b.sent, .int .i64 b.dice], .agg #[vb, .int .i64 b.sent, .int .i64 b.dice]] u fun x w' => x = .returned (.bool true) ∧ Below u.heap.size u w') := fun b va vb u h1 h2 => by
    have := refSame8_any b b va vb u h1 h2
    rw [sameW_refl, decide_eq_true rfl, decide_eq_true rfl] at this
    exact this
  obtain ⟨k0, k1, k2, k3, k4, k5, k6, k7, k8, k9, k10, k11, k12, k13, k14⟩ := cbox_cells X1.out
  unfold cval at HL ⊢
  unfold cbox at *
  clear hm hs hb hbd HH
  go_enter Try.func5, Try.ntmps5
  go_upto_region 1 with fail
  generalize w.alloc (.cells #[.int .i64 m.seed, .float .f64 m.fin, vd, vp, .slice al m.nl cl, vi, .int .i64 lp, .slice aI s.nw cI, .int .i64 s.sent, .int .i64 s.dice, .float .f64 e.t, .int .i64 e.src, .int .i64 e.n, .int .i64 e.dst, .int .i64 e.pay] 51) = u at *
  go_wp2_with (first
    | (go_at_call 19; refine HL.out.mono ?_; rintro x u2 ⟨b, rfl, hb2⟩; have B2 := Lib.hid (bthen B1.out hb2); have X2 := Lib.hid ((hb2.block _ (lt_of_block X1.out)).trans X1.out); clear hb2 k0 k1 k2 k3 k4 k5 k6 k7 k8 k9 k10 k11 k12 k13 k14 HL; obtain ⟨k0, k1, k2, k3, k4, k5, k6, k7, k8, k9, k10, k11, k12, k13, k14⟩ := cbox_cells X2.out; cases b)
    | (go_at_call 10; refine (HAW.out _).mono ?_; rintro x w9 ⟨rfl, hb9⟩; have BU := Lib.hid (bthen B2.out hb9); clear hb9))
  · go_ret
    exact ⟨rfl, BU.out⟩
  · refine (HA.out _ B2.out).mono ?_
    rintro x u3 ⟨vs, ve, rfl, h1, h2, hb3⟩
    have B3 := Lib.hid (bthen B2.out hb3)
    have X3 := Lib.hid ((hb3.block _ (lt_of_block X2.out)).trans X2.out)
    have E3 := Lib.hid h2
    obtain ⟨vJ, rfl, h1⟩ := h1
    have S3 := Lib.hid h1
    obtain ⟨aJ, cJ, rfl, _⟩ := id (own_sl h1)
    unfold sval
    clear hb3 h1 h2 k0 k1 k2 k3 k4 k5 k6 k7 k8 k9 k10 k11 k12 k13 k14
    go_upto_region 4 with fail
    have B4 := Lib.hid (bthen B3.out (balloc u3 (.cells #[.slice aJ (handA m lp s e).s.nw cJ, .int .i64 (handA m lp s e).s.sent, .int .i64 (handA m lp s e).s.dice] 37)))
    have X4 := Lib.hid ((Below.heap_alloc u3 (.cells #[.slice aJ (handA m lp s e).s.nw cJ, .int .i64 (handA m lp s e).s.sent, .int .i64 (handA m lp s e).s.dice] 37) _ (lt_of_block X3.out)).trans X3.out)
    have S4 := Lib.hid (own_sl (own_below S3.out (balloc u3 (.cells #[.slice aJ (handA m lp s e).s.nw cJ, .int .i64 (handA m lp s e).s.sent, .int .i64 (handA m lp s e).s.dice] 37))))
    have E4 := Lib.hid (E3.out.below (balloc u3 (.cells #[.slice aJ (handA m lp s e).s.nw cJ, .int .i64 (handA m lp s e).s.sent, .int .i64 (handA m lp s e).s.dice] 37))).sl
    have Y4 := Lib.hid (heap_alloc_new u3 (.cells #[.slice aJ (handA m lp s e).s.nw cJ, .int .i64 (handA m lp s e).s.sent, .int .i64 (handA m lp s e).s.dice] 37))
    clear S3 E3 X3 HA
    generalize u3.alloc (.cells #[.slice aJ (handA m lp s e).s.nw cJ, .int .i64 (handA m lp s e).s.sent, .int .i64 (handA m lp s e).s.dice] 37) = u4 at *
    generalize u3.heap.size = yb at *
    obtain ⟨k0, k1, k2, k3, k4, k5, k6, k7, k8, k9, k10, k11, k12, k13, k14⟩ := cbox_cells X4.out
    generalize handA m lp s e = h at *
    obtain ⟨hs9, hl9, hf9, he9⟩ := h
    simp only at *
    have BZ := Lib.hid (Below.refl u4.heap.size u4)
    by_cases he : he9 = 0
    · by_cases hf : hf9 = 0
      · subst he
        subst hf
        obtain ⟨l1, l2, l3, l4, l5, l6, l7, l8, l9, l10, l11⟩ := HLH.out.good rfl rfl
        have L1 := Lib.hid l1
        have L2 := Lib.hid l2
        obtain ⟨ae, ce, rfl, _, _, ke⟩ := id E4.out
        have KE := Lib.hid ke
        obtain ⟨y0, y1, y2⟩ := three_cells8 Y4.out
        have N9 := Lib.hid l9
        clear HLH l1 l2 ke l9
        go_wp2_with fail
        go_loopw [7, 8] (fun nv iv wr => ∃ j : Nat, j ≤ hl9.n ∧ iv = .int .i64 j ∧ nv = .int .i64 (if j = 0 then s.sent else (hl9.f (j - 1)).n + 1) ∧ Below u4.heap.size u4 wr) (fun _ iv _ => hl9.n - (intOf iv).toNat)
        case atStart => exact ⟨0, Nat.zero_le _, rfl, rfl, Below.refl _ _⟩
        case round =>
          obtain ⟨j, hj, rfl, rfl, hl⟩ := hrel
          have HLB := Lib.hid hl
          clear k0 k1 k2 k3 k4 k5 k6 k7 k8 k9 k10 k11 k12 k13 k14 y0 y1 y2
          obtain ⟨k0, k1, k2, k3, k4, k5, k6, k7, k8, k9, k10, k11, k12, k13, k14⟩ := cbox_cells ((hl.block _ (lt_of_block X4.out)).trans X4.out)
          obtain ⟨y0, y1, y2⟩ := three_cells8 ((hl.block _ (lt_of_block Y4.out)).trans Y4.out)
          by_cases hlt : j < hl9.n
          · obtain ⟨b, o, rfl, hat⟩ := KE.out (by omega)
            have hA := hat.below hl
            have c0 : wr.cell? ⟨b, o + j * 5, none⟩ = some (.float .f64 (hl9.f j).t) := hA.2 j hlt 0 (by omega)
            have c1 : wr.cell? ⟨b, o + j * 5 + 1, none⟩ = some (.int .i64 (hl9.f j).src) := hA.2 j hlt 1 (by omega)
            have c2 : wr.cell? ⟨b, o + j * 5 + 2, none⟩ = some (.int .i64 (hl9.f j).n) := hA.2 j hlt 2 (by omega)
            have c3 : wr.cell? ⟨b, o + j * 5 + 3, none⟩ = some (.int .i64 (hl9.f j).dst) := hA.2 j hlt 3 (by omega)
            have hE := L1.out j hlt
            have hj2 : (j : Int) < (hl9.n : Int) := by omega
            have hj0 : (0 : Int) ≤ (j : Int) := by omega
            have hjt : ((j : Nat) : Int).toNat = j := by omega
            have dn : decide ((hl9.f j).n < (if j = 0 then s.sent else (hl9.f (j - 1)).n + 1)) = false := by
              rw [decide_eq_false_iff_not]
              by_cases c : j = 0
              · rw [if_pos c]; have := hE.lo; omega
              · rw [if_neg c]
                have := L2.out (j - 1) (by omega)
                rw [show j - 1 + 1 = j by omega] at this
                omega
            have dt : (FloatKind.f64.format.order (hl9.f j).t e.t == some Ordering.gt) = true := by rw [ord_gt, decide_eq_true_eq]; exact ⟨hE.num, N9.out, hE.later⟩
            have df : (FloatKind.f64.format.order (hl9.f j).t m.fin == some Ordering.gt) = false := leqF_gt hE.fin
            have ds : ((hl9.f j).src != lp) = false := by simp [hE.src]
            have du : decide (hs9.sent ≤ (hl9.f j).n) = false := by rw [decide_eq_false_iff_not]; have := hE.up; omega
            have d0 : decide ((hl9.f j).dst < 0) = false := by rw [decide_eq_false_iff_not]; have := hE.dst; omega
            have d1 : decide ((m.nl : Int) ≤ (hl9.f j).dst) = false := by rw [decide_eq_false_iff_not]; have := hE.dst; omega
            have b1 : -9223372036854775808 ≤ (hl9.f j).n + 1 := by have := hE.lo; omega
            have b2 : (hl9.f j).n + 1 ≤ 9223372036854775807 := by have := hE.up; omega
            generalize (if j = 0 then s.sent else (hl9.f (j - 1)).n + 1) = nv at *
            clear hA hat hE
            go_wp2_with fail
            go_region
            go_wp2_with fail
            go_roundw
            case rel => exact ⟨j + 1, by omega, by go_num, by rw [if_neg (by omega), Nat.add_sub_cancel], HLB.out.drew⟩
            case measure => simp [intOf]; omega
          · obtain rfl : j = hl9.n := by omega
            have g1 : decide (s.sent ≤ hs9.sent) = true := by simp [l3]
            have g2 : decide (s.dice ≤ hs9.dice) = true := by simp [l4]
            generalize (if hl9.n = 0 then s.sent else (hl9.f (hl9.n - 1)).n + 1) = nv at *
            have BZ := HLB
            clear hl
            go_wp2_with (go_at_call 10; refine (HAW.out _).mono ?_; rintro x w9 ⟨rfl, hb9⟩; have BZ := Lib.hid (bthen BZ.out hb9); clear hb9 k0 k1 k2 k3 k4 k5 k6 k7 k8 k9 k10 k11 k12 k13 k14 y0 y1 y2; obtain ⟨k0, k1, k2, k3, k4, k5, k6, k7, k8, k9, k10, k11, k12, k13, k14⟩ := cbox_cells ((BZ.out.block _ (lt_of_block X4.out)).trans X4.out); obtain ⟨y0, y1, y2⟩ := three_cells8 ((BZ.out.block _ (lt_of_block Y4.out)).trans Y4.out))
            go_ret
            exact ⟨rfl, bthen B4.out BZ.out⟩
      · subst he
        have df : (hf9 != 0) = true := by simp [hf]
        obtain ⟨l1, l2⟩ := HLH.out.bad (.inr hf)
        have l3 : hs9 = s := l2.resolve_left (by simp)
        subst l3
        obtain ⟨ae, ce, rfl, _⟩ := id E4.out
        rw [l1]
        clear HLH hf l2 l1
        go_wp2_with (first
          | (go_at_call 10; refine (HAW.out _).mono ?_; rintro x w9 ⟨rfl, hb9⟩; have BZ := Lib.hid (bthen BZ.out hb9); clear hb9 k0 k1 k2 k3 k4 k5 k6 k7 k8 k9 k10 k11 k12 k13 k14; obtain ⟨k0, k1, k2, k3, k4, k5, k6, k7, k8, k9, k10, k11, k12, k13, k14⟩ := cbox_cells ((BZ.out.block _ (lt_of_block X4.out)).trans X4.out); obtain ⟨y0, y1, y2⟩ := three_cells8 ((BZ.out.block _ (lt_of_block Y4.out)).trans Y4.out))
          | (go_at_call 17; refine (HSM.out _ _ _ _ (S4.out.below BZ.out) (HS0.out.below (bthen B4.out BZ.out))).mono ?_; rintro x w10 ⟨rfl, hb10⟩; have BZ := Lib.hid (bthen BZ.out hb10); clear hb10))
        go_ret
        exact ⟨rfl, bthen B4.out BZ.out⟩
    · have de : (he9 != 0) = true := by simp [he]
      obtain ⟨l1, l2⟩ := HLH.out.bad (.inl he)
      obtain ⟨ae, ce, rfl, _⟩ := id E4.out
      rw [l1]
      clear HLH he l2 l1
      go_wp2_with (go_at_call 10; refine (HAW.out _).mono ?_; rintro x w9 ⟨rfl, hb9⟩; have BZ := Lib.hid (bthen BZ.out hb9); clear hb9)
      go_ret
      exact ⟨rfl, bthen B4.out BZ.out⟩

end Go.Proofs.Ytplhkplfbcmbdaa
