/- The walk of the law ActHandles, over whatever the program's Handle is known to answer. -/
import Derived.Test.YtplhkplfbcmbdaaYZ27
import Derived.Test.YtplhkplfbcmbdaaYModelRefCheck2
namespace Go.Proofs.Ytplhkplfbcmbdaa
open Go.RowKit Go.Deep
set_option linter.unusedVariables false
set_option maxRecDepth 100000

theorem handA_bad {m : Mdl} {lp : Int} {s : Sta} {e : Evn} (h : chkN m ≠ 0) : handA m lp s e = ⟨sta0, evs0, 0, 15⟩ := if_pos h
theorem handA_good {m : Mdl} {lp : Int} {s : Sta} {e : Evn} (h : chkN m = 0) : handA m lp s e = handH m lp s e := if_neg (by simp [h])
set_option maxHeartbeats 6400000 in
theorem actHandles_core (HAW : Hid (∀ w, Calls Try.prog 10 #[] w fun e w' => e = .returned (.bool true) ∧ Below w.heap.size w w')) (HH : Hid HandleAny)
    (m : Mdl) (vd vp vl vi : Value) (lp : Int) (s : Sta) (vI : Value) (e : Evn) (w : World) (hm : MdlAt m vd vp vl vi w) (hs : Sl 1 (gW s.w) s.nw vI w) (hb : ∀ p k, r64v (m.pr p k).b) (hbd : Bd (beginM (inpOf m lp s e))) :
    Calls Try.prog 4 #[cval m vd vp vl vi lp s vI e] w fun x w' => x = .returned (.bool true) ∧ Below w.heap.size w w' := by
  obtain ⟨aI, cI, rfl, _, _, _⟩ := id hs
  have X1 : Hid ((w.alloc (cbox m vd vp vl vi lp s (.slice aI s.nw cI) e)).heap[w.heap.size]? = some (cbox m vd vp vl vi lp s (.slice aI s.nw cI) e)) := heap_alloc_new w _
  have B1 := Lib.hid (balloc w (cbox m vd vp vl vi lp s (.slice aI s.nw cI) e))
  have HL := Lib.hid (light8c_any m vd vp vl vi lp s aI cI e _ (hm.below B1.out))
  have HA : Hid (∀ u, Below w.heap.size w u → Calls Try.prog 20 #[.agg #[.int .i64 m.seed, .float .f64 m.fin, vd, vp, vl, vi], .int .i64 lp, .agg #[.slice aI s.nw cI, .int .i64 s.sent, .int .i64 s.dice], .agg #[.float .f64 e.t, .int .i64 e.src, .int .i64 e.n, .int .i64 e.dst, .int .i64 e.pay]] u fun x w' => ∃ vs ve, x = .returned (.tuple #[vs, ve, .int .i64 (handA m lp s e).f, .int .i64 (handA m lp s e).e]) ∧ StaAt u.heap.size (handA m lp s e).s vs w' ∧ EvsAt u.heap.size (handA m lp s e).l ve w' ∧ Below u.heap.size u w') := fun u k => HH.out m vd vp vl vi lp s _ e u (hm.below k) (hs.below k) hb hbd
  have HK : Hid (∀ u, Below w.heap.size w u → Calls Try.prog 13 #[.agg #[.int .i64 m.seed, .float .f64 m.fin, vd, vp, vl, vi]] u fun x w' => x = .returned (.int .i64 (chkN m)) ∧ Below u.heap.size u w') := fun u k => refCheck_any m vd vp vl vi u (hm.below k)
  have HR : Hid (chkN m = 0 → ∀ u, Below w.heap.size w u → Calls Try.prog 21 #[.agg #[.int .i64 m.seed, .float .f64 m.fin, vd, vp, vl, vi], .int .i64 lp, .agg #[.slice aI s.nw cI, .int .i64 s.sent, .int .i64 s.dice], .agg #[.float .f64 e.t, .int .i64 e.src, .int .i64 e.n, .int .i64 e.dst, .int .i64 e.pay]] u (HPost u m lp s e)) := fun h u k => refHandle8_any m vd vp vl vi lp s _ e u (hm.below k) (hs.below k) h hb hbd
  have HSM : Hid (∀ (b : Sta) (va vb : Value) (u : World), Sl 1 (gW b.w) b.nw va u → Sl 1 (gW b.w) b.nw vb u → Calls Try.prog 17 #[.agg #[va, .int .i64 b.sent, .int .i64 b.dice], .agg #[vb, .int .i64 b.sent, .int .i64 b.dice]] u fun x w' => x = .returned (.bool true) ∧ Below u.heap.size u w') := fun b va vb u h1 h2 => by
    have := refSame8_any b b va vb u h1 h2
    rw [sameW_refl, decide_eq_true rfl, decide_eq_true rfl] at this
    exact this
  have HSE : Hid (∀ (l : Evs) (va vb : Value) (u : World), Sl 5 (gV8 l.f) l.n va u → Sl 5 (gV8 l.f) l.n vb u → Calls Try.prog 15 #[va, vb] u fun x w' => x = .returned (.bool true) ∧ Below u.heap.size u w') := fun l va vb u h1 h2 => sameEv8_refl l va vb u h1 h2
  obtain ⟨k0, k1, k2, k3, k4, k5, k6, k7, k8, k9, k10, k11, k12, k13, k14⟩ := cbox_cells X1.out
  clear hm hs hb hbd HH
  unfold cval at HL ⊢
  unfold cbox at *
  have hc : chkN m = 0 ∨ chkN m = 15 := by unfold chkN; split <;> simp
  go_enter Try.func4, Try.ntmps4
  go_upto_region 1 with fail
  generalize w.alloc (.cells #[.int .i64 m.seed, .float .f64 m.fin, vd, vp, vl, vi, .int .i64 lp, .slice aI s.nw cI, .int .i64 s.sent, .int .i64 s.dice, .float .f64 e.t, .int .i64 e.src, .int .i64 e.n, .int .i64 e.dst, .int .i64 e.pay] 51) = u at *
  go_wp2_with (first
    | (go_at_call 19; refine HL.out.mono ?_; rintro x u2 ⟨b, rfl, hb2⟩; have B2 := Lib.hid (bthen B1.out hb2); have X2 := Lib.hid ((hb2.block _ (lt_of_block X1.out)).trans X1.out); clear hb2 k0 k1 k2 k3 k4 k5 k6 k7 k8 k9 k10 k11 k12 k13 k14 HL; obtain ⟨k0, k1, k2, k3, k4, k5, k6, k7, k8, k9, k10, k11, k12, k13, k14⟩ := cbox_cells X2.out; cases b)
    | (go_at_call 10; refine (HAW.out _).mono ?_; rintro x w9 ⟨rfl, hb9⟩; have BU := Lib.hid (bthen B2.out hb9); clear hb9))
  · go_ret
    exact ⟨rfl, BU.out⟩
  · refine (HA.out _ B2.out).mono ?_
    rintro x u3 ⟨vs, ve, rfl, h1, h2, hb3⟩
    have B3 := Lib.hid (bthen B2.out hb3)
    have X3 := Lib.hid ((hb3.block _ (lt_of_block X2.out)).trans X2.out)
    have E3 := Lib.hid h2
    obtain ⟨vJ, rfl, h1⟩ := h1
    have S3 := Lib.hid h1
    obtain ⟨aJ, cJ, rfl, _⟩ := id (own_sl h1)
    unfold sval
    clear hb3 h1 h2 k0 k1 k2 k3 k4 k5 k6 k7 k8 k9 k10 k11 k12 k13 k14
    go_upto_region 4 with fail
    have B4 := Lib.hid (bthen B3.out (balloc u3 (.cells #[.slice aJ (handA m lp s e).s.nw cJ, .int .i64 (handA m lp s e).s.sent, .int .i64 (handA m lp s e).s.dice] 37)))
    have X4 := Lib.hid ((Below.heap_alloc u3 (.cells #[.slice aJ (handA m lp s e).s.nw cJ, .int .i64 (handA m lp s e).s.sent, .int .i64 (handA m lp s e).s.dice] 37) _ (lt_of_block X3.out)).trans X3.out)
    have S4 := Lib.hid (own_sl (own_below S3.out (balloc u3 (.cells #[.slice aJ (handA m lp s e).s.nw cJ, .int .i64 (handA m lp s e).s.sent, .int .i64 (handA m lp s e).s.dice] 37))))
    have E4 := Lib.hid (E3.out.below (balloc u3 (.cells #[.slice aJ (handA m lp s e).s.nw cJ, .int .i64 (handA m lp s e).s.sent, .int .i64 (handA m lp s e).s.dice] 37))).sl
    have Y4 := Lib.hid (heap_alloc_new u3 (.cells #[.slice aJ (handA m lp s e).s.nw cJ, .int .i64 (handA m lp s e).s.sent, .int .i64 (handA m lp s e).s.dice] 37))
    clear S3 E3 X3 HA
    generalize u3.alloc (.cells #[.slice aJ (handA m lp s e).s.nw cJ, .int .i64 (handA m lp s e).s.sent, .int .i64 (handA m lp s e).s.dice] 37) = u4 at *
    generalize u3.heap.size = yb at *
    obtain ⟨k0, k1, k2, k3, k4, k5, k6, k7, k8, k9, k10, k11, k12, k13, k14⟩ := cbox_cells X4.out
    by_cases h0 : chkN m = 0
    · have HR2 := Lib.hid (HR.out h0)
      rw [handA_good h0] at Y4 S4 E4
      rw [handA_good h0]
      rw [h0] at HK
      have HPO : Hid (∀ u x w', HPost u m lp s e x w' = ∃ vs ve, x = .returned (.tuple #[sval (handH m lp s e).s vs, ve, .int .i64 (handH m lp s e).f, .int .i64 (handH m lp s e).e]) ∧ Sl 1 (gW (handH m lp s e).s.w) (handH m lp s e).s.nw vs w' ∧ Sl 5 (gV8 (handH m lp s e).l.f) (handH m lp s e).l.n ve w' ∧ Below u.heap.size u w') := fun _ _ _ => rfl
      clear h0 HR hc
      generalize handH m lp s e = h at *
      obtain ⟨hs9, hl9, hf9, he9⟩ := h
      simp only at *
      go_wp2_with (go_at_call 13; refine (HK.out _ B4.out).mono ?_; rintro x u5 ⟨rfl, hb5⟩; have B5 := Lib.hid (bthen B4.out hb5); have BU5 := Lib.hid hb5; clear hb5 k0 k1 k2 k3 k4 k5 k6 k7 k8 k9 k10 k11 k12 k13 k14; obtain ⟨k0, k1, k2, k3, k4, k5, k6, k7, k8, k9, k10, k11, k12, k13, k14⟩ := cbox_cells ((BU5.out.block _ (lt_of_block X4.out)).trans X4.out))
      refine (HR2.out _ B5.out).mono ?_
      intro x u6 hpo
      rw [HPO.out] at hpo
      obtain ⟨vt, vf, rfl, t1, t2, hb6⟩ := hpo
      have B6 := Lib.hid (bthen B5.out hb6)
      have BU6 := Lib.hid (bthen BU5.out hb6)
      have S6 := Lib.hid t1
      have E6 := Lib.hid t2
      obtain ⟨at_, ct, rfl, _⟩ := id t1
      unfold sval
      clear hb6 t1 t2 k0 k1 k2 k3 k4 k5 k6 k7 k8 k9 k10 k11 k12 k13 k14
      go_upto_region 7 with fail
      have B7 := Lib.hid (bthen B6.out (balloc u6 (.cells #[.slice at_ hs9.nw ct, .int .i64 hs9.sent, .int .i64 hs9.dice] 37)))
      have BU7 := Lib.hid (bthen BU6.out (balloc u6 (.cells #[.slice at_ hs9.nw ct, .int .i64 hs9.sent, .int .i64 hs9.dice] 37)))
      have S7 := Lib.hid (S6.out.below (balloc u6 (.cells #[.slice at_ hs9.nw ct, .int .i64 hs9.sent, .int .i64 hs9.dice] 37)))
      have E7 := Lib.hid (E6.out.below (balloc u6 (.cells #[.slice at_ hs9.nw ct, .int .i64 hs9.sent, .int .i64 hs9.dice] 37)))
      have Z7 := Lib.hid (heap_alloc_new u6 (.cells #[.slice at_ hs9.nw ct, .int .i64 hs9.sent, .int .i64 hs9.dice] 37))
      clear S6 E6
      generalize u6.alloc (.cells #[.slice at_ hs9.nw ct, .int .i64 hs9.sent, .int .i64 hs9.dice] 37) = u7 at *
      generalize u6.heap.size = zb at *
      have Y7 := Lib.hid ((BU7.out.block _ (lt_of_block Y4.out)).trans Y4.out)
      have T7 := Lib.hid (S4.out.below BU7.out)
      have F7 := Lib.hid (E4.out.below BU7.out)
      have g1 : (he9 == he9) = true := by simp
      have g2 : (hf9 == hf9) = true := by simp
      have B8 := Lib.hid (Below.refl u7.heap.size u7)
      go_wp2_with (first
        | (go_at_call 10; refine (HAW.out _).mono ?_; rintro x w9 ⟨rfl, hb9⟩; have B8 := Lib.hid hb9; clear hb9; obtain ⟨y0, y1, y2⟩ := three_cells8 ((B8.out.block _ (lt_of_block Y7.out)).trans Y7.out); obtain ⟨z0, z1, z2⟩ := three_cells8 ((B8.out.block _ (lt_of_block Z7.out)).trans Z7.out))
        | (go_at_call 17; refine (HSM.out hs9 _ _ _ (T7.out.below B8.out) (S7.out.below B8.out)).mono ?_; rintro x w10 ⟨rfl, hb10⟩; have B8 := Lib.hid (bthen B8.out hb10); clear hb10)
        | (go_at_call 15; refine (HSE.out hl9 _ _ _ (F7.out.below B8.out) (E7.out.below B8.out)).mono ?_; rintro x w11 ⟨rfl, hb11⟩; have B8 := Lib.hid (bthen B8.out hb11); clear hb11))
      go_ret
      exact ⟨rfl, bthen B7.out B8.out⟩
    · have h15 : chkN m = 15 := hc.resolve_left h0
      rw [handA_bad h0] at E4 Y4
      rw [handA_bad h0]
      dsimp only [evs0, sta0] at E4 ⊢
      rw [h15] at HK
      clear h0 h15 hc HR
      obtain ⟨al, cl, e9, _⟩ := id E4.out
      subst e9
      go_wp2_with (first
        | (go_at_call 13; refine (HK.out _ B4.out).mono ?_; rintro x u5 ⟨rfl, hb5⟩; have BU := Lib.hid (bthen B4.out hb5); clear hb5)
        | (go_at_call 10; refine (HAW.out _).mono ?_; rintro x w9 ⟨rfl, hb9⟩; have BU := Lib.hid (bthen BU.out hb9); clear hb9))
      go_ret
      exact ⟨rfl, BU.out⟩

end Go.Proofs.Ytplhkplfbcmbdaa
