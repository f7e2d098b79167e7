/- The walk of ModelioBack. -/
import Derived.Test.YtemhbcjpgapjkaaMioAwake
import Derived.Test.YtemhbcjpgapjkaaMioLight
namespace Go.Proofs.Ytemhbcjpgapjkaa
open Go.RowKit
set_option linter.unusedVariables false
set_option maxRecDepth 100000

theorem lay_size {m : Mdl} (hm : mayB m = true) : (layM m).size ≤ 100000000 := by
  obtain ⟨c1, c2, c3, c4, c5, c6⟩ := may_counts hm
  have l1 : (lsW m.nd fun i => [((m.d i : Nat) : Int)]).length ≤ 1 + m.nd * 1 := lsW_len fun k hk => by simp
  have l2 : (lsW m.np fun i => prW (m.pr i) (m.pl i)).length ≤ 1 + m.np * 200 := lsW_len fun k hk => by
    have := c5 k hk
    have h2 : (prW (m.pr k) (m.pl k)).length ≤ 1 + m.pl k * 4 := lsW_len fun k hk => by simp [insW]
    omega
  have l3 : (lsW m.nl fun i => lpW (m.lp i) (m.wd i) (m.wl i)).length ≤ 1 + m.nl * 200 := lsW_len fun k hk => by
    have := c6 k hk
    have h2 : (wdW (m.wd k) (m.wl k)).length ≤ 1 + m.wl k * 1 := lsW_len fun k hk => by simp
    unfold lpW
    simp only [List.length_cons]
    omega
  have l4 : (lsW m.ni fun i => evW (m.ev i)).length ≤ 1 + m.ni * 3 := lsW_len fun k hk => by simp [evW]
  unfold layM
  rw [strOfNums_size, byW_len]
  unfold mdlW
  simp only [List.length_cons, List.length_append]
  omega

set_option maxHeartbeats 3200000 in
theorem modelioBack_core (seed : Int) (fin : Nat) (vd vp vl vi : Value) (lt : Bool) (S : ByteArray) (bad : Bool) (w : World)
    (HL : Hid (∀ w2, Below w.heap.size w w2 → Calls Try.prog 8 #[.agg #[.int .i64 seed, .float .f64 fin, vd, vp, vl, vi]] w2 fun e w' => e = .returned (.bool lt) ∧ Below w2.heap.size w2 w'))
    (HP : Hid (∀ w2, Below w.heap.size w w2 → Calls Try.prog 10 #[.agg #[.int .i64 seed, .float .f64 fin, vd, vp, vl, vi]] w2 fun e w' => e = .returned (.tuple #[.string S, .int .i64 (if bad then 15 else 0)]) ∧ Below w2.heap.size w2 w'))
    (HG : Hid (bad = false → ∀ w2, Calls Try.prog 13 #[.string S] w2 fun e w' => ∃ s2 f2 ad nd cd ap np cp al nl cl ai ni ci, e = .returned (.tuple #[.agg #[.int .i64 s2, .float .f64 f2, .slice ad nd cd, .slice ap np cp, .slice al nl cl, .slice ai ni ci], .int .i64 0]) ∧ Below w2.heap.size w2 w' ∧
      ∀ w3, Below w'.heap.size w' w3 → Below w.heap.size w w3 → Calls Try.prog 15 #[.agg #[.int .i64 s2, .float .f64 f2, .slice ad nd cd, .slice ap np cp, .slice al nl cl, .slice ai ni ci], .agg #[.int .i64 seed, .float .f64 fin, vd, vp, vl, vi]] w3 fun e w' => e = .returned (.bool true) ∧ Below w3.heap.size w3 w')) :
    Calls Try.prog 5 #[.agg #[.int .i64 seed, .float .f64 fin, vd, vp, vl, vi]] w fun e w' => e = .returned (.bool true) ∧ Below w.heap.size w w' := by
  have hsf := store_float
  have HAW := Lib.hid awake6_any
  have HX := Lib.hid (Box6.new (.int .i64 seed) (.float .f64 fin) vd vp vl vi 28 w)
  have HA := Lib.hid (balloc w (.cells #[.int .i64 seed, .float .f64 fin, vd, vp, vl, vi] 28))
  obtain ⟨_, x0, x1, x2, x3, x4, x5⟩ := HX.out
  go_enter Try.func5, Try.ntmps5
  cases lt
  · go_wp2_with (first
      | (go_at_call 8; refine (HL.out _ HA.out).mono ?_; rintro e w1 ⟨rfl, hb1⟩; have B1 := Lib.hid (bthen HA.out hb1); clear hb1)
      | (go_at_call 9; refine (HAW.out _).mono ?_; rintro e w2 ⟨rfl, hb2⟩; have B2 := Lib.hid (bthen B1.out hb2); clear hb2))
    go_ret
    exact ⟨rfl, B2.out⟩
  · go_wp2_with (go_at_call 8; refine (HL.out _ HA.out).mono ?_; rintro e w1 ⟨rfl, hb1⟩; have B1 := Lib.hid (bthen HA.out hb1); obtain ⟨_, x0, x1, x2, x3, x4, x5⟩ := HX.out.below hb1; have X1 := Lib.hid (HX.out.below hb1); clear hb1)
    refine (HP.out _ B1.out).mono ?_
    rintro e w2 ⟨rfl, hb2⟩
    have B2 := Lib.hid (bthen B1.out hb2)
    have X2 := Lib.hid (X1.out.below hb2)
    clear hb2
    cases bad
    · simp only [Bool.false_eq_true, if_false]
      go_wp2_with fail
      refine (HG.out (by simp) _).mono ?_
      rintro e w3 ⟨s2, f2, ad, nd, cd, ap, np, cp, al, nl, cl, ai, ni, ci, rfl, hb3, hs⟩
      have HS := Lib.hid hs
      have B3 := Lib.hid (bthen B2.out hb3)
      have X3 := Lib.hid (X2.out.below hb3)
      clear hb3 hs
      have A3 := Lib.hid (balloc w3 (.cells #[.int .i64 s2, .float .f64 f2, .slice ad nd cd, .slice ap np cp, .slice al nl cl, .slice ai ni ci] 28))
      have Y3 := Lib.hid (Box6.new (.int .i64 s2) (.float .f64 f2) (.slice ad nd cd) (.slice ap np cp) (.slice al nl cl) (.slice ai ni ci) 28 w3)
      go_wp2_with (first
        | (go_at_call 9; refine (HAW.out _).mono ?_; rintro e w4 ⟨rfl, hb4⟩; have B4 := Lib.hid (bthen A3.out hb4); obtain ⟨_, z0, z1, z2, z3, z4, z5⟩ := X3.out.below B4.out; obtain ⟨_, y0, y1, y2, y3, y4, y5⟩ := Y3.out.below hb4; clear hb4)
        | (go_at_call 15; refine (HS.out _ B4.out (bthen B3.out B4.out)).mono ?_; rintro e w5 ⟨rfl, hb5⟩; have B5 := Lib.hid (bthen B4.out hb5); clear hb5))
      go_ret
      exact ⟨rfl, bthen B3.out B5.out⟩
    · simp only [if_true]
      go_wp2_with (go_at_call 9; refine (HAW.out _).mono ?_; rintro e w4 ⟨rfl, hb4⟩; have B4 := Lib.hid (bthen B2.out hb4); clear hb4)
      go_ret
      exact ⟨rfl, B4.out⟩

theorem modelioBack_mdl (m : Mdl) (vd vp vl vi : Value) (w : World) (h : MdlAt m vd vp vl vi w) (hr : Rng m) :
    Calls Try.prog 5 #[mval m vd vp vl vi] w fun e w' => e = .returned (.bool true) ∧ Below w.heap.size w w' := by
  refine modelioBack_core m.seed m.fin vd vp vl vi (light6B m) (putS m) (!mayB m) w (fun w2 k => light6_any m vd vp vl vi w2 (h.below k)) (fun w2 k => ?_) (fun hb w2 => ?_)
  · have := put_any m vd vp vl vi w2 (h.below k)
    unfold chkN at this
    cases hm : mayB m
    · rw [hm] at this; exact this
    · rw [hm] at this; exact this
  · have hm : mayB m = true := by cases hm : mayB m <;> simp_all
    have e1 : putS m = layM m := by unfold putS; rw [if_pos hm]
    obtain ⟨q1, q2⟩ := back_all hr hm
    rw [e1]
    refine (get_any (layM m) (lay_size hm) w2).mono ?_
    rintro e w3 ⟨vd2, vp2, vl2, vi2, rfl, hm2, hb3⟩
    obtain ⟨ad, cd, ap, cp, al, cl, ai, ci, rfl, rfl, rfl, rfl⟩ := hm2.forms
    rw [q1]
    refine ⟨_, _, _, _, _, _, _, _, _, _, _, _, _, _, rfl, hb3, fun w4 k3 k => ?_⟩
    have := refSame_any (getR (layM m)) m _ _ _ _ _ _ _ _ w4 (hm2.below k3) (h.below k)
    rw [show sameB (getR (layM m)) m = true by unfold getR; rw [if_pos q1]; exact q2.same] at this
    exact this

end Go.Proofs.Ytemhbcjpgapjkaa
