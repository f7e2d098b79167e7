/- The walk of ModelioPuts. -/
import Derived.Test.YtemhbcjpgapjkaaMioBack
import Derived.Test.YtemhbcjpgapjkaaMioRefLay
import Derived.Test.YtemhbcjpgapjkaaModelRefCheck2
namespace Go.Proofs.Ytemhbcjpgapjkaa
open Go.RowKit
set_option linter.unusedVariables false
set_option maxRecDepth 100000

theorem refLay_any (m : Mdl) (hm : mayB m = true) (hr : Rng m) (vd vp vl vi : Value) (w : World) (h : MdlAt m vd vp vl vi w) :
    Calls Try.prog 12 #[mval m vd vp vl vi] w fun e w' => e = .returned (.string (layM m)) ∧ Below w.heap.size w w' := by
  obtain ⟨c1, c2, c3, c4, c5, c6⟩ := may_counts hm
  obtain ⟨ad, cd, ap, cp, al, cl, ai, ci, rfl, rfl, rfl, rfl⟩ := h.forms
  have e : layM m = acc ([flip63 m.seed, (m.fin : Int), flip63 m.nd] ++ (catN (fun i => [((m.d i : Nat) : Int)]) m.nd ++ ([flip63 m.np] ++ (catN (fun i => prW (m.pr i) (m.pl i)) m.np ++ ([flip63 m.nl] ++ (catN (fun i => lpW (m.lp i) (m.wd i) (m.wl i)) m.nl ++ ([flip63 m.ni] ++ catN (fun i => evW (m.ev i)) m.ni))))))) := by
    unfold layM acc mdlW lsW
    simp only [List.cons_append, List.nil_append]
  rw [e]
  clear e
  unfold mval
  exact refLay_core m.seed m.fin m.nd m.np m.nl m.ni ad ap al ai cd cp cl ci m.d m.pl m.pr m.lp m.wl m.wd m.ev w c1 c2 c3 c4 c5 c6 hr.fin hr.d (fun i hi => (hr.ev i hi).1) h.d h.p h.l h.i

set_option maxHeartbeats 3200000 in
theorem modelioPuts_core (seed : Int) (fin : Nat) (vd vp vl vi : Value) (lt : Bool) (S : ByteArray) (bad : Bool) (w : World) (hS : bad = true → S = ⟨#[]⟩)
    (HL : Hid (∀ w2, Below w.heap.size w w2 → Calls Try.prog 8 #[.agg #[.int .i64 seed, .float .f64 fin, vd, vp, vl, vi]] w2 fun e w' => e = .returned (.bool lt) ∧ Below w2.heap.size w2 w'))
    (HP : Hid (∀ w2, Below w.heap.size w w2 → Calls Try.prog 10 #[.agg #[.int .i64 seed, .float .f64 fin, vd, vp, vl, vi]] w2 fun e w' => e = .returned (.tuple #[.string S, .int .i64 (if bad then 15 else 0)]) ∧ Below w2.heap.size w2 w'))
    (HC : Hid (∀ w2, Below w.heap.size w w2 → Calls Try.prog 11 #[.agg #[.int .i64 seed, .float .f64 fin, vd, vp, vl, vi]] w2 fun e w' => e = .returned (.int .i64 (if bad then 15 else 0)) ∧ Below w2.heap.size w2 w'))
    (HR : Hid (bad = false → ∀ w2, Below w.heap.size w w2 → Calls Try.prog 12 #[.agg #[.int .i64 seed, .float .f64 fin, vd, vp, vl, vi]] w2 fun e w' => e = .returned (.string S) ∧ Below w2.heap.size w2 w')) :
    Calls Try.prog 3 #[.agg #[.int .i64 seed, .float .f64 fin, vd, vp, vl, vi]] w fun e w' => e = .returned (.bool true) ∧ Below w.heap.size w w' := by
  have hsf := store_float
  have HAW := Lib.hid awake6_any
  have HX := Lib.hid (Box6.new (.int .i64 seed) (.float .f64 fin) vd vp vl vi 28 w)
  have HA := Lib.hid (balloc w (.cells #[.int .i64 seed, .float .f64 fin, vd, vp, vl, vi] 28))
  obtain ⟨_, x0, x1, x2, x3, x4, x5⟩ := HX.out
  go_enter Try.func3, Try.ntmps3
  cases lt
  · go_wp2_with (first
      | (go_at_call 8; refine (HL.out _ HA.out).mono ?_; rintro e w1 ⟨rfl, hb1⟩; have B1 := Lib.hid (bthen HA.out hb1); clear hb1)
      | (go_at_call 9; refine (HAW.out _).mono ?_; rintro e w2 ⟨rfl, hb2⟩; have B2 := Lib.hid (bthen B1.out hb2); clear hb2))
    go_ret
    exact ⟨rfl, B2.out⟩
  · go_wp2_with (go_at_call 8; refine (HL.out _ HA.out).mono ?_; rintro e w1 ⟨rfl, hb1⟩; have B1 := Lib.hid (bthen HA.out hb1); obtain ⟨_, x0, x1, x2, x3, x4, x5⟩ := HX.out.below hb1; have X1 := Lib.hid (HX.out.below hb1); clear hb1)
    refine (HP.out _ B1.out).mono ?_
    rintro e w2 ⟨rfl, hb2⟩
    have B2 := Lib.hid (bthen B1.out hb2)
    have X2 := Lib.hid (X1.out.below hb2)
    obtain ⟨_, x0, x1, x2, x3, x4, x5⟩ := X2.out
    clear hb2
    cases bad
    · simp only [Bool.false_eq_true, if_false] at HC ⊢
      have hx : (S.toList == S.toList) = true := by simp
      go_wp2_with (go_at_call 11; refine (HC.out _ B2.out).mono ?_; rintro e w3 ⟨rfl, hb3⟩; have B3 := Lib.hid (bthen B2.out hb3); have X3 := Lib.hid (X2.out.below hb3); obtain ⟨_, x0, x1, x2, x3, x4, x5⟩ := X3.out; clear hb3)
      refine (HAW.out _).mono ?_
      rintro e w4 ⟨rfl, hb4⟩
      have B4 := Lib.hid (bthen B3.out hb4)
      obtain ⟨_, x0, x1, x2, x3, x4, x5⟩ := X3.out.below hb4
      clear hb4
      go_wp2_with (go_at_call 12; refine (HR.out (by simp) _ B4.out).mono ?_; rintro e w5 ⟨rfl, hb5⟩; have B5 := Lib.hid (bthen B4.out hb5); clear hb5)
      go_ret
      exact ⟨rfl, B5.out⟩
    · obtain rfl := hS rfl
      simp only [if_true] at HC ⊢
      go_wp2_with (go_at_call 11; refine (HC.out _ B2.out).mono ?_; rintro e w3 ⟨rfl, hb3⟩; have B3 := Lib.hid (bthen B2.out hb3); clear hb3)
      refine (HAW.out _).mono ?_
      rintro e w4 ⟨rfl, hb4⟩
      have B4 := Lib.hid (bthen B3.out hb4)
      clear hb4
      go_wp2_with fail
      go_ret
      exact ⟨rfl, B4.out⟩

theorem modelioPuts_mdl (m : Mdl) (vd vp vl vi : Value) (w : World) (h : MdlAt m vd vp vl vi w) (hr : Rng m) :
    Calls Try.prog 3 #[mval m vd vp vl vi] w fun e w' => e = .returned (.bool true) ∧ Below w.heap.size w w' := by
  have hc : chkN m = if (!mayB m) = true then 15 else 0 := by unfold chkN; cases mayB m <;> rfl
  refine modelioPuts_core m.seed m.fin vd vp vl vi (light6B m) (putS m) (!mayB m) w (fun hb => ?_) (fun w2 k => light6_any m vd vp vl vi w2 (h.below k)) (fun w2 k => ?_) (fun w2 k => ?_) (fun hb w2 k => ?_)
  · have hm : mayB m = false := by cases hm : mayB m <;> simp_all
    unfold putS; rw [hm]; rfl
  · have := put_any m vd vp vl vi w2 (h.below k)
    rw [hc] at this
    exact this
  · have := refCheck_any m vd vp vl vi w2 (h.below k)
    rw [hc] at this
    exact this
  · have hm : mayB m = true := by cases hm : mayB m <;> simp_all
    have e1 : putS m = layM m := by unfold putS; rw [if_pos hm]
    rw [e1]
    exact refLay_any m hm hr vd vp vl vi w2 (h.below k)

end Go.Proofs.Ytemhbcjpgapjkaa
