/- The contract of model.Same. -/
import Derived.Test.YtebopfcealhiaaaModelSame2
namespace Go.Proofs.Ytebopfcealhiaaa
open Go.RowKit
set_option linter.unusedVariables false

set_option maxHeartbeats 3200000 in
theorem same_core (s1 s2 : Int) (f1 f2 : Nat) (vd1 vd2 vp1 vp2 vl1 vl2 vi1 vi2 : Value) (b1 b2 b3 b4 b5 b6 s : Bool) (w : World) (E : Hid (s = (b1 && (b2 && (b3 && (b4 && (b5 && b6))))))) (h1 : (s1 == s2) = b1)
    (HF : Hid (∀ w, Calls Try.prog 38 #[.float .f64 f1, .float .f64 f2] w fun e w' => e = .returned (.bool b2) ∧ w = w'))
    (HD : Hid (∀ w2, Below w.heap.size w w2 → Calls Try.prog 39 #[vd1, vd2, .func (.func 38) #[] #[]] w2 fun e w' => e = .returned (.bool b3) ∧ Below w2.heap.size w2 w'))
    (HP : Hid (∀ w2, Below w.heap.size w w2 → Calls Try.prog 40 #[vp1, vp2, .func (.func 41) #[] #[]] w2 fun e w' => e = .returned (.bool b4) ∧ Below w2.heap.size w2 w'))
    (HL : Hid (∀ w2, Below w.heap.size w w2 → Calls Try.prog 42 #[vl1, vl2, .func (.func 43) #[] #[]] w2 fun e w' => e = .returned (.bool b5) ∧ Below w2.heap.size w2 w'))
    (HI : Hid (∀ w2, Below w.heap.size w w2 → Calls Try.prog 44 #[vi1, vi2, .func (.func 45) #[] #[]] w2 fun e w' => e = .returned (.bool b6) ∧ Below w2.heap.size w2 w')) :
    Calls Try.prog 16 #[.agg #[.int .i64 s1, .float .f64 f1, vd1, vp1, vl1, vi1], .agg #[.int .i64 s2, .float .f64 f2, vd2, vp2, vl2, vi2]] w fun e w' => e = .returned (.bool s) ∧ Below w.heap.size w w' := by
  have HB := Lib.hid (bthen (balloc w (.cells #[.int .i64 s1, .float .f64 f1, vd1, vp1, vl1, vi1] 28)) (balloc _ (.cells #[.int .i64 s2, .float .f64 f2, vd2, vp2, vl2, vi2] 28)))
  have HX := Lib.hid ((Box6.new (.int .i64 s1) (.float .f64 f1) vd1 vp1 vl1 vi1 28 w).below (balloc _ (.cells #[.int .i64 s2, .float .f64 f2, vd2, vp2, vl2, vi2] 28)))
  have HY := Lib.hid (Box6.new (.int .i64 s2) (.float .f64 f2) vd2 vp2 vl2 vi2 28 (w.alloc (.cells #[.int .i64 s1, .float .f64 f1, vd1, vp1, vl1, vi1] 28)))
  have HR := Lib.hid (Below.refl ((w.alloc (.cells #[.int .i64 s1, .float .f64 f1, vd1, vp1, vl1, vi1] 28)).alloc (.cells #[.int .i64 s2, .float .f64 f2, vd2, vp2, vl2, vi2] 28)).heap.size ((w.alloc (.cells #[.int .i64 s1, .float .f64 f1, vd1, vp1, vl1, vi1] 28)).alloc (.cells #[.int .i64 s2, .float .f64 f2, vd2, vp2, vl2, vi2] 28)))
  have hsz : (w.alloc (.cells #[.int .i64 s1, .float .f64 f1, vd1, vp1, vl1, vi1] 28)).heap.size = w.heap.size + 1 := by show (w.heap.push _).size = _; simp
  rw [hsz] at HY
  clear hsz
  go_enter Try.func16, Try.ntmps16
  cases b1
  · go_wp2_with fail
    go_ret
    exact ⟨by rw [E.out]; rfl, HB.out⟩
  cases b2
  · go_wp2_with (first
    | (go_at_call 38; refine (HF.out _).mono ?_; rintro e w2 ⟨rfl, rfl⟩)
    | (go_at_call 39; refine (HD.out _ (bthen HB.out HR.out)).mono ?_; rintro e w3 ⟨rfl, hb3⟩; have HB3 := Lib.hid (bthen HR.out hb3); clear hb3; obtain ⟨_, x0, x1, x2, x3, x4, x5⟩ := HX.out.below HB3.out; obtain ⟨_, y0, y1, y2, y3, y4, y5⟩ := HY.out.below HB3.out)
    | (go_at_call 40; refine (HP.out _ (bthen HB.out HB3.out)).mono ?_; rintro e w4 ⟨rfl, hb4⟩; have HB4 := Lib.hid (bthen HB3.out hb4); clear hb4; obtain ⟨_, x0, x1, x2, x3, x4, x5⟩ := HX.out.below HB4.out; obtain ⟨_, y0, y1, y2, y3, y4, y5⟩ := HY.out.below HB4.out)
    | (go_at_call 42; refine (HL.out _ (bthen HB.out HB4.out)).mono ?_; rintro e w5 ⟨rfl, hb5⟩; have HB5 := Lib.hid (bthen HB4.out hb5); clear hb5; obtain ⟨_, x0, x1, x2, x3, x4, x5⟩ := HX.out.below HB5.out; obtain ⟨_, y0, y1, y2, y3, y4, y5⟩ := HY.out.below HB5.out)
    | (go_at_call 44; refine (HI.out _ (bthen HB.out HB5.out)).mono ?_; rintro e w6 ⟨rfl, hb6⟩; have HB6 := Lib.hid (bthen HB5.out hb6); clear hb6; obtain ⟨_, x0, x1, x2, x3, x4, x5⟩ := HX.out.below HB6.out; obtain ⟨_, y0, y1, y2, y3, y4, y5⟩ := HY.out.below HB6.out))
    go_ret
    exact ⟨by rw [E.out]; rfl, HB.out⟩
  cases b3
  · go_wp2_with (first
    | (go_at_call 38; refine (HF.out _).mono ?_; rintro e w2 ⟨rfl, rfl⟩)
    | (go_at_call 39; refine (HD.out _ (bthen HB.out HR.out)).mono ?_; rintro e w3 ⟨rfl, hb3⟩; have HB3 := Lib.hid (bthen HR.out hb3); clear hb3; obtain ⟨_, x0, x1, x2, x3, x4, x5⟩ := HX.out.below HB3.out; obtain ⟨_, y0, y1, y2, y3, y4, y5⟩ := HY.out.below HB3.out)
    | (go_at_call 40; refine (HP.out _ (bthen HB.out HB3.out)).mono ?_; rintro e w4 ⟨rfl, hb4⟩; have HB4 := Lib.hid (bthen HB3.out hb4); clear hb4; obtain ⟨_, x0, x1, x2, x3, x4, x5⟩ := HX.out.below HB4.out; obtain ⟨_, y0, y1, y2, y3, y4, y5⟩ := HY.out.below HB4.out)
    | (go_at_call 42; refine (HL.out _ (bthen HB.out HB4.out)).mono ?_; rintro e w5 ⟨rfl, hb5⟩; have HB5 := Lib.hid (bthen HB4.out hb5); clear hb5; obtain ⟨_, x0, x1, x2, x3, x4, x5⟩ := HX.out.below HB5.out; obtain ⟨_, y0, y1, y2, y3, y4, y5⟩ := HY.out.below HB5.out)
    | (go_at_call 44; refine (HI.out _ (bthen HB.out HB5.out)).mono ?_; rintro e w6 ⟨rfl, hb6⟩; have HB6 := Lib.hid (bthen HB5.out hb6); clear hb6; obtain ⟨_, x0, x1, x2, x3, x4, x5⟩ := HX.out.below HB6.out; obtain ⟨_, y0, y1, y2, y3, y4, y5⟩ := HY.out.below HB6.out))
    go_ret
    exact ⟨by rw [E.out]; rfl, bthen HB.out HB3.out⟩
  cases b4
  · go_wp2_with (first
    | (go_at_call 38; refine (HF.out _).mono ?_; rintro e w2 ⟨rfl, rfl⟩)
    | (go_at_call 39; refine (HD.out _ (bthen HB.out HR.out)).mono ?_; rintro e w3 ⟨rfl, hb3⟩; have HB3 := Lib.hid (bthen HR.out hb3); clear hb3; obtain ⟨_, x0, x1, x2, x3, x4, x5⟩ := HX.out.below HB3.out; obtain ⟨_, y0, y1, y2, y3, y4, y5⟩ := HY.out.below HB3.out)
    | (go_at_call 40; refine (HP.out _ (bthen HB.out HB3.out)).mono ?_; rintro e w4 ⟨rfl, hb4⟩; have HB4 := Lib.hid (bthen HB3.out hb4); clear hb4; obtain ⟨_, x0, x1, x2, x3, x4, x5⟩ := HX.out.below HB4.out; obtain ⟨_, y0, y1, y2, y3, y4, y5⟩ := HY.out.below HB4.out)
    | (go_at_call 42; refine (HL.out _ (bthen HB.out HB4.out)).mono ?_; rintro e w5 ⟨rfl, hb5⟩; have HB5 := Lib.hid (bthen HB4.out hb5); clear hb5; obtain ⟨_, x0, x1, x2, x3, x4, x5⟩ := HX.out.below HB5.out; obtain ⟨_, y0, y1, y2, y3, y4, y5⟩ := HY.out.below HB5.out)
    | (go_at_call 44; refine (HI.out _ (bthen HB.out HB5.out)).mono ?_; rintro e w6 ⟨rfl, hb6⟩; have HB6 := Lib.hid (bthen HB5.out hb6); clear hb6; obtain ⟨_, x0, x1, x2, x3, x4, x5⟩ := HX.out.below HB6.out; obtain ⟨_, y0, y1, y2, y3, y4, y5⟩ := HY.out.below HB6.out))
    go_ret
    exact ⟨by rw [E.out]; rfl, bthen HB.out HB4.out⟩
  cases b5
  · go_wp2_with (first
    | (go_at_call 38; refine (HF.out _).mono ?_; rintro e w2 ⟨rfl, rfl⟩)
    | (go_at_call 39; refine (HD.out _ (bthen HB.out HR.out)).mono ?_; rintro e w3 ⟨rfl, hb3⟩; have HB3 := Lib.hid (bthen HR.out hb3); clear hb3; obtain ⟨_, x0, x1, x2, x3, x4, x5⟩ := HX.out.below HB3.out; obtain ⟨_, y0, y1, y2, y3, y4, y5⟩ := HY.out.below HB3.out)
    | (go_at_call 40; refine (HP.out _ (bthen HB.out HB3.out)).mono ?_; rintro e w4 ⟨rfl, hb4⟩; have HB4 := Lib.hid (bthen HB3.out hb4); clear hb4; obtain ⟨_, x0, x1, x2, x3, x4, x5⟩ := HX.out.below HB4.out; obtain ⟨_, y0, y1, y2, y3, y4, y5⟩ := HY.out.below HB4.out)
    | (go_at_call 42; refine (HL.out _ (bthen HB.out HB4.out)).mono ?_; rintro e w5 ⟨rfl, hb5⟩; have HB5 := Lib.hid (bthen HB4.out hb5); clear hb5; obtain ⟨_, x0, x1, x2, x3, x4, x5⟩ := HX.out.below HB5.out; obtain ⟨_, y0, y1, y2, y3, y4, y5⟩ := HY.out.below HB5.out)
    | (go_at_call 44; refine (HI.out _ (bthen HB.out HB5.out)).mono ?_; rintro e w6 ⟨rfl, hb6⟩; have HB6 := Lib.hid (bthen HB5.out hb6); clear hb6; obtain ⟨_, x0, x1, x2, x3, x4, x5⟩ := HX.out.below HB6.out; obtain ⟨_, y0, y1, y2, y3, y4, y5⟩ := HY.out.below HB6.out))
    go_ret
    exact ⟨by rw [E.out]; rfl, bthen HB.out HB5.out⟩
  cases b6
  · go_wp2_with (first
    | (go_at_call 38; refine (HF.out _).mono ?_; rintro e w2 ⟨rfl, rfl⟩)
    | (go_at_call 39; refine (HD.out _ (bthen HB.out HR.out)).mono ?_; rintro e w3 ⟨rfl, hb3⟩; have HB3 := Lib.hid (bthen HR.out hb3); clear hb3; obtain ⟨_, x0, x1, x2, x3, x4, x5⟩ := HX.out.below HB3.out; obtain ⟨_, y0, y1, y2, y3, y4, y5⟩ := HY.out.below HB3.out)
    | (go_at_call 40; refine (HP.out _ (bthen HB.out HB3.out)).mono ?_; rintro e w4 ⟨rfl, hb4⟩; have HB4 := Lib.hid (bthen HB3.out hb4); clear hb4; obtain ⟨_, x0, x1, x2, x3, x4, x5⟩ := HX.out.below HB4.out; obtain ⟨_, y0, y1, y2, y3, y4, y5⟩ := HY.out.below HB4.out)
    | (go_at_call 42; refine (HL.out _ (bthen HB.out HB4.out)).mono ?_; rintro e w5 ⟨rfl, hb5⟩; have HB5 := Lib.hid (bthen HB4.out hb5); clear hb5; obtain ⟨_, x0, x1, x2, x3, x4, x5⟩ := HX.out.below HB5.out; obtain ⟨_, y0, y1, y2, y3, y4, y5⟩ := HY.out.below HB5.out)
    | (go_at_call 44; refine (HI.out _ (bthen HB.out HB5.out)).mono ?_; rintro e w6 ⟨rfl, hb6⟩; have HB6 := Lib.hid (bthen HB5.out hb6); clear hb6; obtain ⟨_, x0, x1, x2, x3, x4, x5⟩ := HX.out.below HB6.out; obtain ⟨_, y0, y1, y2, y3, y4, y5⟩ := HY.out.below HB6.out))
    go_ret
    exact ⟨by rw [E.out]; rfl, bthen HB.out HB6.out⟩
  · go_wp2_with (first
    | (go_at_call 38; refine (HF.out _).mono ?_; rintro e w2 ⟨rfl, rfl⟩)
    | (go_at_call 39; refine (HD.out _ (bthen HB.out HR.out)).mono ?_; rintro e w3 ⟨rfl, hb3⟩; have HB3 := Lib.hid (bthen HR.out hb3); clear hb3; obtain ⟨_, x0, x1, x2, x3, x4, x5⟩ := HX.out.below HB3.out; obtain ⟨_, y0, y1, y2, y3, y4, y5⟩ := HY.out.below HB3.out)
    | (go_at_call 40; refine (HP.out _ (bthen HB.out HB3.out)).mono ?_; rintro e w4 ⟨rfl, hb4⟩; have HB4 := Lib.hid (bthen HB3.out hb4); clear hb4; obtain ⟨_, x0, x1, x2, x3, x4, x5⟩ := HX.out.below HB4.out; obtain ⟨_, y0, y1, y2, y3, y4, y5⟩ := HY.out.below HB4.out)
    | (go_at_call 42; refine (HL.out _ (bthen HB.out HB4.out)).mono ?_; rintro e w5 ⟨rfl, hb5⟩; have HB5 := Lib.hid (bthen HB4.out hb5); clear hb5; obtain ⟨_, x0, x1, x2, x3, x4, x5⟩ := HX.out.below HB5.out; obtain ⟨_, y0, y1, y2, y3, y4, y5⟩ := HY.out.below HB5.out)
    | (go_at_call 44; refine (HI.out _ (bthen HB.out HB5.out)).mono ?_; rintro e w6 ⟨rfl, hb6⟩; have HB6 := Lib.hid (bthen HB5.out hb6); clear hb6; obtain ⟨_, x0, x1, x2, x3, x4, x5⟩ := HX.out.below HB6.out; obtain ⟨_, y0, y1, y2, y3, y4, y5⟩ := HY.out.below HB6.out))
    go_ret
    exact ⟨by rw [E.out]; rfl, bthen HB.out HB6.out⟩

theorem same_any (x y : Mdl) (vd1 vp1 vl1 vi1 vd2 vp2 vl2 vi2 : Value) (w : World) (h1 : MdlAt x vd1 vp1 vl1 vi1 w) (h2 : MdlAt y vd2 vp2 vl2 vi2 w) :
    Calls Try.prog 16 #[mval x vd1 vp1 vl1 vi1, mval y vd2 vp2 vl2 vi2] w fun e w' => e = .returned (.bool (sameB x y)) ∧ Below w.heap.size w w' := by
  refine same_core x.seed y.seed x.fin y.fin vd1 vd2 vp1 vp2 vl1 vl2 vi1 vi2 _ _ _ _ _ _ _ w rfl ?_ (sameFloat_any _ _)
    (fun w2 k => eqfF_any x.d y.d x.nd y.nd _ _ w2 (h1.d.below k) (h2.d.below k)) (fun w2 k => eqfP_any x.pl y.pl x.pr y.pr x.np y.np _ _ w2 (h1.p.below k) (h2.p.below k))
    (fun w2 k => eqfL_any x.lp y.lp x.wl y.wl x.wd y.wd x.nl y.nl _ _ w2 (h1.l.below k) (h2.l.below k)) (fun w2 k => eqfE_any x.ev y.ev x.ni y.ni _ _ w2 (h1.i.below k) (h2.i.below k))
  rw [Bool.eq_iff_iff]
  simp

end Go.Proofs.Ytebopfcealhiaaa
