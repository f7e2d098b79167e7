/- The walk of ModelioGets. -/
import Derived.Test.YtemhbcjpgapjkaaMioAwake
import Derived.Test.YtemhbcjpgapjkaaMioRefGet4
namespace Go.Proofs.Ytemhbcjpgapjkaa
open Go.RowKit
set_option linter.unusedVariables false
set_option maxRecDepth 100000

set_option maxHeartbeats 3200000 in
theorem modelioGets_core (s : ByteArray) (hs : s.size ≤ maxLen) (ev : Int) (w : World)
    (HG : Hid (s.size ≤ 9000 → ∀ w2, Calls Try.prog 13 #[.string s] w2 fun e w3 => ∃ s2 f2 ad nd cd ap np cp al nl cl ai ni ci, e = .returned (.tuple #[.agg #[.int .i64 s2, .float .f64 f2, .slice ad nd cd, .slice ap np cp, .slice al nl cl, .slice ai ni ci], .int .i64 ev]) ∧ Below w2.heap.size w2 w3 ∧
      ∀ w4, Below w3.heap.size w3 w4 → Calls Try.prog 14 #[.string s] w4 fun e w5 => ∃ s2' f2' ad' nd' cd' ap' np' cp' al' nl' cl' ai' ni' ci', e = .returned (.tuple #[.agg #[.int .i64 s2', .float .f64 f2', .slice ad' nd' cd', .slice ap' np' cp', .slice al' nl' cl', .slice ai' ni' ci'], .int .i64 ev]) ∧ Below w4.heap.size w4 w5 ∧
        ∀ w6, Below w5.heap.size w5 w6 → Calls Try.prog 15 #[.agg #[.int .i64 s2, .float .f64 f2, .slice ad nd cd, .slice ap np cp, .slice al nl cl, .slice ai ni ci], .agg #[.int .i64 s2', .float .f64 f2', .slice ad' nd' cd', .slice ap' np' cp', .slice al' nl' cl', .slice ai' ni' ci']] w6 fun e w' => e = .returned (.bool true) ∧ Below w6.heap.size w6 w')) :
    Calls Try.prog 4 #[.string s] w fun e w' => e = .returned (.bool true) ∧ Below w.heap.size w w' := by
  have hsf := store_float
  have HAW := Lib.hid awake6_any
  by_cases hbig : 9000 < s.size
  · have d1 : decide ((9000 : Int) < (s.size : Int)) = true := by rw [decide_eq_true_eq]; omega
    clear hbig hs HG
    go_enter Try.func4, Try.ntmps4
    go_wp2_with (go_at_call 9; refine (HAW.out _).mono ?_; rintro e w1 ⟨rfl, hb1⟩)
    go_ret
    exact ⟨rfl, hb1⟩
  · have d1 : decide ((9000 : Int) < (s.size : Int)) = false := by rw [decide_eq_false_iff_not]; omega
    have HGG := Lib.hid (HG.out (by omega))
    clear hs hbig HG
    have hev : (ev == ev) = true := by simp
    go_enter Try.func4, Try.ntmps4
    go_wp2_with fail
    refine (HGG.out _).mono ?_
    rintro e w3 ⟨s2, f2, ad, nd, cd, ap, np, cp, al, nl, cl, ai, ni, ci, rfl, hb3, hq⟩
    have HR := Lib.hid hq
    have B3 := Lib.hid hb3
    have A3 := Lib.hid (balloc w3 (.cells #[.int .i64 s2, .float .f64 f2, .slice ad nd cd, .slice ap np cp, .slice al nl cl, .slice ai ni ci] 28))
    have X3 := Lib.hid (Box6.new (.int .i64 s2) (.float .f64 f2) (.slice ad nd cd) (.slice ap np cp) (.slice al nl cl) (.slice ai ni ci) 28 w3)
    clear hb3 hq
    go_wp2_with fail
    generalize w3.alloc (.cells #[.int .i64 s2, .float .f64 f2, .slice ad nd cd, .slice ap np cp, .slice al nl cl, .slice ai ni ci] 28) = v3 at *
    generalize hx3 : w3.heap.size = p3 at *
    refine (HR.out _ A3.out).mono ?_
    rintro e w4 ⟨s4, f4, ad4, nd4, cd4, ap4, np4, cp4, al4, nl4, cl4, ai4, ni4, ci4, rfl, hb4, hq⟩
    have HS := Lib.hid hq
    have B4 := Lib.hid (bthen (bthen B3.out (by rw [hx3]; exact A3.out)) hb4)
    have X4 := Lib.hid (X3.out.below hb4)
    have A4 := Lib.hid (balloc w4 (.cells #[.int .i64 s4, .float .f64 f4, .slice ad4 nd4 cd4, .slice ap4 np4 cp4, .slice al4 nl4 cl4, .slice ai4 ni4 ci4] 28))
    have Y4 := Lib.hid (Box6.new (.int .i64 s4) (.float .f64 f4) (.slice ad4 nd4 cd4) (.slice ap4 np4 cp4) (.slice al4 nl4 cl4) (.slice ai4 ni4 ci4) 28 w4)
    clear hb4 hq HR HGG
    go_wp2_with (first
      | (go_at_call 9; refine (HAW.out _).mono ?_; rintro e w5 ⟨rfl, hb5⟩; have B5 := Lib.hid (bthen A4.out hb5); obtain ⟨_, x0, x1, x2, x3, x4, x5⟩ := X4.out.below B5.out; obtain ⟨_, y0, y1, y2, y3, y4, y5⟩ := Y4.out.below hb5; clear hb5)
      | (go_at_call 15; refine (HS.out _ B5.out).mono ?_; rintro e w6 ⟨rfl, hb6⟩; have B6 := Lib.hid (bthen B5.out hb6); clear hb6))
    go_ret
    exact ⟨rfl, bthen B4.out B6.out⟩

theorem modelioGets_walk (s : ByteArray) (w : World) (hs : s.size ≤ maxLen) :
    Calls Try.prog 4 #[.string s] w fun e w' => e = .returned (.bool true) ∧ Below w.heap.size w w' := by
  refine modelioGets_core s hs (getE s) w (fun h9 w2 => (get_any s (by omega) w2).mono ?_)
  rintro e w3 ⟨vd, vp, vl, vi, rfl, hm, hb3⟩
  obtain ⟨ad, cd, ap, cp, al, cl, ai, ci, rfl, rfl, rfl, rfl⟩ := hm.forms
  refine ⟨_, _, _, _, _, _, _, _, _, _, _, _, _, _, rfl, hb3, fun w4 k4 => (refGet6_any s (by omega) w4).mono ?_⟩
  rintro e w5 ⟨vd, vp, vl, vi, rfl, hm2, hb5⟩
  obtain ⟨ad, cd, ap, cp, al, cl, ai, ci, rfl, rfl, rfl, rfl⟩ := hm2.forms
  refine ⟨_, _, _, _, _, _, _, _, _, _, _, _, _, _, rfl, hb5, fun w6 k6 => ?_⟩
  have := refSame_any (getR s) (getR s) _ _ _ _ _ _ _ _ w6 (hm.below (bthen (bthen k4 hb5) k6)) (hm2.below k6)
  rw [sameB_refl] at this
  exact this

end Go.Proofs.Ytemhbcjpgapjkaa
