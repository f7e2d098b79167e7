/- The walk of ModelioOnce. -/
import Derived.Test.YtemhbcjpgapjkaaMioAwake
namespace Go.Proofs.Ytemhbcjpgapjkaa
open Go.RowKit
set_option linter.unusedVariables false
set_option maxRecDepth 100000

theorem once_good {s : ByteArray} (h : getE s = 0) : getR s = getM s ∧ putS (getM s) = s ∧ chkN (getM s) = 0 := by
  have h1 : getR s = getM s := by unfold getR; rw [if_pos h]
  unfold getE at h
  by_cases h2 : (g6 s).e = 0
  · rw [if_neg (by simp [h2])] at h
    by_cases h3 : (g6 s).pos = s.size
    · rw [if_neg (by simp [h3])] at h
      refine ⟨h1, ?_, h⟩
      unfold putS
      unfold chkN at h
      by_cases h4 : mayB (getM s) = true
      · rw [if_pos h4]; exact once_all h2 h3
      · rw [if_neg h4] at h; cases h
    · rw [if_pos h3] at h; cases h
  · rw [if_pos h2] at h; exact absurd h h2

set_option maxHeartbeats 3200000 in
theorem modelioOnce_walk (s : ByteArray) (w : World) (hs : s.size ≤ maxLen) :
    Calls Try.prog 6 #[.string s] w fun e w' => e = .returned (.bool true) ∧ Below w.heap.size w w' := by
  have hsf := store_float
  have HAW := Lib.hid awake6_any
  by_cases hbig : 9000 < s.size
  · have d1 : decide ((9000 : Int) < (s.size : Int)) = true := by rw [decide_eq_true_eq]; omega
    clear hbig hs
    go_enter Try.func6, Try.ntmps6
    go_wp2_with (go_at_call 9; refine (HAW.out _).mono ?_; rintro e w1 ⟨rfl, hb1⟩)
    go_ret
    exact ⟨rfl, hb1⟩
  · have d1 : decide ((9000 : Int) < (s.size : Int)) = false := by rw [decide_eq_false_iff_not]; omega
    have HG := Lib.hid (get_any s (by omega) w)
    clear hs hbig
    go_enter Try.func6, Try.ntmps6
    go_wp2_with fail
    refine HG.out.mono ?_
    rintro e w3 ⟨vd, vp, vl, vi, rfl, hm, hb3⟩
    obtain ⟨ad, cd, ap, cp, al, cl, ai, ci, rfl, rfl, rfl, rfl⟩ := hm.forms
    have B3 := Lib.hid hb3
    by_cases he : getE s = 0
    · obtain ⟨q1, q2, q3⟩ := once_good he
      have HP : Hid (∀ w2, Below w3.heap.size w3 w2 → Calls Try.prog 10 #[mval (getR s) (.slice ad (getR s).nd cd) (.slice ap (getR s).np cp) (.slice al (getR s).nl cl) (.slice ai (getR s).ni ci)] w2 fun e w' => e = .returned (.tuple #[.string s, .int .i64 0]) ∧ Below w2.heap.size w2 w') := fun w2 k => by
        have := put_any (getR s) _ _ _ _ w2 (hm.below k)
        rw [show putS (getR s) = s by rw [q1, q2], show chkN (getR s) = 0 by rw [q1, q3]] at this
        exact this
      rw [he]
      unfold mval at HP ⊢
      clear hm hb3 he q1 q2 q3
      generalize (getR s).seed = seed at *
      generalize (getR s).fin = fin at *
      generalize (getR s).nd = nd at *
      generalize (getR s).np = np at *
      generalize (getR s).nl = nl at *
      generalize (getR s).ni = ni at *
      have A3 := Lib.hid (balloc w3 (.cells #[.int .i64 seed, .float .f64 fin, .slice ad nd cd, .slice ap np cp, .slice al nl cl, .slice ai ni ci] 28))
      have X3 := Lib.hid (Box6.new (.int .i64 seed) (.float .f64 fin) (.slice ad nd cd) (.slice ap np cp) (.slice al nl cl) (.slice ai ni ci) 28 w3)
      obtain ⟨_, x0, x1, x2, x3, x4, x5⟩ := X3.out
      go_wp2_with (first
        | (go_at_call 10; refine (HP.out _ A3.out).mono ?_; rintro e w4 ⟨rfl, hb4⟩; have B4 := Lib.hid (bthen A3.out hb4); clear hb4)
        | (go_at_call 9; refine (HAW.out _).mono ?_; rintro e w5 ⟨rfl, hb5⟩; have B5 := Lib.hid (bthen B4.out hb5); clear hb5))
      go_ret
      exact ⟨rfl, bthen B3.out B5.out⟩
    · have q1 : getR s = zeroM := by unfold getR; rw [if_neg he]
      have HS : Hid (∀ w2, Below w3.heap.size w3 w2 → Calls Try.prog 15 #[mval (getR s) (.slice ad (getR s).nd cd) (.slice ap (getR s).np cp) (.slice al (getR s).nl cl) (.slice ai (getR s).ni ci), .agg #[.int .i64 0, .float .f64 0, .slice none 0 0, .slice none 0 0, .slice none 0 0, .slice none 0 0]] w2 fun e w' => e = .returned (.bool true) ∧ Below w2.heap.size w2 w') := fun w2 k => by
        have := refSame_any (getR s) zeroM _ _ _ _ _ _ _ _ w2 (hm.below k) (zero_mdl w2)
        rw [show sameB (getR s) zeroM = true by rw [q1]; exact sameB_refl _] at this
        exact this
      have de : (getE s != 0) = true := by simp [he]
      unfold mval at HS ⊢
      clear hm hb3 he q1
      generalize getE s = e9 at *
      generalize (getR s).seed = seed at *
      generalize (getR s).fin = fin at *
      generalize (getR s).nd = nd at *
      generalize (getR s).np = np at *
      generalize (getR s).nl = nl at *
      generalize (getR s).ni = ni at *
      have A3 := Lib.hid (balloc w3 (.cells #[.int .i64 seed, .float .f64 fin, .slice ad nd cd, .slice ap np cp, .slice al nl cl, .slice ai ni ci] 28))
      have X3 := Lib.hid (Box6.new (.int .i64 seed) (.float .f64 fin) (.slice ad nd cd) (.slice ap np cp) (.slice al nl cl) (.slice ai ni ci) 28 w3)
      obtain ⟨_, x0, x1, x2, x3, x4, x5⟩ := X3.out
      go_wp2_with (first
        | (go_at_call 9; refine (HAW.out _).mono ?_; rintro e w4 ⟨rfl, hb4⟩; obtain ⟨_, y0, y1, y2, y3, y4, y5⟩ := X3.out.below hb4; have B4 := Lib.hid (bthen A3.out hb4); clear hb4)
        | (go_at_call 15; refine (HS.out _ B4.out).mono ?_; rintro e w5 ⟨rfl, hb5⟩; have B5 := Lib.hid (bthen B4.out hb5); clear hb5))
      go_ret
      exact ⟨rfl, bthen B3.out B5.out⟩

end Go.Proofs.Ytemhbcjpgapjkaa
