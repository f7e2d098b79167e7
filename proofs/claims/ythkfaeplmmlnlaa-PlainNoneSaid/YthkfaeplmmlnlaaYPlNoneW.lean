/- PlainNone, walked. -/
import Derived.Test.YthkfaeplmmlnlaaYZ32
import Derived.Test.YthkfaeplmmlnlaaYZ8
namespace Go.Proofs.Ythkfaeplmmlnlaa
open Go.RowKit Go.Deep Go.Maps
set_option linter.unusedVariables false
set_option maxRecDepth 100000

set_option maxHeartbeats 1600000 in
theorem prun_nil (n : Int) (u : World) : Calls Try.prog 31 #[.pointer none, .int .i64 n] u fun z u' => z = .returned (.slice none 0 0) ∧ Below u.heap.size u u' := by
  have hsf := store_float
  by_cases h0 : 0 < n
  · have d1 : decide (0 < n) = true := by simp [h0]
    clear h0
    go_enter Try.func31, Try.ntmps31
    go_wp2_with fail
    go_loopw [5, 9] (fun v i wr => v = .slice none 0 0 ∧ i = .int .i64 0 ∧ Below u.heap.size u wr) (fun _ _ _ => 0)
    case atStart => exact ⟨rfl, rfl, Below.refl _ _⟩
    case round =>
      obtain ⟨rfl, rfl, hb⟩ := hrel
      have B := Lib.hid hb
      clear hb
      go_upto_region 5 with (go_at_call 35; refine (pstep_nil _).mono ?_; rintro z w2 ⟨rfl, hb2⟩; have B2 := Lib.hid (bthen (bthen B.out hb2) (balloc w2 (.cells #[.float .f64 0, .int .i64 0, .int .i64 0, .int .i64 0, .int .i64 0, .int .i64 0] 66))); clear hb2)
      generalize w2.alloc (.cells #[.float .f64 0, .int .i64 0, .int .i64 0, .int .i64 0, .int .i64 0, .int .i64 0] 66) = w3 at *
      go_wp2_with fail
      go_ret
      exact ⟨rfl, B2.out⟩
  · have d1 : decide (0 < n) = false := by simp [h0]
    clear h0
    go_enter Try.func31, Try.ntmps31
    go_wp2_with fail
    refine wp_loop_rounds 1 ?_
    rw [rounds_succ]
    go_wp2_with fail
    go_ret
    exact ⟨rfl, Below.refl _ _⟩

theorem eq_zero_f (w : World) : (Op.equalIn 9997 22 (.float .f64 0) (.float .f64 0)).run Try.prog w = .ok true w := by kernel_rfl
theorem sta0_same : (sameW sta0.w sta0.w sta0.nw sta0.nw && decide (sta0.sent = sta0.sent) && decide (sta0.dice = sta0.dice)) = true := by decide +kernel
set_option maxHeartbeats 3200000 in
theorem plNone_walk (n lp : Int) (w : World) (_ : (Lit.int .i64 n).wf = true) (_ : (Lit.int .i64 lp).wf = true) : Calls Try.prog 11 #[.int .i64 n, .int .i64 lp] w fun e w' => e = .returned (.bool true) ∧ Below w.heap.size w w' := by
  have hsf := store_float
  have HA := Lib.hid awake9_any
  have hfe := eq_zero_f
  have HSA : Hid (∀ u, Calls Try.prog 20 #[.agg #[.slice none 0 0, .int .i64 0, .int .i64 0], .agg #[.slice none 0 0, .int .i64 0, .int .i64 0]] u fun e w' => e = .returned (.bool true) ∧ Below u.heap.size u w') := fun u => by
    have := refSame8_any sta0 sta0 (.slice none 0 0) (.slice none 0 0) u (sl_none8 _ _ _) (sl_none8 _ _ _)
    rw [sta0_same] at this
    exact this
  go_enter Try.func11, Try.ntmps11
  go_upto_region 3 with (go_at_call 35; refine (pstep_nil _).mono ?_; rintro z w2 ⟨rfl, hb2⟩; have X2 := Lib.hid (heap_alloc_new w2 (.cells #[.float .f64 0, .int .i64 0, .int .i64 0, .int .i64 0, .int .i64 0, .int .i64 0] 66)); have B2 := Lib.hid (hb2.trans ((balloc w2 (.cells #[.float .f64 0, .int .i64 0, .int .i64 0, .int .i64 0, .int .i64 0, .int .i64 0] 66)).mono hb2.size)); clear hb2)
  generalize w2.alloc (.cells #[.float .f64 0, .int .i64 0, .int .i64 0, .int .i64 0, .int .i64 0, .int .i64 0] 66) = w3 at *
  by_cases hn : 100 < n
  · have d1 : decide (100 < n) = true := by simp [hn]
    clear hn
    go_wp2_with (first
      | (go_at_call 29; refine (HA.out _).mono ?_; rintro z w4 ⟨rfl, hb4⟩; have X4 := Lib.hid ((hb4.block _ (lt_of_block X2.out)).trans X2.out); have B4 := Lib.hid (bthen B2.out hb4); clear hb4; obtain ⟨q0, q1, q2, q3, q4, q5⟩ := six_cells7 X4.out)
      | (go_at_call 31; refine (prun_nil _ _).mono ?_; rintro z w5 ⟨rfl, hb5⟩; have B5 := Lib.hid (bthen B4.out hb5); clear hb5)
      | (go_at_call 36; refine (pstate_nil _ _).mono ?_; rintro z w6 ⟨rfl, hb6⟩; have B6 := Lib.hid (bthen B5.out hb6); clear hb6)
      | (go_at_call 20; refine (HSA.out _).mono ?_; rintro z w7 ⟨rfl, hb7⟩; have B7 := Lib.hid (bthen B6.out hb7); clear hb7)
      | (go_at_call 34; refine (pwaiting_nil _).mono ?_; rintro z w8 ⟨rfl, hw8⟩; rw [hw8]; clear hw8 w8)
      | (go_at_call 32; refine (phandled_nil _).mono ?_; rintro z w8 ⟨rfl, hw8⟩; rw [hw8]; clear hw8 w8)
      | fail)
    go_ret
    exact ⟨rfl, B7.out⟩
  · have d1 : decide (100 < n) = false := by simp [hn]
    clear hn
    go_wp2_with (first
      | (go_at_call 29; refine (HA.out _).mono ?_; rintro z w4 ⟨rfl, hb4⟩; have X4 := Lib.hid ((hb4.block _ (lt_of_block X2.out)).trans X2.out); have B4 := Lib.hid (bthen B2.out hb4); clear hb4; obtain ⟨q0, q1, q2, q3, q4, q5⟩ := six_cells7 X4.out)
      | (go_at_call 31; refine (prun_nil _ _).mono ?_; rintro z w5 ⟨rfl, hb5⟩; have B5 := Lib.hid (bthen B4.out hb5); clear hb5)
      | (go_at_call 36; refine (pstate_nil _ _).mono ?_; rintro z w6 ⟨rfl, hb6⟩; have B6 := Lib.hid (bthen B5.out hb6); clear hb6)
      | (go_at_call 20; refine (HSA.out _).mono ?_; rintro z w7 ⟨rfl, hb7⟩; have B7 := Lib.hid (bthen B6.out hb7); clear hb7)
      | (go_at_call 34; refine (pwaiting_nil _).mono ?_; rintro z w8 ⟨rfl, hw8⟩; rw [hw8]; clear hw8 w8)
      | (go_at_call 32; refine (phandled_nil _).mono ?_; rintro z w8 ⟨rfl, hw8⟩; rw [hw8]; clear hw8 w8)
      | fail)
    go_ret
    exact ⟨rfl, B7.out⟩

end Go.Proofs.Ythkfaeplmmlnlaa
