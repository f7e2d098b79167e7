/- The contracts of the program's must, place, calculated, roll. -/
import Derived.Test.YtehdlpgopcoecaaVmPMem
namespace Go.Proofs.Ytehdlpgopcoecaa
open Go.RowKit
set_option linter.unusedVariables false
set_option maxRecDepth 100000

theorem must_ok (k : Int) (w : World) : Calls Try.prog 40 #[.bool true, .int .i64 k] w fun e w' => e = .returned (.tuple #[]) ∧ w' = w := by
  go_enter Try.func40, Try.ntmps40
  go_wp2_with fail
  go_end0
  exact ⟨rfl, rfl⟩
theorem must_bad (k : Int) (w : World) : Calls Try.prog 40 #[.bool false, .int .i64 k] w fun e w' => e = .panicked [{ v := .iface 55 (.int .i64 k), recovered := false }] ∧ w' = w := by
  go_enter Try.func40, Try.ntmps40
  go_wp2_with fail
  exact ⟨rfl, rfl, rfl⟩

section
variable {base P bd a : Nat} {lps : Int} {vw vs : Value} {r : Mch}
/-- a word's place -/
theorem place_ok (n : Int) (h0 : 0 ≤ n) (h1 : n < (r.nw : Int)) (w : World) (hr : VmAt base P bd a lps vw vs r w) :
    Calls Try.prog 44 #[.pointer (some ⟨P, 0, none⟩), .int .i64 n] w fun e w' => e = .returned (.int .i64 n) ∧ w' = w := by
  have HM := Lib.hid (must_ok 3)
  obtain ⟨aw, cw, rfl⟩ := hr.form
  obtain ⟨p8, p9, p10, p11, p12, p13, p14, pf⟩ := hr.cells
  have d0 : decide ((0 : Int) ≤ n) = true := by simp [h0]
  have d1 : decide (n < (r.nw : Int)) = true := by simp [h1]
  clear hr h0 h1
  go_enter Try.func44, Try.ntmps44
  go_wp2_with (go_at_call 40; refine (HM.out _).mono ?_; rintro e w1 ⟨rfl, rfl⟩)
  go_ret
  exact ⟨rfl, rfl⟩
theorem place_low (n : Int) (h0 : n < 0) (w : World) (hr : VmAt base P bd a lps vw vs r w) :
    Calls Try.prog 44 #[.pointer (some ⟨P, 0, none⟩), .int .i64 n] w fun e w' => e = .panicked [{ v := .iface 55 (.int .i64 3), recovered := false }] ∧ w' = w := by
  have HM := Lib.hid (must_bad 3)
  have d0 : decide ((0 : Int) ≤ n) = false := by rw [decide_eq_false_iff_not]; omega
  clear hr h0
  go_enter Try.func44, Try.ntmps44
  go_wp2_with (go_at_call 40; refine (HM.out _).mono ?_; rintro e w1 ⟨rfl, rfl⟩)
  exact ⟨rfl, rfl, rfl⟩
theorem place_high (n : Int) (h0 : 0 ≤ n) (h1 : (r.nw : Int) ≤ n) (w : World) (hr : VmAt base P bd a lps vw vs r w) :
    Calls Try.prog 44 #[.pointer (some ⟨P, 0, none⟩), .int .i64 n] w fun e w' => e = .panicked [{ v := .iface 55 (.int .i64 3), recovered := false }] ∧ w' = w := by
  have HM := Lib.hid (must_bad 3)
  obtain ⟨aw, cw, rfl⟩ := hr.form
  obtain ⟨p8, p9, p10, p11, p12, p13, p14, pf⟩ := hr.cells
  have d0 : decide ((0 : Int) ≤ n) = true := by simp [h0]
  have d1 : decide (n < (r.nw : Int)) = false := by rw [decide_eq_false_iff_not]; omega
  clear hr h0 h1
  go_enter Try.func44, Try.ntmps44
  go_wp2_with (go_at_call 40; refine (HM.out _).mono ?_; rintro e w1 ⟨rfl, rfl⟩)
  exact ⟨rfl, rfl, rfl⟩

/-- a roll -/
theorem roll7_low (n : Int) (hn : n < 1) (w : World) (hr : VmAt base P bd a lps vw vs r w) :
    Calls Try.prog 42 #[.pointer (some ⟨P, 0, none⟩), .int .i64 n] w fun e w' => e = .panicked [{ v := .iface 55 (.int .i64 4), recovered := false }] ∧ w' = w := by
  have HM := Lib.hid (must_bad 4)
  have HN := Lib.hid (next_low (some ⟨bd, 0, none⟩) n hn)
  obtain ⟨p8, p9, p10, p11, p12, p13, p14, pf⟩ := hr.cells
  clear hr hn
  go_enter Try.func42, Try.ntmps42
  go_wp2_with (first | (go_at_call 48; refine (HN.out _).mono ?_; rintro e w1 ⟨rfl, rfl⟩) | (go_at_call 40; refine (HM.out _).mono ?_; rintro e w1 ⟨rfl, rfl⟩))
  exact ⟨rfl, rfl, rfl⟩
theorem roll7_pos (n : Int) (h1 : 1 ≤ n) (hn : n ≤ 9223372036854775807) (w : World) (hr : VmAt base P bd a lps vw vs r w) :
    Calls Try.prog 42 #[.pointer (some ⟨P, 0, none⟩), .int .i64 n] w fun e w' => e = .returned (.int .i64 (belowN (behindN a r.dice) n)) ∧ w' = w.setCell ⟨bd, 1, none⟩ (.int .i64 (wrap64 (r.dice + 1))) := by
  have HM := Lib.hid (must_ok 4)
  have HN := Lib.hid (next_pos a r.dice n bd h1 hn w hr.dice)
  obtain ⟨p8, p9, p10, p11, p12, p13, p14, pf⟩ := hr.cells
  generalize belowN (behindN a r.dice) n = q at *
  clear hr h1 hn
  go_enter Try.func42, Try.ntmps42
  go_wp2_with (first | (go_at_call 48; refine HN.out.mono ?_; rintro e w1 ⟨rfl, rfl⟩) | (go_at_call 40; refine (HM.out _).mono ?_; rintro e w1 ⟨rfl, rfl⟩))
  go_ret
  exact ⟨rfl, rfl⟩
end

/-- what computes -/
theorem calc_ok (op b c : Int) (hb : r64v b) (h3 : 3 ≤ op) (h8 : op ≤ 8) (hf : twoF op c = 0) (w : World) :
    Calls Try.prog 41 #[.int .i64 op, .int .i64 b, .int .i64 c] w fun e w' => e = .returned (.int .i64 (twoV op b c)) ∧ w' = w := by
  have HM := Lib.hid (must_ok 2)
  have hop : op = 3 ∨ op = 4 ∨ op = 5 ∨ op = 6 ∨ op = 7 ∨ op = 8 := by omega
  clear h3 h8
  rcases hop with rfl | rfl | rfl | rfl | rfl | rfl
  · show Calls _ _ _ _ fun e w' => e = .returned (.int .i64 (wrap64 (b + c))) ∧ _
    clear hf
    go_enter Try.func41, Try.ntmps41
    go_wp2_with fail
    go_ret
    exact ⟨rfl, rfl⟩
  · show Calls _ _ _ _ fun e w' => e = .returned (.int .i64 (wrap64 (b - c))) ∧ _
    clear hf
    go_enter Try.func41, Try.ntmps41
    go_wp2_with fail
    go_ret
    exact ⟨rfl, rfl⟩
  · show Calls _ _ _ _ fun e w' => e = .returned (.int .i64 (wrap64 (b * c))) ∧ _
    clear hf
    go_enter Try.func41, Try.ntmps41
    go_wp2_with fail
    go_ret
    exact ⟨rfl, rfl⟩
  · have h0 : c ≠ 0 := by rintro rfl; exact absurd hf (by decide)
    have d0 : (c != 0) = true := by simp [h0]
    have e0 : (c == 0) = false := by simp [h0]
    show Calls _ _ _ _ fun e w' => e = .returned (.int .i64 (wrap64 (b.tdiv c))) ∧ _
    clear hf
    go_enter Try.func41, Try.ntmps41
    go_wp2_with (go_at_call 40; refine (HM.out _).mono ?_; rintro e w1 ⟨rfl, rfl⟩)
    go_ret
    exact ⟨rfl, rfl⟩
  · have h0 : c ≠ 0 := by rintro rfl; exact absurd hf (by decide)
    have d0 : (c != 0) = true := by simp [h0]
    have e0 : (c == 0) = false := by simp [h0]
    have e1 : twoV 7 b c = b.tmod c := by
      show wrap64 (b.tmod c) = _
      have h2 : -9223372036854775808 ≤ b.tmod c ∧ b.tmod c ≤ 9223372036854775807 := by
        obtain ⟨l, u⟩ := hb
        have : (b.tmod c).natAbs ≤ b.natAbs := by rw [Int.natAbs_tmod]; exact Nat.mod_le _ _
        have h2 : b ≤ 0 → b.tmod c ≤ 0 := fun hb => by
          have := Int.tmod_nonneg c (show 0 ≤ -b by omega)
          rw [Int.neg_tmod] at this
          omega
        omega
      unfold wrap64; omega
    rw [e1]
    clear hf e1
    go_enter Try.func41, Try.ntmps41
    go_wp2_with (go_at_call 40; refine (HM.out _).mono ?_; rintro e w1 ⟨rfl, rfl⟩)
    go_ret
    exact ⟨rfl, rfl⟩
  · by_cases h0 : b < c
    · have d0 : decide (b < c) = true := by simp [h0]
      have e2 : twoV 8 b c = 1 := by unfold twoV; simp [h0]
      rw [e2]
      clear e2 hf
      go_enter Try.func41, Try.ntmps41
      go_wp2_with fail
      go_ret
      exact ⟨rfl, rfl⟩
    · have d0 : decide (b < c) = false := by simp [h0]
      have e2 : twoV 8 b c = 0 := by unfold twoV; simp [h0]
      rw [e2]
      clear e2 hf
      go_enter Try.func41, Try.ntmps41
      go_wp2_with fail
      go_ret
      exact ⟨rfl, rfl⟩
theorem calc_bad (op b c : Int) (hf : twoF op c ≠ 0) (w : World) :
    Calls Try.prog 41 #[.int .i64 op, .int .i64 b, .int .i64 c] w fun e w' => e = .panicked [{ v := .iface 55 (.int .i64 2), recovered := false }] ∧ w' = w := by
  have HM := Lib.hid (must_bad 2)
  have h : (op = 6 ∨ op = 7) ∧ c = 0 := by
    refine Classical.byContradiction fun h => ?_
    unfold twoF at hf
    rw [if_neg h] at hf
    exact hf rfl
  clear hf
  obtain ⟨rfl | rfl, rfl⟩ := h
  all_goals
    go_enter Try.func41, Try.ntmps41
    go_wp2_with (go_at_call 40; refine (HM.out _).mono ?_; rintro e w1 ⟨rfl, rfl⟩)
    exact ⟨rfl, rfl, rfl⟩

end Go.Proofs.Ytehdlpgopcoecaa
