/- The contracts of the document's quot, two. -/
import Derived.Test.YtehdlpgopcoecaaVmMem
namespace Go.Proofs.Ytehdlpgopcoecaa
open Go.RowKit
set_option linter.unusedVariables false
set_option maxRecDepth 100000

theorem quot7_any (b c : Int) (h0 : c ≠ 0) (w : World) :
    Calls Try.prog 37 #[.int .i64 b, .int .i64 c] w fun e w' => e = .returned (.tuple #[.int .i64 (quotQ b c), .int .i64 (quotR b c)]) ∧ ∃ m, w' = w.drewN m := by
  by_cases h1 : c = -1
  · subst h1
    go_enter Try.func37, Try.ntmps37
    go_wp2_with fail
    exact bodyPost_ret (v := .tuple #[.int .i64 (wrap64 (-b)), .int .i64 0]) (by simp [results, Try.results37, go_sem]) rfl ⟨by rw [quotQ_neg, quotR_neg], 0, rfl⟩
  · have d1 : (c == -1) = false := by simp [h1]
    have hq : quotQ b c = wrap64 (b.tdiv c) := rfl
    have hr := quotR_eq b c
    rw [hq, ← hr]
    clear hq hr
    go_enter Try.func37, Try.ntmps37
    go_wp2_with fail
    go_region
    go_wp2_with fail
    exact bodyPost_ret (v := .tuple #[.int .i64 (wrap64 (b.tdiv c)), .int .i64 (wrap64 (b - wrap64 (wrap64 (b.tdiv c) * c)))]) (by simp [results, Try.results37, go_sem]) rfl ⟨rfl, 1, rfl⟩

theorem two7_any (op b c : Int) (h3 : 3 ≤ op) (h8 : op ≤ 8) (w : World) :
    Calls Try.prog 30 #[.int .i64 op, .int .i64 b, .int .i64 c] w fun e w' => e = .returned (.tuple #[.int .i64 (if twoF op c = 0 then twoV op b c else 0), .int .i64 (twoF op c)]) ∧ ∃ m, w' = w.drewN m := by
  have HQ := Lib.hid (quot7_any b c)
  have hop : op = 3 ∨ op = 4 ∨ op = 5 ∨ op = 6 ∨ op = 7 ∨ op = 8 := by omega
  clear h3 h8
  rcases hop with rfl | rfl | rfl | rfl | rfl | rfl
  · show Calls _ _ _ _ fun e w' => e = .returned (.tuple #[.int .i64 (wrap64 (b + c)), .int .i64 0]) ∧ _
    go_enter Try.func30, Try.ntmps30
    go_wp2_with fail
    exact bodyPost_ret (v := .tuple #[.int .i64 (wrap64 (b + c)), .int .i64 0]) (by simp [results, Try.results30, go_sem]) rfl ⟨rfl, 0, rfl⟩
  · show Calls _ _ _ _ fun e w' => e = .returned (.tuple #[.int .i64 (wrap64 (b - c)), .int .i64 0]) ∧ _
    go_enter Try.func30, Try.ntmps30
    go_wp2_with fail
    exact bodyPost_ret (v := .tuple #[.int .i64 (wrap64 (b - c)), .int .i64 0]) (by simp [results, Try.results30, go_sem]) rfl ⟨rfl, 0, rfl⟩
  · show Calls _ _ _ _ fun e w' => e = .returned (.tuple #[.int .i64 (wrap64 (b * c)), .int .i64 0]) ∧ _
    go_enter Try.func30, Try.ntmps30
    go_wp2_with fail
    exact bodyPost_ret (v := .tuple #[.int .i64 (wrap64 (b * c)), .int .i64 0]) (by simp [results, Try.results30, go_sem]) rfl ⟨rfl, 0, rfl⟩
  · by_cases h0 : c = 0
    · subst h0
      go_enter Try.func30, Try.ntmps30
      go_wp2_with fail
      exact bodyPost_ret (v := .tuple #[.int .i64 0, .int .i64 2]) (by simp [results, Try.results30, go_sem]) rfl ⟨rfl, 0, rfl⟩
    · have d0 : (c == 0) = false := by simp [h0]
      have e1 : twoF 6 c = 0 := by unfold twoF; simp [h0]
      have e2 : twoV 6 b c = quotQ b c := by unfold twoV; simp
      rw [e1, if_pos rfl, e2]
      have HQ1 := Lib.hid (HQ.out h0)
      clear HQ e1 e2 h0
      go_enter Try.func30, Try.ntmps30
      go_wp2_with (refine (HQ1.out _).mono ?_; rintro e w1 ⟨rfl, m1, rfl⟩)
      exact bodyPost_ret (v := .tuple #[.int .i64 (quotQ b c), .int .i64 0]) (by simp [results, Try.results30, go_sem]) rfl ⟨rfl, m1, rfl⟩
  · by_cases h0 : c = 0
    · subst h0
      go_enter Try.func30, Try.ntmps30
      go_wp2_with fail
      exact bodyPost_ret (v := .tuple #[.int .i64 0, .int .i64 2]) (by simp [results, Try.results30, go_sem]) rfl ⟨rfl, 0, rfl⟩
    · have d0 : (c == 0) = false := by simp [h0]
      have e1 : twoF 7 c = 0 := by unfold twoF; simp [h0]
      have e2 : twoV 7 b c = quotR b c := by unfold twoV; simp
      rw [e1, if_pos rfl, e2]
      have HQ1 := Lib.hid (HQ.out h0)
      clear HQ e1 e2 h0
      go_enter Try.func30, Try.ntmps30
      go_wp2_with (refine (HQ1.out _).mono ?_; rintro e w1 ⟨rfl, m1, rfl⟩)
      exact bodyPost_ret (v := .tuple #[.int .i64 (quotR b c), .int .i64 0]) (by simp [results, Try.results30, go_sem]) rfl ⟨rfl, m1, rfl⟩
  · by_cases h0 : b < c
    · have d0 : decide (b < c) = true := by simp [h0]
      have e2 : (if twoF 8 c = 0 then twoV 8 b c else 0) = 1 := by unfold twoF twoV; simp [h0]
      rw [e2]
      clear e2
      go_enter Try.func30, Try.ntmps30
      go_wp2_with fail
      exact bodyPost_ret (v := .tuple #[.int .i64 1, .int .i64 0]) (by simp [results, Try.results30, go_sem]) rfl ⟨rfl, 0, rfl⟩
    · have d0 : decide (b < c) = false := by simp [h0]
      have e2 : (if twoF 8 c = 0 then twoV 8 b c else 0) = 0 := by unfold twoF twoV; simp [h0]
      rw [e2]
      clear e2
      go_enter Try.func30, Try.ntmps30
      go_wp2_with fail
      exact bodyPost_ret (v := .tuple #[.int .i64 0, .int .i64 0]) (by simp [results, Try.results30, go_sem]) rfl ⟨rfl, 0, rfl⟩

end Go.Proofs.Ytehdlpgopcoecaa
