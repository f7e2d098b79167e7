/- What must come at any rate ('awake'), and small contracts of package math. -/
import Derived.Test.YtlcfibmgegjklaaStampCompare
namespace Go.Proofs.Ytlcfibmgegjklaa
open Go.RowKit

theorem wrap_i64_u (x : Nat) (h : x < 18446744073709551616) : wrap64 (x : Int) = if x < 9223372036854775808 then (x : Int) else (x : Int) - 18446744073709551616 := by
  unfold wrap64
  split <;> omega

theorem signbit_any (x : Nat) (hx : x < 18446744073709551616) (w : World) :
    Calls Try.prog 26 #[.float .f64 x] w fun e w' => e = .returned (.bool (sgn x)) ∧ w = w' := by
  have hb := floatbits_run x
  have E : Hid (decide (wrap64 (x : Int) < 0) = sgn x) := by
    rw [wrap_i64_u x hx]
    unfold sgn
    by_cases c : x < 9223372036854775808
    · rw [if_pos c]
      have e : x / 9223372036854775808 % 2 = 0 := by omega
      rw [e]; simp [Hid]
    · rw [if_neg c]
      have e : x / 9223372036854775808 % 2 = 1 := by omega
      rw [e]; simp [Hid]; omega
  go_enter Try.func26, Try.ntmps26
  go_wp2_with fail
  go_ret
  exact ⟨by rw [← E.out]; rfl, rfl⟩

theorem copysign_one (w : World) :
    Calls Try.prog 30 #[.float .f64 0, .float .f64 13830554455654793216] w fun e w' => e = .returned (.float .f64 9223372036854775808) ∧ w = w' := by
  have hb := floatbits_run
  have hf := frombits_run
  go_enter Try.func30, Try.ntmps30
  go_wp2_with fail
  go_ret
  exact ⟨rfl, rfl⟩

theorem nan_one (w : World) :
    Calls Try.prog 31 #[] w fun e w' => e = .returned (.float .f64 9221120237041090561) ∧ w = w' := by
  have hf := frombits_run
  go_enter Try.func31, Try.ntmps31
  go_wp2_with fail
  go_ret
  exact ⟨rfl, rfl⟩

theorem same_any (x y : Nat) (w : World) :
    Calls Try.prog 16 #[.float .f64 x, .float .f64 y] w fun e w' => e = .returned (.bool ((x : Int) == (y : Int))) ∧ w = w' := by
  have hb := floatbits_run
  go_enter Try.func16, Try.ntmps16
  go_wp2_with fail
  go_ret
  exact ⟨rfl, rfl⟩

theorem aw1 : laterSpec 4607182418800017408 4602678819172646912 = (4609434218613702656, 0) := by decide +kernel
theorem aw2 : laterSpec 4845873199050653696 4602678819172646912 = (0, 7) := by decide +kernel
theorem aw3 : normSpec 9223372036854775808 = (0, 0) := by decide +kernel
theorem aw4 : normSpec 9221120237041090561 = (0, 7) := by decide +kernel
theorem aw5 : cmpS ⟨4607182418800017408, 0, 0⟩ ⟨4607182418800017408, 0, 1⟩ = -1 := by decide +kernel
theorem aw6 : sgn 0 = false := by decide +kernel
theorem aw7 : (FloatKind.f64.format.order 4609434218613702656 4609434218613702656 == some Ordering.eq) = true := by decide +kernel

set_option maxHeartbeats 1600000 in
theorem awake_core (w : World)
    (H1 : Hid (∀ w, Calls Try.prog 13 #[.float .f64 4607182418800017408, .float .f64 4602678819172646912] w fun e w' => e = .returned (.tuple #[.float .f64 4609434218613702656, .int .i64 0]) ∧ Below w.heap.size w w'))
    (H2 : Hid (∀ w, Calls Try.prog 13 #[.float .f64 4845873199050653696, .float .f64 4602678819172646912] w fun e w' => e = .returned (.tuple #[.float .f64 0, .int .i64 7]) ∧ Below w.heap.size w w'))
    (H3 : Hid (∀ w, Calls Try.prog 11 #[.float .f64 9223372036854775808] w fun e w' => e = .returned (.tuple #[.float .f64 0, .int .i64 0]) ∧ w = w'))
    (H4 : Hid (∀ w, Calls Try.prog 11 #[.float .f64 9221120237041090561] w fun e w' => e = .returned (.tuple #[.float .f64 0, .int .i64 7]) ∧ w = w'))
    (H5 : Hid (∀ w, Calls Try.prog 19 #[.agg #[.float .f64 4607182418800017408, .int .i64 0, .int .i64 0], .agg #[.float .f64 4607182418800017408, .int .i64 0, .int .i64 1]] w fun e w' => e = .returned (.int .i64 (-1)) ∧ Below w.heap.size w w'))
    (H6 : Hid (∀ w, Calls Try.prog 26 #[.float .f64 0] w fun e w' => e = .returned (.bool false) ∧ w = w')) :
    Calls Try.prog 15 #[] w fun e w' => e = .returned (.bool true) ∧ Below w.heap.size w w' := by
  have h7 := aw7
  go_enter Try.func15, Try.ntmps15
  go_wp2_with fail
  refine (H1.out _).mono ?_
  rintro e w1 ⟨rfl, hb1⟩
  go_wp2_with fail
  refine (H2.out _).mono ?_
  rintro e w2 ⟨rfl, hb2⟩
  go_wp2_with fail
  refine (copysign_one _).mono ?_
  rintro e w3 ⟨rfl, rfl⟩
  go_wp2_with fail
  refine (H3.out _).mono ?_
  rintro e w3 ⟨rfl, rfl⟩
  go_wp2_with fail
  refine (nan_one _).mono ?_
  rintro e w3 ⟨rfl, rfl⟩
  go_wp2_with fail
  refine (H4.out _).mono ?_
  rintro e w3 ⟨rfl, rfl⟩
  go_wp2_with fail
  refine (H6.out _).mono ?_
  rintro e w3 ⟨rfl, rfl⟩
  go_wp2_with fail
  refine (H5.out _).mono ?_
  rintro e w4 ⟨rfl, hb4⟩
  go_wp2_with fail
  go_ret
  exact ⟨rfl, bthen (bthen hb1 hb2) hb4⟩

theorem awake2_any (w : World) :
    Calls Try.prog 15 #[] w fun e w' => e = .returned (.bool true) ∧ Below w.heap.size w w' := by
  refine awake_core w (fun w => ?_) (fun w => ?_) (fun w => ?_) (fun w => ?_) (fun w => ?_) (fun w => ?_)
  · have := later_any 4607182418800017408 4602678819172646912 w; rwa [aw1] at this
  · have := later_any 4845873199050653696 4602678819172646912 w; rwa [aw2] at this
  · have := norm_any 9223372036854775808 w; rwa [aw3] at this
  · have := norm_any 9221120237041090561 w; rwa [aw4] at this
  · have := compare_any ⟨4607182418800017408, 0, 0⟩ ⟨4607182418800017408, 0, 1⟩ w; rwa [aw5] at this
  · have := signbit_any 0 (by decide) w; rwa [aw6] at this

end Go.Proofs.Ytlcfibmgegjklaa
