/- The contracts of stamp.compare, Times, Compare, and of the document's own Times, Compare. -/
import Derived.Test.YtlcfibmgegjklaaStampFloat
import Derived.Deep.QuietTactic
import Derived.BigQuiet
namespace Go.Proofs.Ytlcfibmgegjklaa
open Go.RowKit

/-- -1, 0, 1 -/
def cmpI (a b : Int) : Int := if a < b then -1 else if a = b then 0 else 1
/-- the place in the order of times: what is no number comes behind all -/
def frank (x : Nat) : Int := if isNum x then ford x else 9223372036854775808
/-- a stamp -/
structure Stp where
  t : Nat
  src : Int
  n : Int
def Stp.val (s : Stp) : Value := .agg #[.float .f64 s.t, .int .i64 s.src, .int .i64 s.n]
def cmpT (x y : Nat) : Int := cmpI (frank x) (frank y)
def cmpS (a b : Stp) : Int := if cmpT a.t b.t ≠ 0 then cmpT a.t b.t else if cmpI a.src b.src ≠ 0 then cmpI a.src b.src else cmpI a.n b.n

theorem frank_num {x : Nat} (h : isNum x) : frank x = ford x ∧ ford x < 9223372036854775808 := by
  unfold frank; rw [if_pos h]
  refine ⟨rfl, ?_⟩
  unfold ford isNum at *
  split <;> omega
theorem frank_nan {x : Nat} (h : ¬ isNum x) : frank x = 9223372036854775808 := by unfold frank; rw [if_neg h]

theorem compareF_core (x y : Nat) (bx by' lt gt : Bool) (w : World)
    (HX : Hid (∀ w, Calls Try.prog 28 #[.float .f64 x] w fun e w' => e = .returned (.bool bx) ∧ w = w'))
    (HY : Hid (∀ w, Calls Try.prog 28 #[.float .f64 y] w fun e w' => e = .returned (.bool by') ∧ w = w'))
    (h1 : (FloatKind.f64.format.order x y == some Ordering.lt) = lt) (h2 : (FloatKind.f64.format.order x y == some Ordering.gt) = gt) :
    Calls Try.prog 33 #[.float .f64 x, .float .f64 y] w fun e w' => e = .returned (.int .i64 (if lt || bx && !by' then -1 else if gt || by' && !bx then 1 else 0)) ∧ w = w' := by
  cases lt <;> cases gt <;> cases bx <;> cases by'
  all_goals
    go_enter Try.func33, Try.ntmps33
    go_wp2_with (go_at_call 28; (first | refine (HX.out _).mono ?_ | refine (HY.out _).mono ?_); rintro e w' ⟨rfl, rfl⟩)
    go_ret
    exact ⟨rfl, rfl⟩

theorem compareF_any (x y : Nat) (w : World) :
    Calls Try.prog 33 #[.float .f64 x, .float .f64 y] w fun e w' => e = .returned (.int .i64 (cmpT x y)) ∧ w = w' := by
  have k := compareF_core x y _ _ _ _ w (isNumber_any x) (isNumber_any y) rfl rfl
  have e : (if (FloatKind.f64.format.order x y == some Ordering.lt) || decide (isNum x) && !decide (isNum y) then (-1 : Int) else if (FloatKind.f64.format.order x y == some Ordering.gt) || decide (isNum y) && !decide (isNum x) then 1 else 0) = cmpT x y := by
    rw [ord_lt, ord_gt]
    unfold cmpT cmpI
    by_cases hx : isNum x <;> by_cases hy : isNum y
    · have a := frank_num hx
      have b := frank_num hy
      rw [a.1, b.1]
      simp only [hx, hy, true_and, decide_true, Bool.not_true, Bool.and_false, Bool.or_false, decide_eq_true_eq]
      split
      · rfl
      · split
        · rw [if_neg (by omega)]
        · rw [if_pos (by omega)]
    · have a := frank_num hx
      rw [a.1, frank_nan hy]
      simp [hx, hy, a.2]
    · have b := frank_num hy
      rw [b.1, frank_nan hx]
      rw [if_neg (by simp [hx]), if_pos (by simp [hx, hy]), if_neg (by omega), if_neg (by omega)]
    · rw [frank_nan hx, frank_nan hy]
      simp [hx, hy]
  rw [e] at k
  exact k

theorem isNumberI_any (x : Int) (w : World) :
    Calls Try.prog 53 #[.int .i64 x] w fun e w' => e = .returned (.bool true) ∧ w = w' := by
  go_enter Try.func53, Try.ntmps53
  go_wp2_with fail
  go_ret
  exact ⟨by simp, rfl⟩

theorem compareI_any (x y : Int) (w : World) :
    Calls Try.prog 49 #[.int .i64 x, .int .i64 y] w fun e w' => e = .returned (.int .i64 (cmpI x y)) ∧ w = w' := by
  have HX := Lib.hid (isNumberI_any x)
  have HY := Lib.hid (isNumberI_any y)
  rcases Int.lt_trichotomy x y with h | h | h
  · have E : Hid (cmpI x y = -1) := by unfold cmpI; rw [if_pos h]; exact rfl
    go_enter Try.func49, Try.ntmps49
    go_wp2_with (go_at_call 53; (first | refine (HX.out _).mono ?_ | refine (HY.out _).mono ?_); rintro e w' ⟨rfl, rfl⟩)
    go_ret
    exact ⟨by rw [E.out]; rfl, rfl⟩
  · have E : Hid (cmpI x y = 0) := by unfold cmpI; rw [if_neg (by omega), if_pos h]; exact rfl
    have h1 : ¬ x < y := by omega
    have h2 : ¬ y < x := by omega
    clear h
    go_enter Try.func49, Try.ntmps49
    go_wp2_with (go_at_call 53; (first | refine (HX.out _).mono ?_ | refine (HY.out _).mono ?_); rintro e w' ⟨rfl, rfl⟩)
    go_ret
    exact ⟨by rw [E.out]; rfl, rfl⟩
  · have E : Hid (cmpI x y = 1) := by unfold cmpI; rw [if_neg (by omega), if_neg (by omega)]; exact rfl
    have h1 : ¬ x < y := by omega
    go_enter Try.func49, Try.ntmps49
    go_wp2_with (go_at_call 53; (first | refine (HX.out _).mono ?_ | refine (HY.out _).mono ?_); rintro e w' ⟨rfl, rfl⟩)
    go_ret
    exact ⟨by rw [E.out]; rfl, rfl⟩

theorem times_any (x y : Nat) (w : World) :
    Calls Try.prog 17 #[.float .f64 x, .float .f64 y] w fun e w' => e = .returned (.int .i64 (cmpT x y)) ∧ w = w' := by
  have H := Lib.hid (compareF_any x y)
  generalize cmpT x y = c at H ⊢
  go_enter Try.func17, Try.ntmps17
  go_wp2_with (go_at_call 33; refine (H.out _).mono ?_; rintro e w' ⟨rfl, rfl⟩)
  go_ret
  exact ⟨rfl, rfl⟩

set_option maxHeartbeats 1600000 in
theorem refTimes_core (x y : Nat) (bx by' lt eq : Bool) (w : World)
    (HX : Hid (∀ w, Calls Try.prog 29 #[.float .f64 x] w fun e w' => e = .returned (.bool bx) ∧ w = w'))
    (HY : Hid (∀ w, Calls Try.prog 29 #[.float .f64 y] w fun e w' => e = .returned (.bool by') ∧ w = w'))
    (h1 : (FloatKind.f64.format.order x y == some Ordering.lt) = lt) (h2 : (FloatKind.f64.format.order x y == some Ordering.eq) = eq) :
    Calls Try.prog 18 #[.float .f64 x, .float .f64 y] w fun e w' => e = .returned (.int .i64 (if !bx && !by' || eq then 0 else if !by' || lt then -1 else 1)) ∧ w = w' := by
  cases lt <;> cases eq <;> cases bx <;> cases by'
  all_goals
    go_enter Try.func18, Try.ntmps18
    go_wp2_with (go_at_call 29; (first | refine (HX.out _).mono ?_ | refine (HY.out _).mono ?_); rintro e w' ⟨rfl, rfl⟩)
    go_ret
    exact ⟨rfl, rfl⟩

theorem refTimes_any (x y : Nat) (w : World) :
    Calls Try.prog 18 #[.float .f64 x, .float .f64 y] w fun e w' => e = .returned (.int .i64 (cmpT x y)) ∧ w = w' := by
  have k := refTimes_core x y _ _ _ _ w (number_any x) (number_any y) rfl rfl
  have e : (if !decide (isNum x) && !decide (isNum y) || (FloatKind.f64.format.order x y == some Ordering.eq) then (0 : Int) else if !decide (isNum y) || (FloatKind.f64.format.order x y == some Ordering.lt) then -1 else 1) = cmpT x y := by
    rw [ord_lt, ord_eq]
    unfold cmpT cmpI
    by_cases hx : isNum x <;> by_cases hy : isNum y
    · have a := frank_num hx
      have b := frank_num hy
      rw [a.1, b.1]
      simp only [hx, hy, true_and, decide_true, Bool.not_true, Bool.and_false, Bool.false_or, decide_eq_true_eq]
      split
      · rw [if_neg (by omega)]
      · rfl
    · have a := frank_num hx
      rw [a.1, frank_nan hy]
      simp [hx, hy, a.2]
    · have b := frank_num hy
      rw [b.1, frank_nan hx]
      rw [if_neg (by simp [hx, hy]), if_neg (by simp [hx, hy]), if_neg (by omega), if_neg (by omega)]
    · rw [frank_nan hx, frank_nan hy]
      simp [hx, hy]
  rw [e] at k
  exact k

end Go.Proofs.Ytlcfibmgegjklaa
