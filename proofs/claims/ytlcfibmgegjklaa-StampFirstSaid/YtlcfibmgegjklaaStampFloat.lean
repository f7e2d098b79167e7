/- The contracts of what stamp and the document's own answer do with floats: isNumber, Norm, Later, Times. -/
import Derived.Test.YtlcfibmgegjklaaFloatMath
import Derived.Test.YtlcfibmgegjklaaPackRead
import Derived.WalkLawsBesides
import Derived.Laws.Externs
namespace Go.Proofs.Ytlcfibmgegjklaa
open Go.RowKit

theorem frombits_run (n : Int) (w : World) : (callFunc 48 #[.int .u64 n]).run Try.prog w = .ok (.value (.float .f64 n.toNat)) w := by
  rw [run_callFunc_extern (e := Extern.MathFloatBits.float64frombits) Try.func48 (by kernel_rfl) (by kernel_rfl) (by kernel_rfl) (by kernel_rfl)]
  rfl
theorem floatbits_run (b : Nat) (w : World) : (callFunc 32 #[.float .f64 b]).run Try.prog w = .ok (.value (.int .u64 b)) w := by
  rw [run_callFunc_extern (e := Extern.MathFloatBits.float64bits) Try.func32 (by kernel_rfl) (by kernel_rfl) (by kernel_rfl) (by kernel_rfl)]
  rfl

theorem ord_eq (x y : Nat) : (FloatKind.f64.format.order x y == some .eq) = decide (isNum x ∧ isNum y ∧ ford x = ford y) := by
  change (Ieee.double.order x y == some .eq) = _
  by_cases hx : isNum x
  · by_cases hy : isNum y
    · rw [order_num x y hx hy, compare_int]
      by_cases h1 : ford x < ford y
      · rw [if_pos h1]; simp [hx, hy]; omega
      · rw [if_neg h1]
        by_cases h2 : ford x = ford y
        · rw [if_pos h2]; simp [hx, hy, h2]
        · rw [if_neg h2]; simp [hx, hy, h2]
    · rw [order_nan_right x y hy]; simp [hy]
  · rw [order_nan_left x y hx]; simp [hx]
theorem ord_lt (x y : Nat) : (FloatKind.f64.format.order x y == some .lt) = decide (isNum x ∧ isNum y ∧ ford x < ford y) := by
  change (Ieee.double.order x y == some .lt) = _
  by_cases hx : isNum x
  · by_cases hy : isNum y
    · rw [order_num x y hx hy, compare_int]
      by_cases h1 : ford x < ford y
      · rw [if_pos h1]; simp [hx, hy, h1]
      · rw [if_neg h1]
        by_cases h2 : ford x = ford y
        · rw [if_pos h2]; simp [hx, hy, h2]
        · rw [if_neg h2]; simp [hx, hy]; omega
    · rw [order_nan_right x y hy]; simp [hy]
  · rw [order_nan_left x y hx]; simp [hx]
theorem ord_gt (x y : Nat) : (FloatKind.f64.format.order x y == some .gt) = decide (isNum x ∧ isNum y ∧ ford y < ford x) := by
  change (Ieee.double.order x y == some .gt) = _
  by_cases hx : isNum x
  · by_cases hy : isNum y
    · rw [order_num x y hx hy, compare_int]
      by_cases h1 : ford x < ford y
      · rw [if_pos h1]; simp [hx, hy]; omega
      · rw [if_neg h1]
        by_cases h2 : ford x = ford y
        · rw [if_pos h2]; simp [hx, hy, h2]
        · rw [if_neg h2]; simp [hx, hy]; omega
    · rw [order_nan_right x y hy]; simp [hy]
  · rw [order_nan_left x y hx]; simp [hx]

theorem isNumber_any (x : Nat) (w : World) :
    Calls Try.prog 28 #[.float .f64 x] w fun e w' => e = .returned (.bool (decide (isNum x))) ∧ w = w' := by
  have E : Hid ((FloatKind.f64.format.order x x == some .eq) = decide (isNum x)) := by have := ord_eq x x; simpa [Hid] using this
  go_enter Try.func28, Try.ntmps28
  go_wp2_with fail
  go_ret
  exact ⟨by rw [E.out]; rfl, rfl⟩

theorem number_any (x : Nat) (w : World) :
    Calls Try.prog 29 #[.float .f64 x] w fun e w' => e = .returned (.bool (decide (isNum x))) ∧ w = w' := by
  have E : Hid ((FloatKind.f64.format.order x x == some .eq) = decide (isNum x)) := by have := ord_eq x x; simpa [Hid] using this
  go_enter Try.func29, Try.ntmps29
  go_wp2_with fail
  go_ret
  exact ⟨by rw [E.out]; rfl, rfl⟩


theorem isNumber_t (x : Nat) (h : isNum x) (w : World) : Calls Try.prog 28 #[.float .f64 x] w fun e w' => e = .returned (.bool true) ∧ w = w' := by
  have := isNumber_any x w; rwa [decide_eq_true h] at this
theorem isNumber_f (x : Nat) (h : ¬ isNum x) (w : World) : Calls Try.prog 28 #[.float .f64 x] w fun e w' => e = .returned (.bool false) ∧ w = w' := by
  have := isNumber_any x w; rwa [decide_eq_false h] at this
theorem number_t (x : Nat) (h : isNum x) (w : World) : Calls Try.prog 29 #[.float .f64 x] w fun e w' => e = .returned (.bool true) ∧ w = w' := by
  have := number_any x w; rwa [decide_eq_true h] at this
theorem number_f (x : Nat) (h : ¬ isNum x) (w : World) : Calls Try.prog 29 #[.float .f64 x] w fun e w' => e = .returned (.bool false) ∧ w = w' := by
  have := number_any x w; rwa [decide_eq_false h] at this

theorem isNum_zero : isNum 0 := by decide
theorem ford_zero : ford 0 = 0 := by decide

/-- a float and an error, as the Go functions hand them back -/
def feRet (x : Nat × Int) : Ending := .returned (.tuple #[.float .f64 x.1, .int .i64 x.2])
/-- a time as it is kept, or that it is none -/
def normSpec (x : Nat) : Nat × Int := if isNum x then (if ford x = 0 then (0, 0) else (x, 0)) else (0, 7)

theorem norm_any (x : Nat) (w : World) :
    Calls Try.prog 11 #[.float .f64 x] w fun e w' => e = feRet (normSpec x) ∧ w = w' := by
  by_cases h : isNum x
  · have H := Lib.hid (isNumber_t x h)
    by_cases h0 : ford x = 0
    · have hz : (FloatKind.f64.format.order x 0 == some Ordering.eq) = true := by rw [ord_eq]; simp [h, h0, isNum_zero, ford_zero]
      have E : Hid (normSpec x = (0, 0)) := by unfold normSpec; rw [if_pos h, if_pos h0]; exact rfl
      clear h h0
      go_enter Try.func11, Try.ntmps11
      go_wp2_with (go_at_call 28; refine (H.out _).mono ?_; rintro e w' ⟨rfl, rfl⟩)
      go_ret2
      exact ⟨by rw [E.out]; rfl, rfl⟩
    · have hz : (FloatKind.f64.format.order x 0 == some Ordering.eq) = false := by rw [ord_eq]; simp [h0, ford_zero]
      have E : Hid (normSpec x = (x, 0)) := by unfold normSpec; rw [if_pos h, if_neg h0]; exact rfl
      clear h h0
      go_enter Try.func11, Try.ntmps11
      go_wp2_with (go_at_call 28; refine (H.out _).mono ?_; rintro e w' ⟨rfl, rfl⟩)
      go_ret2
      exact ⟨by rw [E.out]; rfl, rfl⟩
  · have H := Lib.hid (isNumber_f x h)
    have E : Hid (normSpec x = (0, 7)) := by unfold normSpec; rw [if_neg h]; exact rfl
    clear h
    go_enter Try.func11, Try.ntmps11
    go_wp2_with (go_at_call 28; refine (H.out _).mono ?_; rintro e w' ⟨rfl, rfl⟩)
    go_ret2
    exact ⟨by rw [E.out]; rfl, rfl⟩

theorem refNorm_any (x : Nat) (w : World) :
    Calls Try.prog 12 #[.float .f64 x] w fun e w' => e = feRet (normSpec x) ∧ w = w' := by
  by_cases h : isNum x
  · have H := Lib.hid (number_t x h)
    by_cases h0 : ford x = 0
    · have hz : (FloatKind.f64.format.order x 0 == some Ordering.eq) = true := by rw [ord_eq]; simp [h, h0, isNum_zero, ford_zero]
      have E : Hid (normSpec x = (0, 0)) := by unfold normSpec; rw [if_pos h, if_pos h0]; exact rfl
      clear h h0
      go_enter Try.func12, Try.ntmps12
      go_wp2_with (go_at_call 29; refine (H.out _).mono ?_; rintro e w' ⟨rfl, rfl⟩)
      go_ret2
      exact ⟨by rw [E.out]; rfl, rfl⟩
    · have hz : (FloatKind.f64.format.order x 0 == some Ordering.eq) = false := by rw [ord_eq]; simp [h0, ford_zero]
      have E : Hid (normSpec x = (x, 0)) := by unfold normSpec; rw [if_pos h, if_neg h0]; exact rfl
      clear h h0
      go_enter Try.func12, Try.ntmps12
      go_wp2_with (go_at_call 29; refine (H.out _).mono ?_; rintro e w' ⟨rfl, rfl⟩)
      go_ret2
      exact ⟨by rw [E.out]; rfl, rfl⟩
  · have H := Lib.hid (number_f x h)
    have E : Hid (normSpec x = (0, 7)) := by unfold normSpec; rw [if_neg h]; exact rfl
    clear h
    go_enter Try.func12, Try.ntmps12
    go_wp2_with (go_at_call 29; refine (H.out _).mono ?_; rintro e w' ⟨rfl, rfl⟩)
    go_ret2
    exact ⟨by rw [E.out]; rfl, rfl⟩

/- sums -/

theorem nan_cut (x y t : Nat) : ¬ isNum ((Question.nanBits .f64 x y).cut t) ∧ (Question.nanBits .f64 x y).cut t < 18446744073709551616 := by
  have e : (Question.nanBits .f64 x y).cut t = (t % 2) * 9223372036854775808 + 9218868437227405312 + 1 + (t / 2) % 4503599627370495 := rfl
  rw [e]
  unfold isNum rung
  have := Nat.mod_lt (t / 2) (show 4503599627370495 > 0 by omega)
  generalize t / 2 % 4503599627370495 = q at *
  rcases (by omega : t % 2 = 0 ∨ t % 2 = 1) with h | h <;> rw [h] <;> omega

/-- what '+' gives: the sum, or, where there is none, something that is no number -/
theorem add_run (T : TypeId) (x y : Nat) (w : World) : ∃ s w', (binOp .add T (.float .f64 x) (.float .f64 y)).run Try.prog w = .ok (.float .f64 s) w' ∧ Below w.heap.size w w' ∧ (FloatKind.f64.format.add x y = some s ∨ FloatKind.f64.format.add x y = none ∧ ¬ isNum s) := by
  rcases h : FloatKind.f64.format.add x y with _ | r
  · refine ⟨(Question.nanBits .f64 x y).cut (w.tape w.drawn (Question.nanBits .f64 x y)), w.drew, ?_, (Below.refl _ _).drew, .inr ⟨rfl, (nan_cut x y _).1⟩⟩
    simp [binOp, Op.floatArith, h, Question.forced]
  · exact ⟨r, w, run_float_arith w .add T .f64 x y r h, Below.refl _ _, .inl rfl⟩

/-- what comes later: the sum, or that it is none -/
def laterSpec (t d : Nat) : Nat × Int :=
  match FloatKind.f64.format.add t d with
  | none => (0, 7)
  | some s => if isNum t ∧ isNum d ∧ 0 < ford d ∧ isNum s ∧ ford t < ford s then (s, 0) else (0, 7)

theorem later_core (t d s : Nat) (w w1 : World) (b1 b2 : Bool)
    (hrun : (binOp .add 22 (.float .f64 t) (.float .f64 d)).run Try.prog w = .ok (.float .f64 s) w1) (hb : Hid (Below w.heap.size w w1))
    (h1 : (FloatKind.f64.format.order d 0 == some Ordering.gt) = b1) (h2 : (FloatKind.f64.format.order s t == some Ordering.gt) = b2) :
    Calls Try.prog 13 #[.float .f64 t, .float .f64 d] w fun e w' => e = feRet (if b1 && b2 then (s, 0) else (0, 7)) ∧ Below w.heap.size w w' := by
  cases b1 <;> cases b2
  all_goals
    go_enter Try.func13, Try.ntmps13
    go_wp2_with fail
    go_ret2
    exact ⟨rfl, hb.out⟩

theorem later_any (t d : Nat) (w : World) :
    Calls Try.prog 13 #[.float .f64 t, .float .f64 d] w fun e w' => e = feRet (laterSpec t d) ∧ Below w.heap.size w w' := by
  obtain ⟨s, w1, hrun, hb, hs⟩ := add_run 22 t d w
  have k := later_core t d s w w1 _ _ hrun hb rfl rfl
  have e : (if (FloatKind.f64.format.order d 0 == some Ordering.gt) && (FloatKind.f64.format.order s t == some Ordering.gt) then (s, 0) else (0, 7)) = laterSpec t d := by
    rw [ord_gt, ord_gt]
    unfold laterSpec
    rcases hs with hs | ⟨hs, hn⟩
    · rw [hs]
      dsimp only
      by_cases c : isNum t ∧ isNum d ∧ 0 < ford d ∧ isNum s ∧ ford t < ford s
      · rw [if_pos c]
        obtain ⟨c1, c2, c3, c4, c5⟩ := c
        simp [c1, c2, c3, c4, c5, isNum_zero, ford_zero]
      · rw [if_neg c, if_neg]
        intro k
        simp only [Bool.and_eq_true, decide_eq_true_eq, ford_zero] at k
        exact c ⟨k.2.2.1, k.1.1, k.1.2.2, k.2.1, k.2.2.2⟩
    · rw [hs]
      simp [hn]
  rw [e] at k
  exact k

/-- a sum that comes later is no zero below -/
theorem later_zero (t d s : Nat) (hd : 0 < ford d) (ht : isNum t) (hn : isNum d) (hs : FloatKind.f64.format.add t d = some s) (hl : ford t < ford s) : ford s = 0 → s = 0 := by
  have hs' : Ieee.double.add t d = some s := hs
  have sd : sgn d = false := by
    rcases sgn_cases d with c | c
    · unfold ford at hd; rw [c] at hd; simp at hd; omega
    · exact c
  unfold isNum at ht hn
  by_cases ft : isFin t
  · by_cases fd : isFin d
    · obtain ⟨r, h1, _, _, _, h5⟩ := sum_fin t d ft fd
      rw [h1] at hs'
      cases hs'
      exact h5 sd
    · have id : rung d = 9218868437227405312 := by unfold isFin at fd; omega
      obtain ⟨m, k, e, _⟩ := read_num t ft
      unfold Ieee.Format.add at hs'
      rw [e, read_inf d id, sd] at hs'
      have : s = 9218868437227405312 := by
        have h2 : Ieee.double.write (.infinity false) = s := by simpa [Ieee.Datum.sum] using hs'
        rw [← h2]; rfl
      subst this
      intro h; exact absurd h (by decide)
  · have it : rung t = 9218868437227405312 := by unfold isFin at ft; omega
    intro h
    rcases sgn_cases t with c | c
    · have ht0 : Ieee.double.read t = .infinity true := by rw [read_inf t it, c]
      unfold Ieee.Format.add at hs'
      rw [ht0] at hs'
      by_cases fd : isFin d
      · obtain ⟨m, k, e, _⟩ := read_num d fd
        rw [e] at hs'
        have h2 : Ieee.double.write (.infinity true) = s := by simpa [Ieee.Datum.sum] using hs'
        have : s = 18442240474082181120 := by rw [← h2]; rfl
        subst this
        exact absurd h (by decide)
      · have id : rung d = 9218868437227405312 := by unfold isFin at fd; omega
        rw [read_inf d id, sd] at hs'
        simp [Ieee.Datum.sum] at hs'
    · unfold ford at hl
      rw [c, it] at hl
      unfold ford at h
      rcases sgn_cases s with c2 | c2 <;> rw [c2] at hl h <;> simp at hl h <;> omega

theorem leq_form (x y : Nat) (hx : isNum x) (hy : isNum y) : ((FloatKind.f64.format.order x y == some Ordering.lt) || (FloatKind.f64.format.order x y == some Ordering.eq)) = decide (ford x ≤ ford y) := by
  rw [ord_lt, ord_eq]
  simp only [hx, hy, true_and]
  by_cases h : ford x ≤ ford y
  · rw [decide_eq_true h]
    rcases Int.lt_or_eq_of_le h with c | c
    · simp [c]
    · simp [c]
  · simp [h]; omega

set_option maxHeartbeats 1600000 in
theorem refLater_any (t d : Nat) (w : World) :
    Calls Try.prog 14 #[.float .f64 t, .float .f64 d] w fun e w' => e = feRet (laterSpec t d) ∧ Below w.heap.size w w' := by
  obtain ⟨s, w1, hrun, hb, hs⟩ := add_run 22 t d w
  have bad : ∀ x : Unit, ¬ (isNum t ∧ isNum d ∧ 0 < ford d ∧ isNum s ∧ ford t < ford s) → laterSpec t d = (0, 7) := by
    intro _ c
    unfold laterSpec
    rcases hs with hs | ⟨hs, hn⟩
    · rw [hs]; exact if_neg c
    · rw [hs]
  by_cases ht : isNum t
  · have HT := Lib.hid (number_t t ht)
    by_cases hd : isNum d
    · have HD := Lib.hid (number_t d hd)
      by_cases h0 : 0 < ford d
      · have hz : ((FloatKind.f64.format.order d 0 == some Ordering.lt) || (FloatKind.f64.format.order d 0 == some Ordering.eq)) = false := by rw [leq_form d 0 hd isNum_zero, ford_zero]; simp; omega
        by_cases hn : isNum s
        · have HS := Lib.hid (number_t s hn)
          by_cases hl : ford t < ford s
          · have hq : ((FloatKind.f64.format.order s t == some Ordering.lt) || (FloatKind.f64.format.order s t == some Ordering.eq)) = false := by rw [leq_form s t hn ht]; simp; omega
            have hsum : FloatKind.f64.format.add t d = some s := by rcases hs with hs | ⟨_, k⟩; exact hs; exact absurd hn k
            have E : Hid (laterSpec t d = normSpec s) := by
              have hz := later_zero t d s h0 ht hd hsum hl
              unfold laterSpec normSpec
              rw [hsum]
              dsimp only
              rw [if_pos ⟨ht, hd, h0, hn, hl⟩, if_pos hn]
              by_cases c : ford s = 0
              · rw [if_pos c, hz c]; exact rfl
              · rw [if_neg c]; exact rfl
            have HR := Lib.hid (refNorm_any s)
            generalize normSpec s = r at E HR
            obtain ⟨r0, r1⟩ := r
            unfold feRet at HR
            have HB := Lib.hid hb
            clear bad hs ht hd h0 hn hl hsum hb
            go_enter Try.func14, Try.ntmps14
            go_wp2_with (first | (go_at_call 29; (first | refine (HT.out _).mono ?_ | refine (HD.out _).mono ?_ | refine (HS.out _).mono ?_); rintro e w' ⟨rfl, rfl⟩) | (go_at_call 12; refine (HR.out _).mono ?_; rintro e w' ⟨rfl, rfl⟩))
            go_ret2
            exact ⟨by rw [E.out]; rfl, HB.out⟩
          · have hq : ((FloatKind.f64.format.order s t == some Ordering.lt) || (FloatKind.f64.format.order s t == some Ordering.eq)) = true := by rw [leq_form s t hn ht]; simp; omega
            have E := Lib.hid (bad () (fun c => hl c.2.2.2.2))
            have HB := Lib.hid hb
            clear bad hs ht hd h0 hn hl hb
            go_enter Try.func14, Try.ntmps14
            go_wp2_with (go_at_call 29; (first | refine (HT.out _).mono ?_ | refine (HD.out _).mono ?_ | refine (HS.out _).mono ?_); rintro e w' ⟨rfl, rfl⟩)
            go_ret2
            exact ⟨by rw [E.out]; rfl, HB.out⟩
        · have HS := Lib.hid (number_f s hn)
          have E := Lib.hid (bad () (fun c => hn c.2.2.2.1))
          have HB := Lib.hid hb
          clear bad hs ht hd h0 hn hb
          go_enter Try.func14, Try.ntmps14
          go_wp2_with (go_at_call 29; (first | refine (HT.out _).mono ?_ | refine (HD.out _).mono ?_ | refine (HS.out _).mono ?_); rintro e w' ⟨rfl, rfl⟩)
          go_ret2
          exact ⟨by rw [E.out]; rfl, HB.out⟩
      · have hz : ((FloatKind.f64.format.order d 0 == some Ordering.lt) || (FloatKind.f64.format.order d 0 == some Ordering.eq)) = true := by rw [leq_form d 0 hd isNum_zero, ford_zero]; simp; omega
        have E := Lib.hid (bad () (fun c => h0 c.2.2.1))
        clear bad hs ht hd h0 hb hrun
        go_enter Try.func14, Try.ntmps14
        go_wp2_with (go_at_call 29; (first | refine (HT.out _).mono ?_ | refine (HD.out _).mono ?_); rintro e w' ⟨rfl, rfl⟩)
        go_ret2
        exact ⟨by rw [E.out]; rfl, Below.refl _ _⟩
    · have HD := Lib.hid (number_f d hd)
      have E := Lib.hid (bad () (fun c => hd c.2.1))
      clear bad hs ht hd hb hrun
      go_enter Try.func14, Try.ntmps14
      go_wp2_with (go_at_call 29; (first | refine (HT.out _).mono ?_ | refine (HD.out _).mono ?_); rintro e w' ⟨rfl, rfl⟩)
      go_ret2
      exact ⟨by rw [E.out]; rfl, Below.refl _ _⟩
  · have HT := Lib.hid (number_f t ht)
    have E := Lib.hid (bad () (fun c => ht c.1))
    clear bad hs ht hb hrun
    go_enter Try.func14, Try.ntmps14
    go_wp2_with (go_at_call 29; refine (HT.out _).mono ?_; rintro e w' ⟨rfl, rfl⟩)
    go_ret2
    exact ⟨by rw [E.out]; rfl, Below.refl _ _⟩

end Go.Proofs.Ytlcfibmgegjklaa
