/- The walks of the laws StampLater and StampGrows. -/
import Derived.Test.YtlcfibmgegjklaaStampAwake
namespace Go.Proofs.Ytlcfibmgegjklaa
open Go.RowKit

set_option maxHeartbeats 1600000 in
theorem stampLater_core (t d x y : Nat) (e f : Int) (w : World)
    (H1 : Hid (∀ w, Calls Try.prog 11 #[.float .f64 t] w fun e' w' => e' = .returned (.tuple #[.float .f64 x, .int .i64 e]) ∧ w = w'))
    (H2 : Hid (∀ w, Calls Try.prog 12 #[.float .f64 t] w fun e' w' => e' = .returned (.tuple #[.float .f64 x, .int .i64 e]) ∧ w = w'))
    (H3 : Hid (∀ w, Calls Try.prog 13 #[.float .f64 t, .float .f64 d] w fun e' w' => e' = .returned (.tuple #[.float .f64 y, .int .i64 f]) ∧ Below w.heap.size w w'))
    (H4 : Hid (∀ w, Calls Try.prog 14 #[.float .f64 t, .float .f64 d] w fun e' w' => e' = .returned (.tuple #[.float .f64 y, .int .i64 f]) ∧ Below w.heap.size w w'))
    (H5 : Hid (∀ w, Calls Try.prog 16 #[.float .f64 x, .float .f64 x] w fun e' w' => e' = .returned (.bool true) ∧ w = w'))
    (H6 : Hid (∀ w, Calls Try.prog 16 #[.float .f64 y, .float .f64 y] w fun e' w' => e' = .returned (.bool true) ∧ w = w')) :
    Calls Try.prog 3 #[.float .f64 t, .float .f64 d] w fun e w' => e = .returned (.bool true) ∧ Below w.heap.size w w' := by
  go_enter Try.func3, Try.ntmps3
  go_wp2_with fail
  refine (H1.out _).mono ?_
  rintro e' w1 ⟨rfl, rfl⟩
  go_wp2_with fail
  refine (H2.out _).mono ?_
  rintro e' w1 ⟨rfl, rfl⟩
  go_wp2_with fail
  refine (H3.out _).mono ?_
  rintro e' w1 ⟨rfl, hb1⟩
  go_wp2_with fail
  refine (H4.out _).mono ?_
  rintro e' w2 ⟨rfl, hb2⟩
  go_wp2_with fail
  refine (awake2_any _).mono ?_
  rintro e' w3 ⟨rfl, hb3⟩
  go_wp2_with fail
  refine (H5.out _).mono ?_
  rintro e' w4 ⟨rfl, rfl⟩
  go_wp2_with fail
  refine (H6.out _).mono ?_
  rintro e' w4 ⟨rfl, rfl⟩
  go_wp2_with fail
  go_ret
  exact ⟨by first | rfl | simp, bthen (bthen hb1 hb2) hb3⟩

theorem stampLater_walk (t d : Nat) (w : World) (_ht : (Lit.float .f64 t).wf = true) (_hd : (Lit.float .f64 d).wf = true) :
    Calls Try.prog 3 #[.float .f64 t, .float .f64 d] w fun e w' => e = .returned (.bool true) ∧ Below w.heap.size w w' := by
  refine stampLater_core t d (normSpec t).1 (laterSpec t d).1 (normSpec t).2 (laterSpec t d).2 w (norm_any t) (refNorm_any t) (later_any t d) (refLater_any t d) (fun w => ?_) (fun w => ?_)
  · have := same_any (normSpec t).1 (normSpec t).1 w; simpa using this
  · have := same_any (laterSpec t d).1 (laterSpec t d).1 w; simpa using this

/-- what 'Later' tells: an error, or a sum that is greater; never another error -/
theorem later_ok (t d : Nat) (h : (laterSpec t d).2 = 0) : ∃ s, laterSpec t d = (s, 0) ∧ FloatKind.f64.format.add t d = some s ∧ isNum t ∧ isNum d ∧ 0 < ford d ∧ isNum s ∧ ford t < ford s := by
  unfold laterSpec at h ⊢
  split at h
  · simp at h
  · rename_i s hs
    split at h
    · rename_i c
      rw [if_pos c]
      exact ⟨s, rfl, hs, c⟩
    · simp at h

/-- of a greater time, no less -/
theorem later_grows (t u d x y : Nat) (hx : FloatKind.f64.format.add t d = some x) (hy : FloatKind.f64.format.add u d = some y) (ht : isNum t) (hu : isNum u) (hd : isNum d) (h0 : 0 < ford d) (hlx : ford t < ford x) (hly : ford u < ford y) (nx : isNum x) (ny : isNum y) (h : ford t ≤ ford u) : ford x ≤ ford y := by
  have hx' : Ieee.double.add t d = some x := hx
  have hy' : Ieee.double.add u d = some y := hy
  have sd : sgn d = false := by
    rcases sgn_cases d with c | c
    · unfold ford at h0; rw [c] at h0; simp at h0; omega
    · exact c
  have top : ∀ z, isNum z → ford z ≤ 9218868437227405312 := by intro z hz; unfold isNum at hz; unfold ford; split <;> omega
  have fin : ∀ a z, Ieee.double.add a d = some z → isNum a → isNum z → ford a < ford z → isFin a := by
    intro a z ha na nz hl
    unfold isNum at na hd
    by_cases fa : isFin a
    · exact fa
    · exfalso
      have ia : rung a = 9218868437227405312 := by unfold isFin at fa; omega
      unfold Ieee.Format.add at ha
      rw [read_inf a ia] at ha
      rcases sgn_cases a with c | c
      · rw [c] at ha
        by_cases fd : isFin d
        · obtain ⟨m, k, e, _⟩ := read_num d fd
          rw [e] at ha
          have h2 : Ieee.double.write (.infinity true) = z := by simpa [Ieee.Datum.sum] using ha
          have : z = 18442240474082181120 := by rw [← h2]; rfl
          subst this
          have e2 : ford 18442240474082181120 = -9218868437227405312 := by decide
          rw [e2] at hl
          unfold ford at hl
          rw [c, ia] at hl
          simp at hl
        · have id : rung d = 9218868437227405312 := by unfold isFin at fd; omega
          rw [read_inf d id, sd] at ha
          simp [Ieee.Datum.sum] at ha
      · have : ford a = 9218868437227405312 := by unfold ford; rw [c, ia]; rfl
        have := top z nz
        omega
  have ft := fin t x hx' ht nx hlx
  have fu := fin u y hy' hu ny hly
  by_cases fd : isFin d
  · obtain ⟨r1, a1, _, _, a4, _⟩ := sum_fin t d ft fd
    obtain ⟨r2, b1, _, _, b4, _⟩ := sum_fin u d fu fd
    rw [a1] at hx'
    rw [b1] at hy'
    cases hx'
    cases hy'
    rw [a4, b4]
    refine rnd_mono ?_
    have := fval_lt_iff u t
    omega
  · unfold isNum at hd
    have id : rung d = 9218868437227405312 := by unfold isFin at fd; omega
    obtain ⟨m, k, e, _⟩ := read_num u fu
    unfold Ieee.Format.add at hy'
    rw [e, read_inf d id, sd] at hy'
    have h2 : Ieee.double.write (.infinity false) = y := by simpa [Ieee.Datum.sum] using hy'
    have : y = 9218868437227405312 := by rw [← h2]; rfl
    subst this
    have e2 : ford 9218868437227405312 = 9218868437227405312 := by decide
    rw [e2]
    exact top x nx

set_option maxHeartbeats 1600000 in
theorem stampGrows_core (t u d x y : Nat) (e f : Int) (w : World) (g1 n1 l1 l2 : Bool)
    (H1 : Hid (∀ w, Calls Try.prog 13 #[.float .f64 t, .float .f64 d] w fun e' w' => e' = .returned (.tuple #[.float .f64 x, .int .i64 e]) ∧ Below w.heap.size w w'))
    (H2 : Hid (∀ w, Calls Try.prog 13 #[.float .f64 u, .float .f64 d] w fun e' w' => e' = .returned (.tuple #[.float .f64 y, .int .i64 f]) ∧ Below w.heap.size w w'))
    (h1 : (FloatKind.f64.format.order x t == some Ordering.gt) = g1) (h2 : (FloatKind.f64.format.order x x != some Ordering.eq) = n1)
    (h3 : ((FloatKind.f64.format.order t u == some Ordering.lt) || (FloatKind.f64.format.order t u == some Ordering.eq)) = l1)
    (h4 : ((FloatKind.f64.format.order x y == some Ordering.lt) || (FloatKind.f64.format.order x y == some Ordering.eq)) = l2)
    (K1 : Hid (e = 0 → g1 = true ∧ n1 = false)) (K2 : Hid (e = 0 → f = 0 → l1 = true → l2 = true)) :
    Calls Try.prog 9 #[.float .f64 t, .float .f64 u, .float .f64 d] w fun e w' => e = .returned (.bool true) ∧ Below w.heap.size w w' := by
  by_cases he : e = 0
  · subst he
    obtain ⟨rfl, rfl⟩ := K1.out rfl
    by_cases hf : f = 0
    · subst hf
      have k2 := K2.out rfl rfl
      clear K1 K2
      cases l1
      · clear k2
        go_enter Try.func9, Try.ntmps9
        go_wp2_with fail
        refine (H1.out _).mono ?_
        rintro e' w1 ⟨rfl, hb1⟩
        go_wp2_with fail
        refine (H2.out _).mono ?_
        rintro e' w2 ⟨rfl, hb2⟩
        go_wp2_with fail
        refine (awake2_any _).mono ?_
        rintro e' w3 ⟨rfl, hb3⟩
        go_wp2_with fail
        go_ret
        exact ⟨rfl, bthen (bthen hb1 hb2) hb3⟩
      · obtain rfl := k2 rfl
        go_enter Try.func9, Try.ntmps9
        go_wp2_with fail
        refine (H1.out _).mono ?_
        rintro e' w1 ⟨rfl, hb1⟩
        go_wp2_with fail
        refine (H2.out _).mono ?_
        rintro e' w2 ⟨rfl, hb2⟩
        go_wp2_with fail
        refine (awake2_any _).mono ?_
        rintro e' w3 ⟨rfl, hb3⟩
        go_wp2_with fail
        go_ret
        exact ⟨rfl, bthen (bthen hb1 hb2) hb3⟩
    · have hf' : (f != 0) = true := by simp [hf]
      clear hf K1 K2
      go_enter Try.func9, Try.ntmps9
      go_wp2_with fail
      refine (H1.out _).mono ?_
      rintro e' w1 ⟨rfl, hb1⟩
      go_wp2_with fail
      refine (H2.out _).mono ?_
      rintro e' w2 ⟨rfl, hb2⟩
      go_wp2_with fail
      refine (awake2_any _).mono ?_
      rintro e' w3 ⟨rfl, hb3⟩
      go_wp2_with fail
      go_ret
      exact ⟨rfl, bthen (bthen hb1 hb2) hb3⟩
  · have he' : (e != 0) = true := by simp [he]
    have he2 : (e == 0) = false := by simp [he]
    clear he K1 K2
    go_enter Try.func9, Try.ntmps9
    go_wp2_with fail
    refine (H1.out _).mono ?_
    rintro e' w1 ⟨rfl, hb1⟩
    go_wp2_with fail
    refine (H2.out _).mono ?_
    rintro e' w2 ⟨rfl, hb2⟩
    go_wp2_with fail
    refine (awake2_any _).mono ?_
    rintro e' w3 ⟨rfl, hb3⟩
    go_wp2_with fail
    go_ret
    exact ⟨rfl, bthen (bthen hb1 hb2) hb3⟩

theorem stampGrows_walk (t u d : Nat) (w : World) (_ht : (Lit.float .f64 t).wf = true) (_hu : (Lit.float .f64 u).wf = true) (_hd : (Lit.float .f64 d).wf = true) :
    Calls Try.prog 9 #[.float .f64 t, .float .f64 u, .float .f64 d] w fun e w' => e = .returned (.bool true) ∧ Below w.heap.size w w' := by
  refine stampGrows_core t u d (laterSpec t d).1 (laterSpec u d).1 (laterSpec t d).2 (laterSpec u d).2 w _ _ _ _ (later_any t d) (later_any u d) rfl rfl rfl rfl ?_ ?_
  · intro he
    obtain ⟨s, h1, h2, h3, h4, h5, h6, h7⟩ := later_ok t d he
    rw [h1]
    refine ⟨by rw [ord_gt]; simp [h3, h6, h7], ?_⟩
    have := ord_eq s s
    simp only [h6, true_and, decide_true] at this
    simp only [bne, this, Bool.not_true]
  · intro he hf hl
    obtain ⟨s, h1, h2, h3, h4, h5, h6, h7⟩ := later_ok t d he
    obtain ⟨r, k1, k2, k3, _, _, k6, k7⟩ := later_ok u d hf
    rw [h1, k1]
    rw [leq_form t u h3 k3] at hl
    rw [leq_form s r h6 k6]
    exact decide_eq_true (later_grows t u d s r h2 k2 h3 k3 h4 h5 h7 k7 h6 k6 (of_decide_eq_true hl))

end Go.Proofs.Ytlcfibmgegjklaa
