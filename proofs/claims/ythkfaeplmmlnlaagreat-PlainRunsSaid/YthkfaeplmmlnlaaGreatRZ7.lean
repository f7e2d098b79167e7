/- What holds all through a run, and what a whole run's output is like. math.Float64bits. The contracts of what stamp and the document's own answer do with floats: isNumber, Norm, Later, Times. The contracts of stamp.Times, and of the document's own. The mathematics of layer 8 (act): states, events, what an event does. No Go, no program. Copies by append, in a plain region; a store into a row of the call's own. The contract of the document's Ints, at any two lists. -/
import Derived.Laws.Externs
import Derived.WalkKit
import Derived.WalkSpells
import Derived.Lib.Hide
import Derived.WalkSmall
import Derived.WalkLawsBesides
import Derived.Deep.QuietTactic
import Derived.BigQuiet
import Derived.Test.YthkfaeplmmlnlaaGreatRZ6
import Derived.Test.YthkfaeplmmlnlaaGreatRZ0
import Derived.Test.YthkfaeplmmlnlaaGreatRZ1
import Derived.Test.YthkfaeplmmlnlaaGreatProg
import Derived.Test.YthkfaeplmmlnlaaGreatRVmOf
import Derived.Test.YthkfaeplmmlnlaaGreatRZ3
namespace Go.Proofs.YthkfaeplmmlnlaaGreat
open Go.RowKit
set_option linter.unusedVariables false
set_option maxRecDepth 100000

/-- what holds all through a run -/
structure Inv (nw0 : Nat) (lps : Int) (r : Mch) : Prop where
  nw : r.nw = nw0
  ns : r.ns ≤ 4
  sn : ∀ q, q < r.ns → 0 ≤ (r.sn q).dst ∧ (r.sn q).dst < lps
  f : 0 ≤ r.f ∧ r.f ≤ 6
theorem oneR_inv {nw0 : Nat} {x : I4} {lps seed me : Int} {r : Mch} (hf : oneF x lps r = 0) (h : Inv nw0 lps r) : Inv nw0 lps (oneR x seed me r) := by
  unfold oneR
  split
  · exact ⟨h.nw, h.ns, h.sn, h.f⟩
  split
  · exact ⟨h.nw, h.ns, h.sn, h.f⟩
  split
  · exact ⟨h.nw, h.ns, h.sn, h.f⟩
  split
  · split
    · exact ⟨h.nw, h.ns, h.sn, h.f⟩
    · exact h
  split
  · exact ⟨h.nw, h.ns, h.sn, h.f⟩
  split
  · rename_i h1 h2 h3 h4 h5 h12
    unfold oneF at hf
    rw [if_neg (by omega), if_pos h12] at hf
    by_cases c1 : r.g x.a.toNat < 0 ∨ lps ≤ r.g x.a.toNat
    · rw [if_pos c1] at hf; omega
    · rw [if_neg c1] at hf
      by_cases c2 : 4 ≤ r.ns
      · rw [if_pos c2] at hf; omega
      · refine ⟨h.nw, by show r.ns + 1 ≤ 4; omega, fun q hq => ?_, h.f⟩
        have hq : q < r.ns + 1 := hq
        by_cases e : q = r.ns
        · simp only [e, if_pos]; omega
        · simp only [if_neg e]; exact h.sn q (by omega)
  split
  · exact ⟨h.nw, h.ns, h.sn, h.f⟩
  split
  · exact ⟨h.nw, h.ns, h.sn, h.f⟩
  · exact ⟨h.nw, h.ns, h.sn, h.f⟩
theorem runM_inv (nw0 : Nat) (pr : Nat → I4) (pl : Nat) (lps seed me : Int) (k : Nat) : ∀ r : Mch, Inv nw0 lps r → Inv nw0 lps (runM pr pl lps seed me k r) := by
  induction k with
  | zero =>
    intro r h
    by_cases c : pl ≤ r.pc
    · rw [runM_end c]; exact h
    · rw [runM_fuel (by omega)]; exact ⟨h.nw, h.ns, h.sn, by show (0 : Int) ≤ 1 ∧ (1 : Int) ≤ 6; omega⟩
  | succ k ih =>
    intro r h
    have h1 : Inv nw0 lps { r with n := r.n + 1, pc := r.pc + 1 } := ⟨h.nw, h.ns, h.sn, h.f⟩
    by_cases c : pl ≤ r.pc
    · rw [runM_end c]; exact h
    · by_cases h0 : (pr r.pc).op = 0
      · rw [runM_halt (by omega) h0]; exact h1
      · by_cases hf : oneF (pr r.pc) lps { r with n := r.n + 1, pc := r.pc + 1 } = 0
        · rw [runM_on (by omega) h0 hf]
          exact ih _ (oneR_inv hf h1)
        · rw [runM_bad (by omega) h0 hf]
          exact ⟨h.nw, h.ns, h.sn, oneF_bd _ _ _⟩
theorem whole_inv (pr : Nat → I4) (pl : Nat) (i : Inp) : Inv i.nw i.lps (wholeM pr pl i) :=
  runM_inv _ _ _ _ _ _ _ _ ⟨rfl, Nat.zero_le _, fun q hq => absurd hq (Nat.not_lt_zero q), by show (0 : Int) ≤ 0 ∧ (0 : Int) ≤ 6; omega⟩
/-- what VmWhole asks of an output -/
structure Whl (nw : Nat) (lps mn : Int) (ou : Ou) : Prop where
  bad : mn ≠ 0 ∨ ou.f ≠ 0 → ou.nw = 0 ∧ ou.ns = 0 ∧ ou.dice = 0 ∧ (mn ≠ 0 ∨ (1 ≤ ou.f ∧ ou.f ≤ 6))
  good : mn = 0 → ou.f = 0 → ou.nw = nw ∧ ou.ns ≤ 4 ∧ ∀ q, q < ou.ns → 0 ≤ (ou.sn q).dst ∧ (ou.sn q).dst < lps
theorem doU_whl (pr : Nat → I4) (pl : Nat) (i : Inp) : Whl i.nw i.lps (mayN pr pl i) (doU pr pl i) := by
  have hw := whole_inv pr pl i
  unfold doU
  by_cases hm : mayN pr pl i = 0
  · rw [if_pos hm, hm]
    by_cases hf : (wholeM pr pl i).f = 0
    · rw [if_pos hf]
      exact ⟨fun h => by rcases h with h | h <;> exact absurd rfl h, fun _ _ => ⟨hw.nw, hw.ns, hw.sn⟩⟩
    · rw [if_neg hf]
      have := hw.f
      exact ⟨fun _ => ⟨rfl, rfl, rfl, .inr ⟨by show 1 ≤ (wholeM pr pl i).f; omega, by show (wholeM pr pl i).f ≤ 6; omega⟩⟩, fun _ h => absurd h hf⟩
  · rw [if_neg hm]
    exact ⟨fun _ => ⟨rfl, rfl, rfl, .inl hm⟩, fun h => absurd h hm⟩

end Go.Proofs.YthkfaeplmmlnlaaGreat
namespace Go.Proofs.YthkfaeplmmlnlaaGreat
open Go.RowKit

theorem floatbits_run (b : Nat) (w : World) : (callFunc 66 #[.float .f64 b]).run Tryz.prog w = .ok (.value (.int .u64 b)) w := by
  rw [run_callFunc_extern (e := Extern.MathFloatBits.float64bits) Tryz.func66 (by kernel_rfl) (by kernel_rfl) (by kernel_rfl) (by kernel_rfl)]
  rfl

theorem store_float (x : Nat) (a : Addr) (m : Mode) (w : World) : (store a (.float .f64 x) m).run Tryz.prog w = stored Tryz.prog w a (.float .f64 x) m := run_store _ w a _ m rfl

end Go.Proofs.YthkfaeplmmlnlaaGreat
namespace Go.Proofs.YthkfaeplmmlnlaaGreat
open Go.RowKit
set_option maxRecDepth 100000

theorem isNumber_any (x : Nat) (w : World) :
    Calls Tryz.prog 79 #[.float .f64 x] w fun e w' => e = .returned (.bool (decide (isNum x))) ∧ w = w' := by
  have E : Hid ((FloatKind.f64.format.order x x == some .eq) = decide (isNum x)) := by have := ord_eq x x; simpa [Hid] using this
  go_enter Tryz.func79, Tryz.ntmps79
  go_wp2_with fail
  go_ret
  exact ⟨by rw [E.out]; rfl, rfl⟩

theorem number_any (x : Nat) (w : World) :
    Calls Tryz.prog 67 #[.float .f64 x] w fun e w' => e = .returned (.bool (decide (isNum x))) ∧ w = w' := by
  have E : Hid ((FloatKind.f64.format.order x x == some .eq) = decide (isNum x)) := by have := ord_eq x x; simpa [Hid] using this
  go_enter Tryz.func67, Tryz.ntmps67
  go_wp2_with fail
  go_ret
  exact ⟨by rw [E.out]; rfl, rfl⟩


theorem isNumber_t (x : Nat) (h : isNum x) (w : World) : Calls Tryz.prog 79 #[.float .f64 x] w fun e w' => e = .returned (.bool true) ∧ w = w' := by
  have := isNumber_any x w; rwa [decide_eq_true h] at this
theorem isNumber_f (x : Nat) (h : ¬ isNum x) (w : World) : Calls Tryz.prog 79 #[.float .f64 x] w fun e w' => e = .returned (.bool false) ∧ w = w' := by
  have := isNumber_any x w; rwa [decide_eq_false h] at this
theorem number_t (x : Nat) (h : isNum x) (w : World) : Calls Tryz.prog 67 #[.float .f64 x] w fun e w' => e = .returned (.bool true) ∧ w = w' := by
  have := number_any x w; rwa [decide_eq_true h] at this
theorem number_f (x : Nat) (h : ¬ isNum x) (w : World) : Calls Tryz.prog 67 #[.float .f64 x] w fun e w' => e = .returned (.bool false) ∧ w = w' := by
  have := number_any x w; rwa [decide_eq_false h] at this

/-- a float and an error, as the Go functions hand them back -/
def feRet (x : Nat × Int) : Ending := .returned (.tuple #[.float .f64 x.1, .int .i64 x.2])
/-- a time as it is kept, or that it is none -/
def normSpec (x : Nat) : Nat × Int := if isNum x then (if ford x = 0 then (0, 0) else (x, 0)) else (0, 7)

theorem norm_any (x : Nat) (w : World) :
    Calls Tryz.prog 57 #[.float .f64 x] w fun e w' => e = feRet (normSpec x) ∧ w = w' := by
  by_cases h : isNum x
  · have H := Lib.hid (isNumber_t x h)
    by_cases h0 : ford x = 0
    · have hz : (FloatKind.f64.format.order x 0 == some Ordering.eq) = true := by rw [ord_eq]; simp [h, h0, isNum_zero, ford_zero]
      have E : Hid (normSpec x = (0, 0)) := by unfold normSpec; rw [if_pos h, if_pos h0]; exact rfl
      clear h h0
      go_enter Tryz.func57, Tryz.ntmps57
      go_wp2_with (go_at_call 79; refine (H.out _).mono ?_; rintro e w' ⟨rfl, rfl⟩)
      go_ret2
      exact ⟨by rw [E.out]; rfl, rfl⟩
    · have hz : (FloatKind.f64.format.order x 0 == some Ordering.eq) = false := by rw [ord_eq]; simp [h0, ford_zero]
      have E : Hid (normSpec x = (x, 0)) := by unfold normSpec; rw [if_pos h, if_neg h0]; exact rfl
      clear h h0
      go_enter Tryz.func57, Tryz.ntmps57
      go_wp2_with (go_at_call 79; refine (H.out _).mono ?_; rintro e w' ⟨rfl, rfl⟩)
      go_ret2
      exact ⟨by rw [E.out]; rfl, rfl⟩
  · have H := Lib.hid (isNumber_f x h)
    have E : Hid (normSpec x = (0, 7)) := by unfold normSpec; rw [if_neg h]; exact rfl
    clear h
    go_enter Tryz.func57, Tryz.ntmps57
    go_wp2_with (go_at_call 79; refine (H.out _).mono ?_; rintro e w' ⟨rfl, rfl⟩)
    go_ret2
    exact ⟨by rw [E.out]; rfl, rfl⟩

theorem refNorm_any (x : Nat) (w : World) :
    Calls Tryz.prog 59 #[.float .f64 x] w fun e w' => e = feRet (normSpec x) ∧ w = w' := by
  by_cases h : isNum x
  · have H := Lib.hid (number_t x h)
    by_cases h0 : ford x = 0
    · have hz : (FloatKind.f64.format.order x 0 == some Ordering.eq) = true := by rw [ord_eq]; simp [h, h0, isNum_zero, ford_zero]
      have E : Hid (normSpec x = (0, 0)) := by unfold normSpec; rw [if_pos h, if_pos h0]; exact rfl
      clear h h0
      go_enter Tryz.func59, Tryz.ntmps59
      go_wp2_with (go_at_call 67; refine (H.out _).mono ?_; rintro e w' ⟨rfl, rfl⟩)
      go_ret2
      exact ⟨by rw [E.out]; rfl, rfl⟩
    · have hz : (FloatKind.f64.format.order x 0 == some Ordering.eq) = false := by rw [ord_eq]; simp [h0, ford_zero]
      have E : Hid (normSpec x = (x, 0)) := by unfold normSpec; rw [if_pos h, if_neg h0]; exact rfl
      clear h h0
      go_enter Tryz.func59, Tryz.ntmps59
      go_wp2_with (go_at_call 67; refine (H.out _).mono ?_; rintro e w' ⟨rfl, rfl⟩)
      go_ret2
      exact ⟨by rw [E.out]; rfl, rfl⟩
  · have H := Lib.hid (number_f x h)
    have E : Hid (normSpec x = (0, 7)) := by unfold normSpec; rw [if_neg h]; exact rfl
    clear h
    go_enter Tryz.func59, Tryz.ntmps59
    go_wp2_with (go_at_call 67; refine (H.out _).mono ?_; rintro e w' ⟨rfl, rfl⟩)
    go_ret2
    exact ⟨by rw [E.out]; rfl, rfl⟩

/- sums -/

theorem nan_cut (x y t : Nat) : ¬ isNum ((Question.nanBits .f64 x y).cut t) ∧ (Question.nanBits .f64 x y).cut t < 18446744073709551616 := by
  have e : (Question.nanBits .f64 x y).cut t = (t % 2) * 9223372036854775808 + 9218868437227405312 + 1 + (t / 2) % 4503599627370495 := rfl
  rw [e]
  unfold isNum rung
  have := Nat.mod_lt (t / 2) (show 4503599627370495 > 0 by omega)
  generalize t / 2 % 4503599627370495 = q at *
  rcases (by omega : t % 2 = 0 ∨ t % 2 = 1) with h | h <;> rw [h] <;> omega

/-- what '+' gives: the sum, or, where there is none, something that is no number -/
theorem add_run (T : TypeId) (x y : Nat) (w : World) : ∃ s w', (binOp .add T (.float .f64 x) (.float .f64 y)).run Tryz.prog w = .ok (.float .f64 s) w' ∧ Below w.heap.size w w' ∧ (FloatKind.f64.format.add x y = some s ∨ FloatKind.f64.format.add x y = none ∧ ¬ isNum s) := by
  rcases h : FloatKind.f64.format.add x y with _ | r
  · refine ⟨(Question.nanBits .f64 x y).cut (w.tape w.drawn (Question.nanBits .f64 x y)), w.drew, ?_, (Below.refl _ _).drew, .inr ⟨rfl, (nan_cut x y _).1⟩⟩
    simp [binOp, Op.floatArith, h, Question.forced]
  · exact ⟨r, w, run_float_arith w .add T .f64 x y r h, Below.refl _ _, .inl rfl⟩

/-- what comes later: the sum, or that it is none -/
def laterSpec (t d : Nat) : Nat × Int :=
  match FloatKind.f64.format.add t d with
  | none => (0, 7)
  | some s => if isNum t ∧ isNum d ∧ 0 < ford d ∧ isNum s ∧ ford t < ford s then (s, 0) else (0, 7)

theorem later_core (t d s : Nat) (w w1 : World) (b1 b2 : Bool)
    (hrun : (binOp .add 22 (.float .f64 t) (.float .f64 d)).run Tryz.prog w = .ok (.float .f64 s) w1) (hb : Hid (Below w.heap.size w w1))
    (h1 : (FloatKind.f64.format.order d 0 == some Ordering.gt) = b1) (h2 : (FloatKind.f64.format.order s t == some Ordering.gt) = b2) :
    Calls Tryz.prog 87 #[.float .f64 t, .float .f64 d] w fun e w' => e = feRet (if b1 && b2 then (s, 0) else (0, 7)) ∧ Below w.heap.size w w' := by
  cases b1 <;> cases b2
  all_goals
    go_enter Tryz.func87, Tryz.ntmps87
    go_wp2_with fail
    go_ret2
    exact ⟨rfl, hb.out⟩

theorem later_any (t d : Nat) (w : World) :
    Calls Tryz.prog 87 #[.float .f64 t, .float .f64 d] w fun e w' => e = feRet (laterSpec t d) ∧ Below w.heap.size w w' := by
  obtain ⟨s, w1, hrun, hb, hs⟩ := add_run 22 t d w
  have k := later_core t d s w w1 _ _ hrun hb rfl rfl
  have e : (if (FloatKind.f64.format.order d 0 == some Ordering.gt) && (FloatKind.f64.format.order s t == some Ordering.gt) then (s, 0) else (0, 7)) = laterSpec t d := by
    rw [ord_gt, ord_gt]
    unfold laterSpec
    rcases hs with hs | ⟨hs, hn⟩
    · rw [hs]
      dsimp only
      by_cases c : isNum t ∧ isNum d ∧ 0 < ford d ∧ isNum s ∧ ford t < ford s
      · rw [if_pos c]
        obtain ⟨c1, c2, c3, c4, c5⟩ := c
        simp [c1, c2, c3, c4, c5, isNum_zero, ford_zero]
      · rw [if_neg c, if_neg]
        intro k
        simp only [Bool.and_eq_true, decide_eq_true_eq, ford_zero] at k
        exact c ⟨k.2.2.1, k.1.1, k.1.2.2, k.2.1, k.2.2.2⟩
    · rw [hs]
      simp [hn]
  rw [e] at k
  exact k

/-- a sum that comes later is no zero below -/
theorem later_zero (t d s : Nat) (hd : 0 < ford d) (ht : isNum t) (hn : isNum d) (hs : FloatKind.f64.format.add t d = some s) (hl : ford t < ford s) : ford s = 0 → s = 0 := by
  have hs' : Ieee.double.add t d = some s := hs
  have sd : sgn d = false := by
    rcases sgn_cases d with c | c
    · unfold ford at hd; rw [c] at hd; simp at hd; omega
    · exact c
  unfold isNum at ht hn
  by_cases ft : isFin t
  · by_cases fd : isFin d
    · obtain ⟨r, h1, _, _, _, h5⟩ := sum_fin t d ft fd
      rw [h1] at hs'
      cases hs'
      exact h5 sd
    · have id : rung d = 9218868437227405312 := by unfold isFin at fd; omega
      obtain ⟨m, k, e, _⟩ := read_num t ft
      unfold Ieee.Format.add at hs'
      rw [e, read_inf d id, sd] at hs'
      have : s = 9218868437227405312 := by
        have h2 : Ieee.double.write (.infinity false) = s := by simpa [Ieee.Datum.sum] using hs'
        rw [← h2]; rfl
      subst this
      intro h; exact absurd h (by decide)
  · have it : rung t = 9218868437227405312 := by unfold isFin at ft; omega
    intro h
    rcases sgn_cases t with c | c
    · have ht0 : Ieee.double.read t = .infinity true := by rw [read_inf t it, c]
      unfold Ieee.Format.add at hs'
      rw [ht0] at hs'
      by_cases fd : isFin d
      · obtain ⟨m, k, e, _⟩ := read_num d fd
        rw [e] at hs'
        have h2 : Ieee.double.write (.infinity true) = s := by simpa [Ieee.Datum.sum] using hs'
        have : s = 18442240474082181120 := by rw [← h2]; rfl
        subst this
        exact absurd h (by decide)
      · have id : rung d = 9218868437227405312 := by unfold isFin at fd; omega
        rw [read_inf d id, sd] at hs'
        simp [Ieee.Datum.sum] at hs'
    · unfold ford at hl
      rw [c, it] at hl
      unfold ford at h
      rcases sgn_cases s with c2 | c2 <;> rw [c2] at hl h <;> simp at hl h <;> omega

theorem leq_form (x y : Nat) (hx : isNum x) (hy : isNum y) : ((FloatKind.f64.format.order x y == some Ordering.lt) || (FloatKind.f64.format.order x y == some Ordering.eq)) = decide (ford x ≤ ford y) := by
  rw [ord_lt, ord_eq]
  simp only [hx, hy, true_and]
  by_cases h : ford x ≤ ford y
  · rw [decide_eq_true h]
    rcases Int.lt_or_eq_of_le h with c | c
    · simp [c]
    · simp [c]
  · simp [h]; omega

set_option maxHeartbeats 1600000 in
theorem refLater_any (t d : Nat) (w : World) :
    Calls Tryz.prog 36 #[.float .f64 t, .float .f64 d] w fun e w' => e = feRet (laterSpec t d) ∧ Below w.heap.size w w' := by
  obtain ⟨s, w1, hrun, hb, hs⟩ := add_run 22 t d w
  have bad : ∀ x : Unit, ¬ (isNum t ∧ isNum d ∧ 0 < ford d ∧ isNum s ∧ ford t < ford s) → laterSpec t d = (0, 7) := by
    intro _ c
    unfold laterSpec
    rcases hs with hs | ⟨hs, hn⟩
    · rw [hs]; exact if_neg c
    · rw [hs]
  by_cases ht : isNum t
  · have HT := Lib.hid (number_t t ht)
    by_cases hd : isNum d
    · have HD := Lib.hid (number_t d hd)
      by_cases h0 : 0 < ford d
      · have hz : ((FloatKind.f64.format.order d 0 == some Ordering.lt) || (FloatKind.f64.format.order d 0 == some Ordering.eq)) = false := by rw [leq_form d 0 hd isNum_zero, ford_zero]; simp; omega
        by_cases hn : isNum s
        · have HS := Lib.hid (number_t s hn)
          by_cases hl : ford t < ford s
          · have hq : ((FloatKind.f64.format.order s t == some Ordering.lt) || (FloatKind.f64.format.order s t == some Ordering.eq)) = false := by rw [leq_form s t hn ht]; simp; omega
            have hsum : FloatKind.f64.format.add t d = some s := by rcases hs with hs | ⟨_, k⟩; exact hs; exact absurd hn k
            have E : Hid (laterSpec t d = normSpec s) := by
              have hz := later_zero t d s h0 ht hd hsum hl
              unfold laterSpec normSpec
              rw [hsum]
              dsimp only
              rw [if_pos ⟨ht, hd, h0, hn, hl⟩, if_pos hn]
              by_cases c : ford s = 0
              · rw [if_pos c, hz c]; exact rfl
              · rw [if_neg c]; exact rfl
            have HR := Lib.hid (refNorm_any s)
            generalize normSpec s = r at E HR
            obtain ⟨r0, r1⟩ := r
            unfold feRet at HR
            have HB := Lib.hid hb
            clear bad hs ht hd h0 hn hl hsum hb
            go_enter Tryz.func36, Tryz.ntmps36
            go_wp2_with (first | (go_at_call 67; (first | refine (HT.out _).mono ?_ | refine (HD.out _).mono ?_ | refine (HS.out _).mono ?_); rintro e w' ⟨rfl, rfl⟩) | (go_at_call 59; refine (HR.out _).mono ?_; rintro e w' ⟨rfl, rfl⟩))
            go_ret2
            exact ⟨by rw [E.out]; rfl, HB.out⟩
          · have hq : ((FloatKind.f64.format.order s t == some Ordering.lt) || (FloatKind.f64.format.order s t == some Ordering.eq)) = true := by rw [leq_form s t hn ht]; simp; omega
            have E := Lib.hid (bad () (fun c => hl c.2.2.2.2))
            have HB := Lib.hid hb
            clear bad hs ht hd h0 hn hl hb
            go_enter Tryz.func36, Tryz.ntmps36
            go_wp2_with (go_at_call 67; (first | refine (HT.out _).mono ?_ | refine (HD.out _).mono ?_ | refine (HS.out _).mono ?_); rintro e w' ⟨rfl, rfl⟩)
            go_ret2
            exact ⟨by rw [E.out]; rfl, HB.out⟩
        · have HS := Lib.hid (number_f s hn)
          have E := Lib.hid (bad () (fun c => hn c.2.2.2.1))
          have HB := Lib.hid hb
          clear bad hs ht hd h0 hn hb
          go_enter Tryz.func36, Tryz.ntmps36
          go_wp2_with (go_at_call 67; (first | refine (HT.out _).mono ?_ | refine (HD.out _).mono ?_ | refine (HS.out _).mono ?_); rintro e w' ⟨rfl, rfl⟩)
          go_ret2
          exact ⟨by rw [E.out]; rfl, HB.out⟩
      · have hz : ((FloatKind.f64.format.order d 0 == some Ordering.lt) || (FloatKind.f64.format.order d 0 == some Ordering.eq)) = true := by rw [leq_form d 0 hd isNum_zero, ford_zero]; simp; omega
        have E := Lib.hid (bad () (fun c => h0 c.2.2.1))
        clear bad hs ht hd h0 hb hrun
        go_enter Tryz.func36, Tryz.ntmps36
        go_wp2_with (go_at_call 67; (first | refine (HT.out _).mono ?_ | refine (HD.out _).mono ?_); rintro e w' ⟨rfl, rfl⟩)
        go_ret2
        exact ⟨by rw [E.out]; rfl, Below.refl _ _⟩
    · have HD := Lib.hid (number_f d hd)
      have E := Lib.hid (bad () (fun c => hd c.2.1))
      clear bad hs ht hd hb hrun
      go_enter Tryz.func36, Tryz.ntmps36
      go_wp2_with (go_at_call 67; (first | refine (HT.out _).mono ?_ | refine (HD.out _).mono ?_); rintro e w' ⟨rfl, rfl⟩)
      go_ret2
      exact ⟨by rw [E.out]; rfl, Below.refl _ _⟩
  · have HT := Lib.hid (number_f t ht)
    have E := Lib.hid (bad () (fun c => ht c.1))
    clear bad hs ht hb hrun
    go_enter Tryz.func36, Tryz.ntmps36
    go_wp2_with (go_at_call 67; refine (HT.out _).mono ?_; rintro e w' ⟨rfl, rfl⟩)
    go_ret2
    exact ⟨by rw [E.out]; rfl, Below.refl _ _⟩

end Go.Proofs.YthkfaeplmmlnlaaGreat
namespace Go.Proofs.YthkfaeplmmlnlaaGreat
open Go.RowKit
set_option maxRecDepth 100000

/-- -1, 0, 1 -/
def cmpI (a b : Int) : Int := if a < b then -1 else if a = b then 0 else 1
/-- the place in the order of times: what is no number comes behind all -/
def frank (x : Nat) : Int := if isNum x then ford x else 9223372036854775808
def cmpT (x y : Nat) : Int := cmpI (frank x) (frank y)

theorem frank_num {x : Nat} (h : isNum x) : frank x = ford x ∧ ford x < 9223372036854775808 := by
  unfold frank; rw [if_pos h]
  refine ⟨rfl, ?_⟩
  unfold ford isNum at *
  split <;> omega
theorem frank_nan {x : Nat} (h : ¬ isNum x) : frank x = 9223372036854775808 := by unfold frank; rw [if_neg h]

theorem compareF_core (x y : Nat) (bx by' lt gt : Bool) (w : World)
    (HX : Hid (∀ w, Calls Tryz.prog 79 #[.float .f64 x] w fun e w' => e = .returned (.bool bx) ∧ w = w'))
    (HY : Hid (∀ w, Calls Tryz.prog 79 #[.float .f64 y] w fun e w' => e = .returned (.bool by') ∧ w = w'))
    (h1 : (FloatKind.f64.format.order x y == some Ordering.lt) = lt) (h2 : (FloatKind.f64.format.order x y == some Ordering.gt) = gt) :
    Calls Tryz.prog 92 #[.float .f64 x, .float .f64 y] w fun e w' => e = .returned (.int .i64 (if lt || bx && !by' then -1 else if gt || by' && !bx then 1 else 0)) ∧ w = w' := by
  cases lt <;> cases gt <;> cases bx <;> cases by'
  all_goals
    go_enter Tryz.func92, Tryz.ntmps92
    go_wp2_with (go_at_call 79; (first | refine (HX.out _).mono ?_ | refine (HY.out _).mono ?_); rintro e w' ⟨rfl, rfl⟩)
    go_ret
    exact ⟨rfl, rfl⟩

theorem compareF_any (x y : Nat) (w : World) :
    Calls Tryz.prog 92 #[.float .f64 x, .float .f64 y] w fun e w' => e = .returned (.int .i64 (cmpT x y)) ∧ w = w' := by
  have k := compareF_core x y _ _ _ _ w (isNumber_any x) (isNumber_any y) rfl rfl
  have e : (if (FloatKind.f64.format.order x y == some Ordering.lt) || decide (isNum x) && !decide (isNum y) then (-1 : Int) else if (FloatKind.f64.format.order x y == some Ordering.gt) || decide (isNum y) && !decide (isNum x) then 1 else 0) = cmpT x y := by
    rw [ord_lt, ord_gt]
    unfold cmpT cmpI
    by_cases hx : isNum x <;> by_cases hy : isNum y
    · have a := frank_num hx
      have b := frank_num hy
      rw [a.1, b.1]
      simp only [hx, hy, true_and, decide_true, Bool.not_true, Bool.and_false, Bool.or_false, decide_eq_true_eq]
      split
      · rfl
      · split
        · rw [if_neg (by omega)]
        · rw [if_pos (by omega)]
    · have a := frank_num hx
      rw [a.1, frank_nan hy]
      simp [hx, hy, a.2]
    · have b := frank_num hy
      rw [b.1, frank_nan hx]
      rw [if_neg (by simp [hx]), if_pos (by simp [hx, hy]), if_neg (by omega), if_neg (by omega)]
    · rw [frank_nan hx, frank_nan hy]
      simp [hx, hy]
  rw [e] at k
  exact k

theorem times_any (x y : Nat) (w : World) :
    Calls Tryz.prog 77 #[.float .f64 x, .float .f64 y] w fun e w' => e = .returned (.int .i64 (cmpT x y)) ∧ w = w' := by
  have H := Lib.hid (compareF_any x y)
  generalize cmpT x y = c at H ⊢
  go_enter Tryz.func77, Tryz.ntmps77
  go_wp2_with (go_at_call 92; refine (H.out _).mono ?_; rintro e w' ⟨rfl, rfl⟩)
  go_ret
  exact ⟨rfl, rfl⟩

set_option maxHeartbeats 1600000 in
theorem refTimes_core (x y : Nat) (bx by' lt eq : Bool) (w : World)
    (HX : Hid (∀ w, Calls Tryz.prog 67 #[.float .f64 x] w fun e w' => e = .returned (.bool bx) ∧ w = w'))
    (HY : Hid (∀ w, Calls Tryz.prog 67 #[.float .f64 y] w fun e w' => e = .returned (.bool by') ∧ w = w'))
    (h1 : (FloatKind.f64.format.order x y == some Ordering.lt) = lt) (h2 : (FloatKind.f64.format.order x y == some Ordering.eq) = eq) :
    Calls Tryz.prog 81 #[.float .f64 x, .float .f64 y] w fun e w' => e = .returned (.int .i64 (if !bx && !by' || eq then 0 else if !by' || lt then -1 else 1)) ∧ w = w' := by
  cases lt <;> cases eq <;> cases bx <;> cases by'
  all_goals
    go_enter Tryz.func81, Tryz.ntmps81
    go_wp2_with (go_at_call 67; (first | refine (HX.out _).mono ?_ | refine (HY.out _).mono ?_); rintro e w' ⟨rfl, rfl⟩)
    go_ret
    exact ⟨rfl, rfl⟩

theorem refTimes_any (x y : Nat) (w : World) :
    Calls Tryz.prog 81 #[.float .f64 x, .float .f64 y] w fun e w' => e = .returned (.int .i64 (cmpT x y)) ∧ w = w' := by
  have k := refTimes_core x y _ _ _ _ w (number_any x) (number_any y) rfl rfl
  have e : (if !decide (isNum x) && !decide (isNum y) || (FloatKind.f64.format.order x y == some Ordering.eq) then (0 : Int) else if !decide (isNum y) || (FloatKind.f64.format.order x y == some Ordering.lt) then -1 else 1) = cmpT x y := by
    rw [ord_lt, ord_eq]
    unfold cmpT cmpI
    by_cases hx : isNum x <;> by_cases hy : isNum y
    · have a := frank_num hx
      have b := frank_num hy
      rw [a.1, b.1]
      simp only [hx, hy, true_and, decide_true, Bool.not_true, Bool.and_false, Bool.false_or, decide_eq_true_eq]
      split
      · rw [if_neg (by omega)]
      · rfl
    · have a := frank_num hx
      rw [a.1, frank_nan hy]
      simp [hx, hy, a.2]
    · have b := frank_num hy
      rw [b.1, frank_nan hx]
      rw [if_neg (by simp [hx, hy]), if_neg (by simp [hx, hy]), if_neg (by omega), if_neg (by omega)]
    · rw [frank_nan hx, frank_nan hy]
      simp [hx, hy]
  rw [e] at k
  exact k

end Go.Proofs.YthkfaeplmmlnlaaGreat
namespace Go.Proofs.YthkfaeplmmlnlaaGreat
open Go.RowKit
set_option linter.unusedVariables false

/-- an event -/
structure Evn where
  t : Nat
  src : Int
  n : Int
  dst : Int
  pay : Int
/-- events, one behind the other -/
structure Evs where
  n : Nat
  f : Nat → Evn
def evs0 : Evs := ⟨0, fun _ => ⟨0, 0, 0, 0, 0⟩⟩
def Evs.push (l : Evs) (x : Evn) : Evs := ⟨l.n + 1, fun i => if i = l.n then x else l.f i⟩
/-- a process's state -/
structure Sta where
  nw : Nat
  w : Nat → Int
  sent : Int
  dice : Int
def sta0 : Sta := ⟨0, fun _ => 0, 0, 0⟩
/-- not above -/
def leqF (x y : Nat) : Bool := (FloatKind.f64.format.order x y == some Ordering.lt) || (FloatKind.f64.format.order x y == some Ordering.eq)
theorem leqF_num {x y : Nat} (hx : isNum x) (hy : isNum y) : leqF x y = decide (ford x ≤ ford y) := leq_form x y hx hy
/-- a state at first -/
def firstS (m : Mdl) (lp : Nat) : Sta := ⟨m.wl lp, m.wd lp, 0, 0⟩
/-- the events at first: of the first k of the model's list -/
def beginE (m : Mdl) : Nat → Evs
  | 0 => evs0
  | k + 1 => if leqF (normSpec (m.ev k).t).1 m.fin then (beginE m k).push ⟨(normSpec (m.ev k).t).1, -1, (k : Int), (m.ev k).dst, (m.ev k).pay⟩ else beginE m k
/-- which delay is meant -/
def dlyN (nd : Nat) (n : Int) : Nat := (n % (nd : Int)).toNat
/-- may it be handled? -/
def badArg (m : Mdl) (lp : Int) (s : Sta) (e : Evn) : Prop :=
  lp < 0 ∨ (m.nl : Int) ≤ lp ∨ ¬ isNum e.t ∨ 8 < s.nw ∨ s.sent < 0 ∨ 1099511627776 < s.sent ∨ s.dice < 0 ∨ 1099511627776 < s.dice
/-- what its program runs on -/
def inpOf (m : Mdl) (lp : Int) (s : Sta) (e : Evn) : Inp := ⟨s.nw, s.w, e.pay, lp, (m.nl : Int), m.seed, s.dice⟩
def pgOf (m : Mdl) (lp : Int) : Nat := (m.lp lp.toNat).toNat
def ouAt (m : Mdl) (lp : Int) (s : Sta) (e : Evn) : Ou := doU (m.pr (pgOf m lp)) (m.pl (pgOf m lp)) (inpOf m lp s e)
theorem ouAt_ns (m : Mdl) (lp : Int) (s : Sta) (e : Evn) : (ouAt m lp s e).ns ≤ 4 := by
  have h := doU_whl (m.pr (pgOf m lp)) (m.pl (pgOf m lp)) (inpOf m lp s e)
  by_cases h1 : mayN (m.pr (pgOf m lp)) (m.pl (pgOf m lp)) (inpOf m lp s e) ≠ 0 ∨ (ouAt m lp s e).f ≠ 0
  · have := (h.bad h1).2.1
    show (doU _ _ _).ns ≤ 4
    omega
  · exact (h.good (Classical.byContradiction fun q => h1 (Or.inl q)) (Classical.byContradiction fun q => h1 (Or.inr q))).2.1
/-- when the k-th of what is sent comes -/
def whenS (m : Mdl) (e : Evn) (o : Ou) (k : Nat) : Nat × Int := laterSpec e.t (m.d (dlyN m.nd (o.sn k).dl))
/-- do the first k come later? -/
def laterB (m : Mdl) (e : Evn) (o : Ou) : Nat → Bool
  | 0 => true
  | k + 1 => laterB m e o k && decide ((whenS m e o k).2 = 0)
/-- the events of the first k of what is sent -/
def sentE (m : Mdl) (lp : Int) (s : Sta) (e : Evn) (o : Ou) : Nat → Evs
  | 0 => evs0
  | k + 1 => if leqF (whenS m e o k).1 m.fin then (sentE m lp s e o k).push ⟨(whenS m e o k).1, lp, s.sent + (k : Int), (o.sn k).dst, (o.sn k).pay⟩ else sentE m lp s e o k
/-- what an event does: the state behind it, the events, the fault, the error -/
structure Hnd where
  s : Sta
  l : Evs
  f : Int
  e : Int
instance (m : Mdl) (lp : Int) (s : Sta) (e : Evn) : Decidable (badArg m lp s e) := by unfold badArg; infer_instance
def handH (m : Mdl) (lp : Int) (s : Sta) (e : Evn) : Hnd :=
  if badArg m lp s e then ⟨sta0, evs0, 0, 2⟩
  else if (ouAt m lp s e).f ≠ 0 then ⟨s, evs0, (ouAt m lp s e).f, 0⟩
  else if laterB m e (ouAt m lp s e) (ouAt m lp s e).ns = false then ⟨s, evs0, 7, 0⟩
  else ⟨⟨(ouAt m lp s e).nw, (ouAt m lp s e).w, s.sent + ((ouAt m lp s e).ns : Int), (ouAt m lp s e).dice⟩, sentE m lp s e (ouAt m lp s e) (ouAt m lp s e).ns, 0, 0⟩

/-- the cells of events -/
def gV8 (f : Nat → Evn) : Nat → Nat → Value := fun i j => match j with
  | 0 => .float .f64 (f i).t
  | 1 => .int .i64 (f i).src
  | 2 => .int .i64 (f i).n
  | 3 => .int .i64 (f i).dst
  | _ => .int .i64 (f i).pay
def sval (s : Sta) (v : Value) : Value := .agg #[v, .int .i64 s.sent, .int .i64 s.dice]
def eval8 (e : Evn) : Value := .agg #[.float .f64 e.t, .int .i64 e.src, .int .i64 e.n, .int .i64 e.dst, .int .i64 e.pay]
/-- events in a row of the call's own -/
def EvsAt (base : Nat) (l : Evs) (v : Value) (u : World) : Prop :=
  ∃ a c, v = .slice a l.n c ∧ u.ownsRow base 41 5 v l.n (rowCells 5 (gV8 l.f) l.n)
theorem EvsAt.below {base : Nat} {l : Evs} {v : Value} {u u2 : World} (h : EvsAt base l v u) (k : Below u.heap.size u u2) : EvsAt base l v u2 := by
  obtain ⟨a, c, rfl, h⟩ := h
  exact ⟨a, c, rfl, own_below h k⟩
theorem EvsAt.sl {base : Nat} {l : Evs} {v : Value} {u : World} (h : EvsAt base l v u) : Sl 5 (gV8 l.f) l.n v u := by
  obtain ⟨a, c, rfl, h⟩ := h
  exact own_sl h
theorem EvsAt.lower {base b2 : Nat} {l : Evs} {v : Value} {u : World} (h : EvsAt base l v u) (hb : b2 ≤ base) : EvsAt b2 l v u := by
  obtain ⟨a, c, rfl, h⟩ := h
  exact ⟨a, c, rfl, own_lower h hb⟩
theorem evsAt_none (base : Nat) (u : World) : EvsAt base evs0 (.slice none 0 0) u :=
  ⟨none, 0, rfl, by rw [show evs0.n = 0 from rfl, rowCells_zero]; exact World.ownsRow_nil _ _ _ _⟩
/-- one more -/
theorem push_cells (l : Evs) (x : Evn) : rowCells 5 (gV8 l.f) l.n ++ [.float .f64 x.t, .int .i64 x.src, .int .i64 x.n, .int .i64 x.dst, .int .i64 x.pay] = rowCells 5 (gV8 (l.push x).f) (l.push x).n := by
  have e1 : rowCells 5 (gV8 l.f) l.n = rowCells 5 (gV8 (l.push x).f) l.n := by
    unfold rowCells
    refine List.map_congr_left fun k hk => ?_
    rw [List.mem_range] at hk
    have : k / 5 ≠ l.n := by have := (Nat.div_lt_iff_lt_mul (show 0 < 5 by omega)).2 hk; omega
    simp only [gV8, Evs.push, if_neg this]
  rw [e1]
  exact rowCells_succ (C := 5) (by omega) (gV8 (l.push x).f) l.n _ rfl (fun j hj => by
    have : j = 0 ∨ j = 1 ∨ j = 2 ∨ j = 3 ∨ j = 4 := by omega
    rcases this with rfl | rfl | rfl | rfl | rfl <;> simp [gV8, Evs.push])

end Go.Proofs.YthkfaeplmmlnlaaGreat
namespace Go.Proofs.YthkfaeplmmlnlaaGreat
open Go.RowKit Go.Deep
set_option linter.unusedVariables false
set_option maxRecDepth 100000

/-- append of nothing, in a plain region -/
theorem wpList_append_nothing7 {P : Program} {w : World} {ops : Array Oper} {rest : List Oper} {o : Oper} {a : Act} {Q : Exit → Act → World → Prop} (hgd : o.guard = none) (s x : Operand) (t : TypeId)
    (ho : o.op = .call { callee := .builtin .append, args := #[s, x], argTypes := #[t, t] })
    (e : TypeId) (i : TypeInfo) (ht : P.underlying t = some (.slice e)) (hi : P.info? e = some i) (ao : Option Addr) (n cap : Nat) (hs : a.eval s = .slice ao n cap) (hle : n ≤ cap) (xv : Value) (hx : a.eval x = xv) (hsrc : Src P i.size t xv 0 [] w)
    (h : wpList P ops Q rest (a.put o.dst (.slice ao n cap)) w) : wpList P ops Q (o :: rest) a w := by
  refine wpList_plain hgd fun K hK => ?_
  have hrun := run_append_nothing (P := P) w t t o.type e i ht hi ao n cap hle xv hsrc
  unfold Oper.wp
  simp [execOp, ho, resolve, invoke, builtin, hs, hx, hrun, Result.andThen]
  exact hK _ _ h

theorem at_newsC {C : Nat} (hC : 0 < C) {g : Nat → Nat → Value} {n b o : Nat} {w : World} (h : At C g n b o w) : ∀ j u, (rowCells C g n)[j]? = some u → w.cell? ((⟨b, o, none⟩ : Addr).add j) = some u := by
  intro j u hj
  have hlt : j < n * C := by
    rcases Nat.lt_or_ge j (n * C) with h1 | h1
    · exact h1
    · rw [List.getElem?_eq_none (by rw [rowCells_len]; exact h1)] at hj; cases hj
  have hi : j / C < n := (Nat.div_lt_iff_lt_mul hC).2 hlt
  have hr : j % C < C := Nat.mod_lt _ hC
  have hjj : j / C * C + j % C = j := by rw [Nat.mul_comm]; exact Nat.div_add_mod j C
  have e := rowCells_at g hi hr
  rw [hjj, hj] at e
  have := h.2 _ hi _ hr
  rw [add_plain]
  rw [show o + j / C * C + j % C = o + j by omega] at this
  rw [this]
  exact e.symm
/-- a store into a row of the call's own -/
theorem own_set {u : World} {b n : Nat} {v : Value} {f : Nat → Int} (h : u.ownsRow b 3 1 v n (rowCells 1 (gW f) n)) {k : Nat} (hk : k < n) : ∃ bw cap, v = .slice (some ⟨bw, 0, none⟩) n cap ∧ b ≤ bw ∧ u.cell? ⟨bw, k, none⟩ = some (.int .i64 (f k)) ∧ (∀ q, u.frozen? ⟨bw, q, none⟩ = false) ∧
    ∀ x, (u.setCell ⟨bw, k, none⟩ (.int .i64 x)).ownsRow b 3 1 v n (rowCells 1 (gW (upd f k x)) n) := by
  rcases h.2 with ⟨rfl, h0⟩ | ⟨bw, cap, cur, rfl, l1, l2, l3, l4, l5, l6⟩
  · omega
  have at_ : ∀ j, j < n → cur[j]? = some (.int .i64 (f j)) := fun j hj => by
    have e := rowCells_at (gW f) (C := 1) (n := n) (i := j) (j := 0) hj (by omega)
    rw [← l6, List.getElem?_take, if_pos (by omega)] at e
    rw [← Array.getElem?_toList]
    simpa [gW] using e
  refine ⟨bw, cap, rfl, l1, ?_, fun q => Lib.frozen_of_heap l2 q, fun x => ?_⟩
  · rw [Lib.cell_of_heap l2]; exact at_ k hk
  have hh := Joins.block_setCell (i := k) l2 (.int .i64 x)
  refine ⟨by rw [rowCells_len], .inr ⟨bw, cap, _, rfl, l1, hh, l3, l4, by simpa using l5, ?_⟩⟩
  apply List.ext_getElem?
  intro j
  rw [List.getElem?_take]
  by_cases hj : j < n * 1
  · rw [if_pos hj]
    have e := rowCells_at (gW (upd f k x)) (C := 1) (n := n) (i := j) (j := 0) (by omega) (by omega)
    rw [show j * 1 + 0 = j by omega] at e
    rw [e, Array.getElem?_toList, Array.getElem?_setIfInBounds]
    have hsz : j < cur.size := by rw [l5]; omega
    by_cases e2 : k = j
    · subst e2
      simp [upd, gW, hsz]
    · rw [if_neg e2, at_ j (by omega)]
      simp [upd, gW, show ¬ j = k by omega]
  · rw [if_neg hj, List.getElem?_eq_none (by rw [rowCells_len]; exact Nat.le_of_not_lt hj)]

end Go.Proofs.YthkfaeplmmlnlaaGreat
namespace Go.Proofs.YthkfaeplmmlnlaaGreat
open Go.RowKit
set_option linter.unusedVariables false

set_option maxHeartbeats 1600000 in
theorem ints5_any (f g : Nat → Int) (n m : Nat) (v1 v2 : Value) (w : World) (h1 : Sl 1 (gW f) n v1 w) (h2 : Sl 1 (gW g) m v2 w) :
    Calls Tryz.prog 33 #[v1, v2] w fun e w' => e = .returned (.bool (sameW f g n m)) ∧ Below w.heap.size w w' := by
  obtain ⟨a1, c1, rfl, l1, m1, k1⟩ := h1
  obtain ⟨a2, c2, rfl, l2, m2, k2⟩ := h2
  have K1 := Lib.hid k1
  have K2 := Lib.hid k2
  clear k1 k2
  have E : Hid (sameW f g n m = (decide (n = m) && allN (fun i => decide (f i = g i)) n)) := rfl
  have EP : Hid (∀ i, (fun i => decide (f i = g i)) i = decide (f i = g i)) := fun i => rfl
  generalize sameW f g n m = s at *
  generalize (fun i => decide (f i = g i)) = p at *
  go_enter Tryz.func33, Tryz.ntmps33
  by_cases hnm : n = m
  · subst hnm
    have E2 : Hid (s = allN p n) := by show _ = _; rw [E.out]; simp
    clear E
    go_wp2_with fail
    go_loopw [5] (fun i wr => ∃ j : Nat, j ≤ n ∧ i = .int .i64 j ∧ allN p j = true ∧ Below w.heap.size w wr) (fun i _ => n - (intOf i).toNat)
    case atStart => exact ⟨0, by omega, rfl, rfl, Below.refl _ _⟩
    case round =>
      obtain ⟨j, hj, rfl, hall, hl⟩ := hrel
      have HL := Lib.hid hl
      have HAll := Lib.hid hall
      clear hall
      by_cases hlt : j < n
      · obtain ⟨b1, o1, rfl, hA1⟩ := K1.out (by omega)
        obtain ⟨b2, o2, rfl, hA2⟩ := K2.out (by omega)
        have hj2 : (j : Int) < (n : Int) := by omega
        have hj0 : (0 : Int) ≤ (j : Int) := by omega
        have y1 := (hA1.below hl).one j hlt
        have y2 := (hA2.below hl).one j hlt
        dsimp only [gW] at y1 y2
        have e := EP.out j
        generalize f j = x at y1 e
        generalize g j = y at y2 e
        clear hl hA1 hA2
        by_cases hxy : x = y
        · have hz : (x != y) = false := by simpa using hxy
          have HP : Hid (p j = true) := by show _ = _; rw [e]; simp [hxy]
          clear e hxy
          go_wp2_with fail
          refine wp_region_held_drew (S := (fun w' => w'.cell? ⟨b1, o1 + j, none⟩ = some (.int .i64 x) ∧ w'.cell? ⟨b2, o2 + j, none⟩ = some (.int .i64 y))) (by kernel_rfl) ?_ (fun hHeld => ?_)
          · exact ⟨y1, y2⟩
          first | refine tq0 0 rfl ?_ | refine tq1 0 rfl ?_
          try go_frame
          first | refine tq0 1 rfl ?_ | refine tq1 1 rfl ?_
          try go_frame
          first | refine tq0 2 rfl ?_ | refine tq1 2 rfl ?_
          try go_frame
          first | refine tq0 3 rfl ?_ | refine tq1 3 rfl ?_
          try go_frame
          first | refine tq0 4 rfl ?_ | refine tq1 4 rfl ?_
          try go_frame
          first | refine tq0 5 rfl ?_ | refine tq1 5 rfl ?_
          try go_frame
          first | refine tq0 6 rfl ?_ | refine tq1 6 rfl ?_
          try go_frame
          first | refine tq0 7 rfl ?_ | refine tq1 7 rfl ?_
          try go_frame
          first | refine tq0 8 rfl ?_ | refine tq1 8 rfl ?_
          try go_frame
          refine wpAnyH_done (by kernel_rfl) ?_ _
          go_wp2_with fail
          go_roundw
          case rel => exact ⟨j + 1, by omega, by go_num, allN_step HAll.out HP.out, bthen HL.out (bdrew _)⟩
          case measure => simp [intOf]; omega
        · have hz : (x != y) = true := by simpa using hxy
          have HP : Hid (p j = false) := by show _ = _; rw [e]; simp [hxy]
          clear e hxy
          go_wp2_with fail
          refine wp_region_held_drew (S := (fun w' => w'.cell? ⟨b1, o1 + j, none⟩ = some (.int .i64 x) ∧ w'.cell? ⟨b2, o2 + j, none⟩ = some (.int .i64 y))) (by kernel_rfl) ?_ (fun hHeld => ?_)
          · exact ⟨y1, y2⟩
          first | refine tq0 0 rfl ?_ | refine tq1 0 rfl ?_
          try go_frame
          first | refine tq0 1 rfl ?_ | refine tq1 1 rfl ?_
          try go_frame
          first | refine tq0 2 rfl ?_ | refine tq1 2 rfl ?_
          try go_frame
          first | refine tq0 3 rfl ?_ | refine tq1 3 rfl ?_
          try go_frame
          first | refine tq0 4 rfl ?_ | refine tq1 4 rfl ?_
          try go_frame
          first | refine tq0 5 rfl ?_ | refine tq1 5 rfl ?_
          try go_frame
          first | refine tq0 6 rfl ?_ | refine tq1 6 rfl ?_
          try go_frame
          first | refine tq0 7 rfl ?_ | refine tq1 7 rfl ?_
          try go_frame
          first | refine tq0 8 rfl ?_ | refine tq1 8 rfl ?_
          try go_frame
          refine wpAnyH_done (by kernel_rfl) ?_ _
          go_wp2_with fail
          go_ret
          exact ⟨by rw [E2.out, allN_false hlt HP.out]; rfl, bthen HL.out (bdrew _)⟩
      · obtain rfl : n = j := by omega
        clear hl
        go_wp2_with fail
        go_ret
        exact ⟨by rw [E2.out, HAll.out]; rfl, HL.out⟩
  · have hz : ((n : Int) != (m : Int)) = true := by simp; omega
    have E2 : Hid (s = false) := by show _ = _; rw [E.out]; simp [hnm]
    clear E hnm
    go_wp2_with fail
    go_ret
    exact ⟨by rw [E2.out]; rfl, Below.refl _ _⟩

end Go.Proofs.YthkfaeplmmlnlaaGreat
