/- The contract of the document's own Ins. -/
import Derived.Test.YtehdlpgopcoecaaModelIns
namespace Go.Proofs.Ytehdlpgopcoecaa
open Go.RowKit
set_option linter.unusedVariables false

set_option maxHeartbeats 3200000 in
/-- the document's own answer -/
theorem refIns_any (x : I4) (len : Int) (w : World) :
    Calls Try.prog 20 #[.agg #[.int .i64 x.op, .int .i64 x.a, .int .i64 x.b, .int .i64 x.c], .int .i64 len] w fun e w' => e = .returned (.bool (insB x len)) ∧ Below w.heap.size w w' := by
  obtain ⟨op, a, b, c⟩ := x
  dsimp only
  have E : Hid (∀ k, kindI op = k → insB ⟨op, a, b, c⟩ len = kindB k a b c len) := fun k h => by unfold insB; rw [h]
  generalize insB ⟨op, a, b, c⟩ len = r at E ⊢
  have HA := Lib.hid (reg_any a)
  have HB := Lib.hid (reg_any b)
  have HC := Lib.hid (reg_any c)
  have HBel := Lib.hid (balloc w (.cells #[.int .i64 op, .int .i64 a, .int .i64 b, .int .i64 c] 45))
  have EK : Hid (∀ k, kindB k a b c len = match k with | 0 => true | 1 => plcB a len | 2 => regB a && plcB b len | 3 => regB a | 4 => regB a && regB b | 5 => regB a && regB b && regB c | _ => false) := fun k => rfl
  generalize regB a = ra at *
  generalize regB b = rb at *
  generalize regB c = rc at *
  go_enter Try.func20, Try.ntmps20
  go_wp2_with (first
      | (go_at_call 26; with_reducible refine (HA.out _).mono ?_; rintro e w' ⟨rfl, rfl⟩)
      | (go_at_call 26; with_reducible refine (HB.out _).mono ?_; rintro e w' ⟨rfl, rfl⟩)
      | (go_at_call 26; with_reducible refine (HC.out _).mono ?_; rintro e w' ⟨rfl, rfl⟩))
  all_goals
    go_ret
    refine ⟨?_, HBel.out⟩
    simp only [beq_iff_eq, beq_eq_false_iff_ne, ne_eq, Bool.not_eq_true] at *
    obtain ⟨k, hk⟩ : ∃ k, kindI op = k := ⟨_, rfl⟩
    have hr := E.out k hk
    rw [EK.out] at hr
    unfold kindI at hk
    simp [*] at hk
    subst hk
    rw [hr]
    simp [*, plcB]
    try omega

end Go.Proofs.Ytehdlpgopcoecaa
