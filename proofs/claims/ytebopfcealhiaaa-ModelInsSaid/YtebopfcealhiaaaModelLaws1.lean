/- The walk of the law ModelIns. -/
import Derived.Test.YtebopfcealhiaaaModelAwake
import Derived.Test.YtebopfcealhiaaaModelRefIns
namespace Go.Proofs.Ytebopfcealhiaaa
open Go.RowKit
set_option linter.unusedVariables false

set_option maxHeartbeats 3200000 in
theorem modelIns_walk (op a b c len : Int) (w : World) (h0 : (Lit.int .i64 op).wf = true) (h1 : (Lit.int .i64 a).wf = true) (h2 : (Lit.int .i64 b).wf = true) (h3 : (Lit.int .i64 c).wf = true) (h4 : (Lit.int .i64 len).wf = true) :
    Calls Try.prog 4 #[.agg #[.int .i64 op, .int .i64 a, .int .i64 b, .int .i64 c], .int .i64 len] w fun e w' => e = .returned (.bool true) ∧ Below w.heap.size w w' := by
  clear h0 h1 h2 h3 h4
  have HI := Lib.hid (fun w => ins_any ⟨op, a, b, c⟩ len w)
  have HR := Lib.hid (fun w => refIns_any ⟨op, a, b, c⟩ len w)
  have HX := Lib.hid (Box4.new ⟨op, a, b, c⟩ 34 w)
  have HA := Lib.hid (balloc w (.cells #[.int .i64 op, .int .i64 a, .int .i64 b, .int .i64 c] 34))
  generalize insB ⟨op, a, b, c⟩ len = r at *
  go_enter Try.func4, Try.ntmps4
  go_wp2_with fail
  refine wp_region_quiet (C := Cls (w.alloc (.cells #[.int .i64 op, .int .i64 a, .int .i64 b, .int .i64 c] 34))) (by kernel_rfl) (by kernel_rfl) (Cls.drew _) ?_
  repeat (first
      | (refine BigFrame.wpQuiet_skip (by rfl) ?_
         try simp only [Act.put, List.setIfInBounds_toArray, List.set_cons_zero, List.set_cons_succ])
      | (refine BigFrame.wpQuiet_want (by rfl) (fun K hK => ?_)
         apply Exists.intro
         refine ⟨fun w' hC => ?_, hK _ ?_⟩
         · obtain ⟨_, p0, p1, p2, p3⟩ := HX.out.below hC.out
           dsimp only [Nat.zero_add] at p0 p1 p2 p3
           go_simp
           first
             | rfl
             | (go_at_call 8; refine (awake5_any _).mono ?_; rintro e w2 ⟨rfl, hb⟩; exact ⟨rfl, hC.on hb⟩)
             | (go_at_call 12; refine (HI.out _).mono ?_; rintro e w2 ⟨rfl, hb⟩; exact ⟨rfl, hC.on hb⟩)
             | (go_at_call 13; refine (HR.out _).mono ?_; rintro e w2 ⟨rfl, hb⟩; exact ⟨rfl, hC.on hb⟩)
         clear hK K
         try simp only [Act.put, List.setIfInBounds_toArray, List.set_cons_zero, List.set_cons_succ]))
  refine wpQuiet_nil ?_
  intro w9 hC9
  go_wp2_with fail
  go_ret
  exact ⟨rfl, bthen HA.out hC9.out⟩

end Go.Proofs.Ytebopfcealhiaaa
