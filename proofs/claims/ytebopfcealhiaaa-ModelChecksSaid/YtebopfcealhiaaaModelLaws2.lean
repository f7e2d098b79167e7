/- The walk of the law ModelChecks. -/
import Derived.Test.YtebopfcealhiaaaModelAwake
import Derived.Test.YtebopfcealhiaaaModelRefCheck2
import Derived.Test.YtebopfcealhiaaaModelLight
namespace Go.Proofs.Ytebopfcealhiaaa
open Go.RowKit
set_option linter.unusedVariables false

set_option maxHeartbeats 3200000 in
theorem modelChecks_core (seed : Int) (fin : Nat) (vd vp vl vi : Value) (l : Bool) (c : Int) (w : World)
    (HL : Hid (∀ w2, Below w.heap.size w w2 → Calls Try.prog 9 #[.agg #[.int .i64 seed, .float .f64 fin, vd, vp, vl, vi]] w2 fun e w' => e = .returned (.bool l) ∧ Below w2.heap.size w2 w'))
    (HC : Hid (∀ w2, Below w.heap.size w w2 → Calls Try.prog 10 #[.agg #[.int .i64 seed, .float .f64 fin, vd, vp, vl, vi]] w2 fun e w' => e = .returned (.int .i64 c) ∧ Below w2.heap.size w2 w'))
    (HR : Hid (∀ w2, Below w.heap.size w w2 → Calls Try.prog 11 #[.agg #[.int .i64 seed, .float .f64 fin, vd, vp, vl, vi]] w2 fun e w' => e = .returned (.int .i64 c) ∧ Below w2.heap.size w2 w')) :
    Calls Try.prog 3 #[.agg #[.int .i64 seed, .float .f64 fin, vd, vp, vl, vi]] w fun e w' => e = .returned (.bool true) ∧ Below w.heap.size w w' := by
  have HX := Lib.hid (Box6.new (.int .i64 seed) (.float .f64 fin) vd vp vl vi 28 w)
  have HA := Lib.hid (balloc w (.cells #[.int .i64 seed, .float .f64 fin, vd, vp, vl, vi] 28))
  go_enter Try.func3, Try.ntmps3
  cases l
  · go_wp2_with fail
    refine wp_region_quiet (C := Cls (w.alloc (.cells #[.int .i64 seed, .float .f64 fin, vd, vp, vl, vi] 28))) (by kernel_rfl) (by kernel_rfl) (Cls.drew _) ?_
    repeat (first
        | (refine BigFrame.wpQuiet_skip (by rfl) ?_
           try simp only [Act.put, List.setIfInBounds_toArray, List.set_cons_zero, List.set_cons_succ])
        | (refine BigFrame.wpQuiet_want (by rfl) (fun K hK => ?_)
           apply Exists.intro
           refine ⟨fun w' hC => ?_, hK _ ?_⟩
           · obtain ⟨_, p0, p1, p2, p3, p4, p5⟩ := HX.out.below hC.out
             go_simp
             first
               | rfl
               | (go_at_call 8; refine (awake5_any _).mono ?_; rintro e w2 ⟨rfl, hb⟩; exact ⟨rfl, hC.on hb⟩)
               | (go_at_call 9; refine (HL.out _ (bthen HA.out hC.out)).mono ?_; rintro e w2 ⟨rfl, hb⟩; exact ⟨rfl, hC.on hb⟩)
               | (go_at_call 10; refine (HC.out _ (bthen HA.out hC.out)).mono ?_; rintro e w2 ⟨rfl, hb⟩; exact ⟨rfl, hC.on hb⟩)
               | (go_at_call 11; refine (HR.out _ (bthen HA.out hC.out)).mono ?_; rintro e w2 ⟨rfl, hb⟩; exact ⟨rfl, hC.on hb⟩)
           clear hK K
           try simp only [Act.put, List.setIfInBounds_toArray, List.set_cons_zero, List.set_cons_succ]))
    refine wpQuiet_nil ?_
    intro w9 hC9
    go_wp2_with fail
    go_ret
    exact ⟨rfl, bthen HA.out hC9.out⟩
  · go_wp2_with fail
    refine wp_region_quiet (C := Cls (w.alloc (.cells #[.int .i64 seed, .float .f64 fin, vd, vp, vl, vi] 28))) (by kernel_rfl) (by kernel_rfl) (Cls.drew _) ?_
    repeat (first
        | (refine BigFrame.wpQuiet_skip (by rfl) ?_
           try simp only [Act.put, List.setIfInBounds_toArray, List.set_cons_zero, List.set_cons_succ])
        | (refine BigFrame.wpQuiet_want (by rfl) (fun K hK => ?_)
           apply Exists.intro
           refine ⟨fun w' hC => ?_, hK _ ?_⟩
           · obtain ⟨_, p0, p1, p2, p3, p4, p5⟩ := HX.out.below hC.out
             go_simp
             first
               | rfl
               | (go_at_call 8; refine (awake5_any _).mono ?_; rintro e w2 ⟨rfl, hb⟩; exact ⟨rfl, hC.on hb⟩)
               | (go_at_call 9; refine (HL.out _ (bthen HA.out hC.out)).mono ?_; rintro e w2 ⟨rfl, hb⟩; exact ⟨rfl, hC.on hb⟩)
               | (go_at_call 10; refine (HC.out _ (bthen HA.out hC.out)).mono ?_; rintro e w2 ⟨rfl, hb⟩; exact ⟨rfl, hC.on hb⟩)
               | (go_at_call 11; refine (HR.out _ (bthen HA.out hC.out)).mono ?_; rintro e w2 ⟨rfl, hb⟩; exact ⟨rfl, hC.on hb⟩)
           clear hK K
           try simp only [Act.put, List.setIfInBounds_toArray, List.set_cons_zero, List.set_cons_succ]))
    refine wpQuiet_nil ?_
    intro w9 hC9
    go_wp2_with fail
    go_ret
    exact ⟨rfl, bthen HA.out hC9.out⟩

theorem modelChecks_mdl (m : Mdl) (vd vp vl vi : Value) (w : World) (h : MdlAt m vd vp vl vi w) :
    Calls Try.prog 3 #[mval m vd vp vl vi] w fun e w' => e = .returned (.bool true) ∧ Below w.heap.size w w' :=
  modelChecks_core m.seed m.fin vd vp vl vi (lightB m) (chkN m) w (fun w2 k => light_any m vd vp vl vi w2 (h.below k)) (fun w2 k => check_any m vd vp vl vi w2 (h.below k)) (fun w2 k => refCheck_any m vd vp vl vi w2 (h.below k))

end Go.Proofs.Ytebopfcealhiaaa
