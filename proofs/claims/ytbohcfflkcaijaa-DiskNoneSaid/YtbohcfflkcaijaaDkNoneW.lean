/- The walk of the law DiskNone: a nil disk has nothing. -/
import Derived.Test.YtbohcfflkcaijaaDkLaw1
namespace Go.Proofs.Ytbohcfflkcaijaa
open Go.RowKit Go.Deep Go.Maps
set_option linter.unusedVariables false
set_option linter.unusedSimpArgs false
set_option maxRecDepth 100000

theorem pat_nil (i : Int) (u : World) : Calls Try.prog 29 #[.pointer none, .int .i64 i] u fun r u' => r = .returned (.int .i64 1) ∧ u' = u := by
  have H := Lib.hid (pup_nil u)
  go_enter Try.func29, Try.ntmps29
  go_wp2_with fail
  refine (H.out).mono ?_
  rintro e w1 ⟨rfl, rfl⟩
  go_wp2_with fail
  go_ret
  exact ⟨rfl, rfl⟩
theorem pread_nil (i : Int) (u : World) : Calls Try.prog 11 #[.pointer none, .int .i64 i] u fun r u' => r = .returned (.tuple #[.string ⟨#[]⟩, .int .i64 1]) ∧ u' = u := by
  have H := Lib.hid (pat_nil i u)
  go_enter Try.func11, Try.ntmps11
  go_wp2_with fail
  refine (H.out).mono ?_
  rintro e w1 ⟨rfl, rfl⟩
  go_wp2_with fail
  go_ret2
  exact ⟨rfl, rfl⟩
theorem pwrite_nil (i : Int) (s : ByteArray) (u : World) : Calls Try.prog 19 #[.pointer none, .int .i64 i, .string s] u fun r u' => r = .returned (.int .i64 1) ∧ u' = u := by
  have H := Lib.hid (pat_nil i u)
  go_enter Try.func19, Try.ntmps19
  go_wp2_with fail
  refine (H.out).mono ?_
  rintro e w1 ⟨rfl, rfl⟩
  go_wp2_with fail
  go_ret
  exact ⟨rfl, rfl⟩
theorem psync_nil (u : World) : Calls Try.prog 26 #[.pointer none] u fun r u' => r = .returned (.int .i64 1) ∧ u' = u := by
  have H := Lib.hid (pup_nil u)
  go_enter Try.func26, Try.ntmps26
  go_wp2_with fail
  refine (H.out).mono ?_
  rintro e w1 ⟨rfl, rfl⟩
  go_wp2_with fail
  go_ret
  exact ⟨rfl, rfl⟩
theorem parm_nil (i : Int) (u : World) : Calls Try.prog 25 #[.pointer none, .int .i64 i] u fun r u' => r = .returned (.int .i64 1) ∧ u' = u := by
  have H := Lib.hid (pup_nil u)
  go_enter Try.func25, Try.ntmps25
  go_wp2_with fail
  refine (H.out).mono ?_
  rintro e w1 ⟨rfl, rfl⟩
  go_wp2_with fail
  go_ret
  exact ⟨rfl, rfl⟩
theorem pdown_nil (u : World) : Calls Try.prog 13 #[.pointer none] u fun r u' => r = .returned (.bool false) ∧ u' = u := by
  go_enter Try.func13, Try.ntmps13
  go_wp2_with fail
  go_ret
  exact ⟨rfl, rfl⟩
theorem psectors_nil (u : World) : Calls Try.prog 14 #[.pointer none] u fun r u' => r = .returned (.int .i64 0) ∧ u' = u := by
  go_enter Try.func14, Try.ntmps14
  go_wp2_with fail
  go_ret
  exact ⟨rfl, rfl⟩
theorem pcalls_nil (u : World) : Calls Try.prog 17 #[.pointer none] u fun r u' => r = .returned (.int .i64 0) ∧ u' = u := by
  go_enter Try.func17, Try.ntmps17
  go_wp2_with fail
  go_ret
  exact ⟨rfl, rfl⟩
theorem ploose_nil (u : World) : Calls Try.prog 15 #[.pointer none] u fun r u' => r = .returned (.int .i64 0) ∧ u' = u := by
  go_enter Try.func15, Try.ntmps15
  go_wp2_with fail
  go_ret
  exact ⟨rfl, rfl⟩
set_option maxHeartbeats 3200000 in
theorem diskNone_walk (a : Ac) (v : Value) (W : World) (ha : AcAt W.heap.size a v W) : Calls Try.prog 8 #[.agg (acV a v).toArray] W fun e w' => e = .returned (.bool true) ∧ Below W.heap.size W w' := by
  obtain ⟨kind, i, s, keep, t, b⟩ := a
  change Calls _ _ #[.agg #[.int .i64 kind, .int .i64 i, .string s, v, .int .i64 t, .int .i64 b]] _ _
  have X1 := Lib.hid (heap_alloc_new W (.cells #[.int .i64 kind, .int .i64 i, .string s, v, .int .i64 t, .int .i64 b] 49))
  have B1 := Lib.hid (balloc W (.cells #[.int .i64 kind, .int .i64 i, .string s, v, .int .i64 t, .int .i64 b] 49))
  have HR : Hid (∀ w, Calls Try.prog 11 #[.pointer none, .int .i64 i] w fun r u' => r = .returned (.tuple #[.string ⟨#[]⟩, .int .i64 1]) ∧ u' = w) := Lib.hid fun w => pread_nil i w
  have HA : Hid (∀ w, Calls Try.prog 10 #[] w fun r u' => r = .returned (.bool true) ∧ Below w.heap.size w u') := Lib.hid fun w => awake_any w
  have HW : Hid (∀ w, Calls Try.prog 19 #[.pointer none, .int .i64 i, .string s] w fun r u' => r = .returned (.int .i64 1) ∧ u' = w) := Lib.hid fun w => pwrite_nil i s w
  obtain ⟨C, hC⟩ : ∃ C, C = W.heap.size := ⟨_, rfl⟩
  rw [← hC] at X1
  clear ha
  go_enter Try.func8, Try.ntmps8
  go_upto_region 1 with fail
  rw [← hC]
  clear hC
  generalize W.alloc (.cells #[.int .i64 kind, .int .i64 i, .string s, v, .int .i64 t, .int .i64 b] 49) = w1 at *
  have x1 : w1.cell? ⟨C, 1, none⟩ = some (.int .i64 i) := by rw [Lib.cell_of_heap X1.out]; rfl
  go_wp2_with fail
  refine (HR.out _).mono ?_
  rintro e w2 ⟨rfl, rfl⟩
  go_wp2_with fail
  refine (HA.out _).mono ?_
  rintro e w3 ⟨rfl, hb3⟩
  have B3 := Lib.hid (bthen B1.out hb3)
  have X3 := Lib.hid ((hb3.block _ (lt_of_block X1.out)).trans X1.out)
  clear hb3 x1 X1 B1
  have x1 : w3.cell? ⟨C, 1, none⟩ = some (.int .i64 i) := by rw [Lib.cell_of_heap X3.out]; rfl
  have x2 : w3.cell? ⟨C, 2, none⟩ = some (.string s) := by rw [Lib.cell_of_heap X3.out]; rfl
  have x3 : w3.cell? ⟨C, 3, none⟩ = some v := by rw [Lib.cell_of_heap X3.out]; rfl
  have x4 : w3.cell? ⟨C, 4, none⟩ = some (.int .i64 t) := by rw [Lib.cell_of_heap X3.out]; rfl
  have x5 : w3.cell? ⟨C, 5, none⟩ = some (.int .i64 b) := by rw [Lib.cell_of_heap X3.out]; rfl
  go_wp2_with fail
  refine (HW.out _).mono ?_
  rintro e w4 ⟨rfl, rfl⟩
  go_wp2_with fail
  refine (psync_nil _).mono ?_
  rintro e w5 ⟨rfl, rfl⟩
  go_wp2_with fail
  refine (parm_nil _ _).mono ?_
  rintro e w6 ⟨rfl, rfl⟩
  go_wp2_with fail
  refine (pcrash_nil v v t b _).mono ?_
  rintro e w7 ⟨rfl, hb7⟩
  have B7 := Lib.hid (bthen B3.out hb7)
  clear hb7 x1 x2 x3 x4 x5
  go_wp2_with fail
  refine (psectors_nil _).mono ?_
  rintro e w8 ⟨rfl, rfl⟩
  go_wp2_with fail
  refine (ploose_nil _).mono ?_
  rintro e w9 ⟨rfl, rfl⟩
  go_wp2_with fail
  refine (pcalls_nil _).mono ?_
  rintro e w10 ⟨rfl, rfl⟩
  go_wp2_with fail
  refine (pdown_nil _).mono ?_
  rintro e w11 ⟨rfl, rfl⟩
  go_wp2_with fail
  go_ret
  exact ⟨rfl, B7.out⟩

end Go.Proofs.Ytbohcfflkcaijaa
