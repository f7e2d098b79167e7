/- No store: what some of its methods answer. -/
import Derived.Test.YtmflkkkbahghgaaGreatYZ16
namespace Go.Proofs.YtmflkkkbahghgaaGreat
open Go.RowKit Go.Deep
set_option linter.unusedVariables false
set_option linter.unusedSimpArgs false
set_option maxRecDepth 100000

theorem snup (u : World) : Calls Tryz.prog 87 #[.pointer none] u fun r u' => r = .returned (.int .i64 1) ∧ u' = u := by
  go_enter Tryz.func87, Tryz.ntmps87
  go_wp2_with fail
  go_ret
  exact ⟨rfl, rfl⟩
theorem sntakes (s : ByteArray) (u : World) : Calls Tryz.prog 101 #[.pointer none, .string s] u fun r u' => r = .returned (.int .i64 1) ∧ u' = u := by
  have HU := Lib.hid (snup u)
  go_enter Tryz.func101, Tryz.ntmps101
  go_wp2_with fail
  refine (HU.out).mono ?_
  rintro e w1 ⟨rfl, hw⟩
  rw [hw]
  clear hw w1
  go_wp2_with fail
  go_ret
  exact ⟨rfl, rfl⟩
theorem snat (l : Int) (u : World) : Calls Tryz.prog 120 #[.pointer none, .int .i64 l] u fun r u' => r = .returned (.int .i64 1) ∧ u' = u := by
  have HU := Lib.hid (snup u)
  go_enter Tryz.func120, Tryz.ntmps120
  go_wp2_with fail
  refine (HU.out).mono ?_
  rintro e w1 ⟨rfl, hw⟩
  rw [hw]
  clear hw w1
  go_wp2_with fail
  go_ret
  exact ⟨rfl, rfl⟩
theorem snnew (s : ByteArray) (u : World) : Calls Tryz.prog 59 #[.pointer none, .string s] u fun r u' => r = .returned (.tuple #[.int .i64 0, .int .i64 1]) ∧ Below u.heap.size u u' := by
  have HU := Lib.hid (sntakes s u)
  go_enter Tryz.func59, Tryz.ntmps59
  go_wp2_with fail
  refine (HU.out).mono ?_
  rintro e w1 ⟨rfl, hw⟩
  rw [hw]
  clear hw w1
  go_wp2_with fail
  go_ret2
  exact ⟨rfl, Below.refl _ _⟩
theorem sndrop (l : Int) (u : World) : Calls Tryz.prog 73 #[.pointer none, .int .i64 l] u fun r u' => r = .returned (.int .i64 1) ∧ Below u.heap.size u u' := by
  have HU := Lib.hid (snat l u)
  go_enter Tryz.func73, Tryz.ntmps73
  go_wp2_with fail
  refine (HU.out).mono ?_
  rintro e w1 ⟨rfl, hw⟩
  rw [hw]
  clear hw w1
  go_wp2_with fail
  go_ret
  exact ⟨rfl, Below.refl _ _⟩
end Go.Proofs.YtmflkkkbahghgaaGreat
