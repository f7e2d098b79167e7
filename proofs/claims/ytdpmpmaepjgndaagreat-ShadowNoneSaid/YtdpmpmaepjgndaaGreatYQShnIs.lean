/- No store: what its methods answer. -/
import Derived.Test.YtdpmpmaepjgndaaGreatYQShNoneW
import Derived.Test.YtdpmpmaepjgndaaGreatYZ28
namespace Go.Proofs.YtdpmpmaepjgndaaGreat
open Go.RowKit Go.Deep
set_option linter.unusedVariables false
set_option linter.unusedSimpArgs false
set_option maxRecDepth 100000

theorem snup (u : World) : Calls Tryz.prog 76 #[.pointer none] u fun r u' => r = .returned (.int .i64 1) ∧ u' = u := by
  go_enter Tryz.func76, Tryz.ntmps76
  go_wp2_with fail
  go_ret
  exact ⟨rfl, rfl⟩
theorem sntakes (s : ByteArray) (u : World) : Calls Tryz.prog 66 #[.pointer none, .string s] u fun r u' => r = .returned (.int .i64 1) ∧ u' = u := by
  have HU := Lib.hid (snup u)
  go_enter Tryz.func66, Tryz.ntmps66
  go_wp2_with fail
  refine (HU.out).mono ?_
  rintro e w1 ⟨rfl, hw⟩
  rw [hw]
  clear hw w1
  go_wp2_with fail
  go_ret
  exact ⟨rfl, rfl⟩
theorem snat (l : Int) (u : World) : Calls Tryz.prog 64 #[.pointer none, .int .i64 l] u fun r u' => r = .returned (.int .i64 1) ∧ u' = u := by
  have HU := Lib.hid (snup u)
  go_enter Tryz.func64, Tryz.ntmps64
  go_wp2_with fail
  refine (HU.out).mono ?_
  rintro e w1 ⟨rfl, hw⟩
  rw [hw]
  clear hw w1
  go_wp2_with fail
  go_ret
  exact ⟨rfl, rfl⟩
theorem snnew (s : ByteArray) (u : World) : Calls Tryz.prog 29 #[.pointer none, .string s] u fun r u' => r = .returned (.tuple #[.int .i64 0, .int .i64 1]) ∧ Below u.heap.size u u' := by
  have HU := Lib.hid (sntakes s u)
  go_enter Tryz.func29, Tryz.ntmps29
  go_wp2_with fail
  refine (HU.out).mono ?_
  rintro e w1 ⟨rfl, hw⟩
  rw [hw]
  clear hw w1
  go_wp2_with fail
  go_ret2
  exact ⟨rfl, Below.refl _ _⟩
theorem snread (l : Int) (u : World) : Calls Tryz.prog 28 #[.pointer none, .int .i64 l] u fun r u' => r = .returned (.tuple #[.string ByteArray.empty, .int .i64 1]) ∧ Below u.heap.size u u' := by
  have HU := Lib.hid (snat l u)
  go_enter Tryz.func28, Tryz.ntmps28
  go_wp2_with fail
  refine (HU.out).mono ?_
  rintro e w1 ⟨rfl, hw⟩
  rw [hw]
  clear hw w1
  go_wp2_with fail
  go_ret2
  exact ⟨rfl, Below.refl _ _⟩
theorem sncount (u : World) : Calls Tryz.prog 13 #[.pointer none] u fun r u' => r = .returned (.tuple #[.int .i64 0, .int .i64 0, .int .i64 0, .int .i64 0]) ∧ Below u.heap.size u u' := by
  go_enter Tryz.func13, Tryz.ntmps13
  go_wp2_with fail
  exact bodyPost_ret (v := .tuple #[.int .i64 0, .int .i64 0, .int .i64 0, .int .i64 0]) (by simp [results, Tryz.results13, go_sem]) rfl ⟨rfl, Below.refl _ _⟩
theorem snopen (u : World) : Calls Tryz.prog 25 #[.pointer none] u fun r u' => r = .returned (.tuple #[.pointer none, .int .i64 1]) ∧ Below u.heap.size u u' := by
  go_enter Tryz.func25, Tryz.ntmps25
  go_wp2_with fail
  go_ret2
  exact ⟨rfl, Below.refl _ _⟩
theorem snwrite (l : Int) (s : ByteArray) (u : World) : Calls Tryz.prog 31 #[.pointer none, .int .i64 l, .string s] u fun r u' => r = .returned (.int .i64 1) ∧ Below u.heap.size u u' := by
  have HU := Lib.hid (sntakes s u)
  go_enter Tryz.func31, Tryz.ntmps31
  go_wp2_with fail
  refine (HU.out).mono ?_
  rintro e w1 ⟨rfl, hw⟩
  rw [hw]
  clear hw w1
  go_wp2_with fail
  go_ret
  exact ⟨rfl, Below.refl _ _⟩
theorem sndrop (l : Int) (u : World) : Calls Tryz.prog 32 #[.pointer none, .int .i64 l] u fun r u' => r = .returned (.int .i64 1) ∧ Below u.heap.size u u' := by
  have HU := Lib.hid (snat l u)
  go_enter Tryz.func32, Tryz.ntmps32
  go_wp2_with fail
  refine (HU.out).mono ?_
  rintro e w1 ⟨rfl, hw⟩
  rw [hw]
  clear hw w1
  go_wp2_with fail
  go_ret
  exact ⟨rfl, Below.refl _ _⟩
theorem snabort (u : World) : Calls Tryz.prog 34 #[.pointer none] u fun r u' => r = .returned (.bool false) ∧ Below u.heap.size u u' := by
  go_enter Tryz.func34, Tryz.ntmps34
  go_wp2_with fail
  go_ret
  exact ⟨rfl, Below.refl _ _⟩
theorem snepoch (u : World) : Calls Tryz.prog 17 #[.pointer none] u fun r u' => r = .returned (.int .i64 0) ∧ Below u.heap.size u u' := by
  go_enter Tryz.func17, Tryz.ntmps17
  go_wp2_with fail
  go_ret
  exact ⟨rfl, Below.refl _ _⟩
theorem snpages (u : World) : Calls Tryz.prog 27 #[.pointer none] u fun r u' => (∃ a c, r = .returned (.slice a 0 c)) ∧ Below u.heap.size u u' := by
  go_enter Tryz.func27, Tryz.ntmps27
  go_wp2_with fail
  go_ret
  exact ⟨⟨_, _, rfl⟩, Below.refl _ _⟩
theorem snreach (u : World) : Calls Tryz.prog 14 #[.pointer none] u fun r u' => (∃ a c, r = .returned (.slice a 0 c)) ∧ Below u.heap.size u u' := by
  go_enter Tryz.func14, Tryz.ntmps14
  go_wp2_with fail
  go_ret
  exact ⟨⟨_, _, rfl⟩, Below.refl _ _⟩
theorem snformat (u : World) : Calls Tryz.prog 30 #[.pointer none] u fun r u' => r = .returned (.tuple #[.pointer none, .int .i64 1]) ∧ Below u.heap.size u u' := by
  have HU := Lib.hid (fun w => snup w)
  have X1 := Lib.hid (heap_alloc_new u (.cells #[.pointer none] 23))
  have B1 := Lib.hid (balloc u (.cells #[.pointer none] 23))
  obtain ⟨B, hB⟩ : ∃ B, B = u.heap.size := ⟨_, rfl⟩
  rw [← hB] at X1
  go_enter Tryz.func30, Tryz.ntmps30
  go_upto_region 1 with fail
  rw [← hB]
  clear hB
  generalize u.alloc (.cells #[.pointer none] 23) = w1 at *
  have x0 : w1.cell? ⟨B, 0, none⟩ = some (.pointer none) := by rw [Lib.cell_of_heap X1.out]; rfl
  go_wp2_with (go_at_call 76; refine (HU.out _).mono ?_; rintro e w9 ⟨rfl, hw⟩; rw [hw]; clear hw w9)
  go_ret2
  exact ⟨rfl, B1.out⟩
theorem sncommit (u : World) : Calls Tryz.prog 33 #[.pointer none] u fun r u' => r = .returned (.int .i64 1) ∧ Below u.heap.size u u' := by
  have HU := Lib.hid (fun w => snup w)
  have X1 := Lib.hid (heap_alloc_new u (.cells #[.pointer none] 24))
  have B1 := Lib.hid (balloc u (.cells #[.pointer none] 24))
  obtain ⟨B, hB⟩ : ∃ B, B = u.heap.size := ⟨_, rfl⟩
  rw [← hB] at X1
  go_enter Tryz.func33, Tryz.ntmps33
  go_upto_region 1 with fail
  rw [← hB]
  clear hB
  generalize u.alloc (.cells #[.pointer none] 24) = w1 at *
  have x0 : w1.cell? ⟨B, 0, none⟩ = some (.pointer none) := by rw [Lib.cell_of_heap X1.out]; rfl
  go_wp2_with (go_at_call 76; refine (HU.out _).mono ?_; rintro e w9 ⟨rfl, hw⟩; rw [hw]; clear hw w9)
  go_ret
  exact ⟨rfl, B1.out⟩
theorem shn_is : Sh14N where
  new := snnew
  read := snread
  count := sncount
  «open» := snopen
  format := snformat
  write := snwrite
  drop := sndrop
  commit := sncommit
  abort := snabort
  pages := snpages
  reach := snreach
  epoch := snepoch

end Go.Proofs.YtdpmpmaepjgndaaGreat
