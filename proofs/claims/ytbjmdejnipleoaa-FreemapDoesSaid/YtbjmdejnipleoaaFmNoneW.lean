/- The walk of the law FreemapNone, whatever the program's map is made of. -/
import Derived.Test.YtbjmdejnipleoaaFmLaw1
namespace Go.Proofs.Ytbjmdejnipleoaa
open Go.RowKit Go.Deep
set_option linter.unusedVariables false
set_option linter.unusedSimpArgs false
set_option maxRecDepth 100000

/-- what is asked of the program's map of nil -/
structure Fm12N : Prop where
  take : ∀ u : World, Calls Try.prog 19 #[.pointer none] u fun r u' => r = .returned (.tuple #[.int .i64 0, .int .i64 1]) ∧ Below u.heap.size u u'
  count : ∀ u : World, Calls Try.prog 10 #[.pointer none] u fun r u' => r = .returned (.tuple #[.int .i64 0, .int .i64 0, .int .i64 0, .int .i64 0]) ∧ Below u.heap.size u u'
  use : ∀ (i : Int) (u : World), Calls Try.prog 20 #[.pointer none, .int .i64 i] u fun r u' => r = .returned (.int .i64 1) ∧ Below u.heap.size u u'
  leave : ∀ (i : Int) (u : World), Calls Try.prog 17 #[.pointer none, .int .i64 i] u fun r u' => r = .returned (.int .i64 1) ∧ Below u.heap.size u u'
  commit : ∀ u : World, Calls Try.prog 16 #[.pointer none] u fun r u' => r = .returned (.bool false) ∧ Below u.heap.size u u'
  abort : ∀ u : World, Calls Try.prog 18 #[.pointer none] u fun r u' => r = .returned (.bool false) ∧ Below u.heap.size u u'
  free : ∀ u : World, Calls Try.prog 14 #[.pointer none] u fun r u' => r = .returned (.int .i64 0) ∧ Below u.heap.size u u'
  list : ∀ (i : Int) (u : World), Calls Try.prog 12 #[.pointer none, .int .i64 i] u fun r u' => (∃ a c, r = .returned (.slice a 0 c)) ∧ Below u.heap.size u u'
  fresh : ∀ (i : Int) (u : World), Calls Try.prog 15 #[.pointer none, .int .i64 i] u fun r u' => r = .returned (.bool false) ∧ Below u.heap.size u u'
set_option maxHeartbeats 3200000 in
theorem none12_walk {PM : PMap} (I : Fm12 PM) (N : Fm12N) (i : Int) (W : World) : Calls Try.prog 7 #[.int .i64 i] W fun r u' => r = .returned (.bool true) ∧ Below W.heap.size W u' := by
  have HA := Lib.hid (fun w => awake12_any I w)
  have HN := Lib.hid N
  clear I N
  go_enter Try.func7, Try.ntmps7
  go_wp2_with fail
  refine (HN.out.take _).mono ?_
  rintro e w1 ⟨rfl, hb⟩
  have B1 := Lib.hid hb
  clear hb
  go_wp2_with fail
  refine (HN.out.count _).mono ?_
  rintro e w2 ⟨rfl, hb⟩
  have B2 := Lib.hid (bthen B1.out hb)
  clear hb
  go_wp2_with fail
  refine (HA.out _).mono ?_
  rintro e w3 ⟨rfl, hb⟩
  have B3 := Lib.hid (bthen B2.out hb)
  clear hb
  go_wp2_with fail
  refine (HN.out.use i _).mono ?_
  rintro e w4 ⟨rfl, hb⟩
  have B4 := Lib.hid (bthen B3.out hb)
  clear hb
  go_wp2_with fail
  refine (HN.out.leave i _).mono ?_
  rintro e w5 ⟨rfl, hb⟩
  have B5 := Lib.hid (bthen B4.out hb)
  clear hb
  go_wp2_with fail
  refine (HN.out.commit _).mono ?_
  rintro e w6 ⟨rfl, hb⟩
  have B6 := Lib.hid (bthen B5.out hb)
  clear hb
  go_wp2_with fail
  refine (HN.out.abort _).mono ?_
  rintro e w7 ⟨rfl, hb⟩
  have B7 := Lib.hid (bthen B6.out hb)
  clear hb
  go_wp2_with fail
  refine (HN.out.free _).mono ?_
  rintro e w8 ⟨rfl, hb⟩
  have B8 := Lib.hid (bthen B7.out hb)
  clear hb
  go_wp2_with fail
  refine (HN.out.list i _).mono ?_
  rintro e w9 ⟨⟨la, lc, rfl⟩, hb⟩
  have B9 := Lib.hid (bthen B8.out hb)
  clear hb
  go_wp2_with fail
  refine (HN.out.fresh i _).mono ?_
  rintro e w10 ⟨rfl, hb⟩
  have B10 := Lib.hid (bthen B9.out hb)
  clear hb
  go_wp2_with fail
  go_ret
  exact ⟨rfl, B10.out⟩

end Go.Proofs.Ytbjmdejnipleoaa
