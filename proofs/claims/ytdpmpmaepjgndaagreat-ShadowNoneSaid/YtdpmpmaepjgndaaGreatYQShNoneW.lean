/- The walk of ShadowNone, whatever the program's store is made of. -/
import Derived.Test.YtdpmpmaepjgndaaGreatYZ6
namespace Go.Proofs.YtdpmpmaepjgndaaGreat
open Go.RowKit Go.Deep
set_option linter.unusedVariables false
set_option linter.unusedSimpArgs false
set_option maxRecDepth 100000

structure Sh14N : Prop where
  new : ∀ (s : ByteArray) (u : World), Calls Tryz.prog 29 #[.pointer none, .string s] u fun r u' => r = .returned (.tuple #[.int .i64 0, .int .i64 1]) ∧ Below u.heap.size u u'
  read : ∀ (l : Int) (u : World), Calls Tryz.prog 28 #[.pointer none, .int .i64 l] u fun r u' => r = .returned (.tuple #[.string ByteArray.empty, .int .i64 1]) ∧ Below u.heap.size u u'
  count : ∀ u : World, Calls Tryz.prog 13 #[.pointer none] u fun r u' => r = .returned (.tuple #[.int .i64 0, .int .i64 0, .int .i64 0, .int .i64 0]) ∧ Below u.heap.size u u'
  «open» : ∀ u : World, Calls Tryz.prog 25 #[.pointer none] u fun r u' => r = .returned (.tuple #[.pointer none, .int .i64 1]) ∧ Below u.heap.size u u'
  format : ∀ u : World, Calls Tryz.prog 30 #[.pointer none] u fun r u' => r = .returned (.tuple #[.pointer none, .int .i64 1]) ∧ Below u.heap.size u u'
  write : ∀ (l : Int) (s : ByteArray) (u : World), Calls Tryz.prog 31 #[.pointer none, .int .i64 l, .string s] u fun r u' => r = .returned (.int .i64 1) ∧ Below u.heap.size u u'
  drop : ∀ (l : Int) (u : World), Calls Tryz.prog 32 #[.pointer none, .int .i64 l] u fun r u' => r = .returned (.int .i64 1) ∧ Below u.heap.size u u'
  commit : ∀ u : World, Calls Tryz.prog 33 #[.pointer none] u fun r u' => r = .returned (.int .i64 1) ∧ Below u.heap.size u u'
  abort : ∀ u : World, Calls Tryz.prog 34 #[.pointer none] u fun r u' => r = .returned (.bool false) ∧ Below u.heap.size u u'
  pages : ∀ u : World, Calls Tryz.prog 27 #[.pointer none] u fun r u' => (∃ a c, r = .returned (.slice a 0 c)) ∧ Below u.heap.size u u'
  reach : ∀ u : World, Calls Tryz.prog 14 #[.pointer none] u fun r u' => (∃ a c, r = .returned (.slice a 0 c)) ∧ Below u.heap.size u u'
  epoch : ∀ u : World, Calls Tryz.prog 17 #[.pointer none] u fun r u' => r = .returned (.int .i64 0) ∧ Below u.heap.size u u'
set_option maxHeartbeats 6400000 in
theorem none14_walk {PM : StM} {PF PC : FlM} (I : Sh14 PM PF PC) (N : Sh14N) (kind l : Int) (s : ByteArray) (u : World) : Calls Tryz.prog 7 #[.agg #[.int .i64 kind, .int .i64 l, .string s]] u fun r u' => r = .returned (.bool true) ∧ Below u.heap.size u u' := by
  have HA := Lib.hid (fun w => awake14_any I w)
  have HN := Lib.hid N
  have X1 := Lib.hid (heap_alloc_new u (.cells #[.int .i64 kind, .int .i64 l, .string s] 31))
  have B1 := Lib.hid (balloc u (.cells #[.int .i64 kind, .int .i64 l, .string s] 31))
  obtain ⟨G, hG⟩ : ∃ G, G = u.heap.size := ⟨_, rfl⟩
  rw [← hG] at X1
  clear I N
  go_enter Tryz.func7, Tryz.ntmps7
  go_upto_region 1 with fail
  rw [← hG]
  clear hG
  generalize u.alloc (.cells #[.int .i64 kind, .int .i64 l, .string s] 31) = w1 at *
  have SS : Hid (∀ w, Below w1.heap.size w1 w → w.cell? ⟨G, 1, none⟩ = some (.int .i64 l) ∧ w.cell? ⟨G, 2, none⟩ = some (.string s)) := Lib.hid (fun w k => by
    have e := (k.block G (lt_of_block X1.out)).trans X1.out
    refine ⟨?_, ?_⟩ <;> (rw [Lib.cell_of_heap e]; rfl))
  have B0 := Lib.hid (Below.refl w1.heap.size w1)
  obtain ⟨q1, q2⟩ := SS.out _ B0.out
  go_wp2_with fail
  refine (HN.out.new s _).mono ?_
  rintro e w2 ⟨rfl, hb⟩
  have B2 := Lib.hid (bthen B0.out hb)
  clear hb q1 q2
  obtain ⟨q1, q2⟩ := SS.out _ B2.out
  go_wp2_with fail
  refine (HN.out.read l _).mono ?_
  rintro e w3 ⟨rfl, hb⟩
  have B3 := Lib.hid (bthen B2.out hb)
  clear hb q1 q2
  obtain ⟨q1, q2⟩ := SS.out _ B3.out
  go_wp2_with fail
  refine (HN.out.count _).mono ?_
  rintro e w4 ⟨rfl, hb⟩
  have B4 := Lib.hid (bthen B3.out hb)
  clear hb q1 q2
  obtain ⟨q1, q2⟩ := SS.out _ B4.out
  go_wp2_with fail
  refine (HN.out.open _).mono ?_
  rintro e w5 ⟨rfl, hb⟩
  have B5 := Lib.hid (bthen B4.out hb)
  clear hb q1 q2
  obtain ⟨q1, q2⟩ := SS.out _ B5.out
  go_wp2_with fail
  refine (HN.out.format _).mono ?_
  rintro e w6 ⟨rfl, hb⟩
  have B6 := Lib.hid (bthen B5.out hb)
  clear hb q1 q2
  obtain ⟨q1, q2⟩ := SS.out _ B6.out
  go_wp2_with fail
  refine (HA.out _).mono ?_
  rintro e w7 ⟨rfl, hb⟩
  have B7 := Lib.hid (bthen B6.out hb)
  clear hb q1 q2
  obtain ⟨q1, q2⟩ := SS.out _ B7.out
  go_wp2_with fail
  refine (HN.out.write l s _).mono ?_
  rintro e w8 ⟨rfl, hb⟩
  have B8 := Lib.hid (bthen B7.out hb)
  clear hb q1 q2
  obtain ⟨q1, q2⟩ := SS.out _ B8.out
  go_wp2_with fail
  refine (HN.out.drop l _).mono ?_
  rintro e w9 ⟨rfl, hb⟩
  have B9 := Lib.hid (bthen B8.out hb)
  clear hb q1 q2
  obtain ⟨q1, q2⟩ := SS.out _ B9.out
  go_wp2_with fail
  refine (HN.out.commit _).mono ?_
  rintro e w10 ⟨rfl, hb⟩
  have B10 := Lib.hid (bthen B9.out hb)
  clear hb q1 q2
  obtain ⟨q1, q2⟩ := SS.out _ B10.out
  go_wp2_with fail
  refine (HN.out.abort _).mono ?_
  rintro e w11 ⟨rfl, hb⟩
  have B11 := Lib.hid (bthen B10.out hb)
  clear hb q1 q2
  obtain ⟨q1, q2⟩ := SS.out _ B11.out
  go_wp2_with fail
  refine (HN.out.pages _).mono ?_
  rintro e w12 ⟨⟨a10, c10, rfl⟩, hb⟩
  have B12 := Lib.hid (bthen B11.out hb)
  clear hb q1 q2
  obtain ⟨q1, q2⟩ := SS.out _ B12.out
  go_wp2_with fail
  refine (HN.out.reach _).mono ?_
  rintro e w13 ⟨⟨a11, c11, rfl⟩, hb⟩
  have B13 := Lib.hid (bthen B12.out hb)
  clear hb q1 q2
  obtain ⟨q1, q2⟩ := SS.out _ B13.out
  go_wp2_with fail
  refine (HN.out.epoch _).mono ?_
  rintro e w14 ⟨rfl, hb⟩
  have B14 := Lib.hid (bthen B13.out hb)
  clear hb q1 q2
  obtain ⟨q1, q2⟩ := SS.out _ B14.out
  go_wp2_with fail
  go_ret
  exact ⟨rfl, B1.out.trans (B14.out.mono B1.out.size)⟩

end Go.Proofs.YtdpmpmaepjgndaaGreat
