/- The program's Newer of no text and a root's. -/
import Derived.Test.YtaaagmcdbmppmaaYRtP8
namespace Go.Proofs.Ytaaagmcdbmppmaa
open Go.RowKit Go.Deep
set_option linter.unusedVariables false
set_option linter.unusedSimpArgs false
set_option maxRecDepth 100000

set_option maxHeartbeats 1600000 in
theorem pnewer_any (s : ByteArray) (x : Rt) (u : World) (hx : SaysR s x) : Calls Try.prog 19 #[.string ⟨#[]⟩, .string s] u fun r u' => (∃ ep lg a n c, r = .returned (.tuple #[rtV ep lg (.slice a n c), .int .i64 1, .bool true])) ∧ Below u.heap.size u u' := by
  have HG1 : Hid (∀ w, Calls Try.prog 9 #[.string ⟨#[]⟩] w fun r u' => Below w.heap.size w u' ∧ ∃ ep lg a n c, r = .returned (.tuple #[.agg #[.int .i64 ep, .int .i64 lg, .slice a n c], .bool false])) := Lib.hid (fun w => (pgetR_any ⟨#[]⟩ w (by show 0 ≤ 1000; omega)).mono fun r u' h => by
    obtain ⟨hb, ⟨y, v, hy, _⟩ | ⟨_, h⟩⟩ := h
    · exact absurd hy.size (by show ¬ 0 = 64; omega)
    · exact ⟨hb, h⟩)
  have HG2 : Hid (∀ w, Calls Try.prog 9 #[.string s] w fun r u' => Below w.heap.size w u' ∧ ∃ ep lg a n c, r = .returned (.tuple #[.agg #[.int .i64 ep, .int .i64 lg, .slice a n c], .bool true])) := Lib.hid (fun w => (pgetR_any s w (by rw [hx.size]; omega)).mono fun r u' h => by
    obtain ⟨hb, ⟨y, v, hy, hr, ⟨ao, cap, hv, _⟩, _⟩ | ⟨h, _⟩⟩ := h
    · exact ⟨hb, y.ep, y.lg, ao, _, cap, by rw [hr, hv]; rfl⟩
    · exact absurd hx (h x))
  have X1 := Lib.hid (heap_alloc_new u (.cells #[.int .i64 0, .int .i64 0, .slice none 0 0] 29))
  have B1 := Lib.hid (balloc u (.cells #[.int .i64 0, .int .i64 0, .slice none 0 0] 29))
  obtain ⟨C, hC⟩ : ∃ C, C = u.heap.size := ⟨_, rfl⟩
  have HCC := Lib.hid hC
  rw [← hC] at X1 B1
  clear hx
  go_enter Try.func19, Try.ntmps19
  go_upto_region 1 with fail
  rw [← hC]
  generalize u.alloc (.cells #[.int .i64 0, .int .i64 0, .slice none 0 0] 29) = w1 at *
  clear hC
  go_wp2_with fail
  refine (HG1.out _).mono ?_
  rintro e w2 ⟨hb, ep1, lg1, a1, n1, c1, rfl⟩
  have B2 := Lib.hid (B1.out.trans (hb.mono (by have := lt_of_block X1.out; omega)))
  have X2 := Lib.hid (heap_stays13 X1.out hb)
  clear hb HG1 B1 X1
  have B3 := Lib.hid (B2.out.trans ((balloc w2 (.cells #[.int .i64 ep1, .int .i64 lg1, .slice a1 n1 c1] 29)).mono (by have := lt_of_block X2.out; omega)))
  have X3 := Lib.hid (heap_stays13 X2.out (balloc w2 (.cells #[.int .i64 ep1, .int .i64 lg1, .slice a1 n1 c1] 29)))
  clear B2 X2
  go_upto_region 2 with fail
  generalize w2.heap.size = D1
  generalize w2.alloc (.cells #[.int .i64 ep1, .int .i64 lg1, .slice a1 n1 c1] 29) = w3 at *
  go_wp2_with fail
  refine (HG2.out _).mono ?_
  rintro e w4 ⟨hb, ep2, lg2, a2, n2, c2, rfl⟩
  have B4 := Lib.hid (B3.out.trans (hb.mono (by have := lt_of_block X3.out; omega)))
  have X4 := Lib.hid (heap_stays13 X3.out hb)
  clear hb HG2 B3 X3
  have B5 := Lib.hid (B4.out.trans ((balloc w4 (.cells #[.int .i64 ep2, .int .i64 lg2, .slice a2 n2 c2] 29)).mono (by have := lt_of_block X4.out; omega)))
  have X5 := Lib.hid (heap_stays13 X4.out (balloc w4 (.cells #[.int .i64 ep2, .int .i64 lg2, .slice a2 n2 c2] 29)))
  have D5 := Lib.hid (heap_alloc_new w4 (.cells #[.int .i64 ep2, .int .i64 lg2, .slice a2 n2 c2] 29))
  obtain ⟨D, hD⟩ : ∃ D, D = w4.heap.size := ⟨_, rfl⟩
  rw [← hD] at D5
  clear B4 X4
  go_upto_region 3 with fail
  rw [← hD]
  generalize w4.alloc (.cells #[.int .i64 ep2, .int .i64 lg2, .slice a2 n2 c2] 29) = w5 at *
  clear hD
  obtain ⟨y0, y1, y2⟩ := three_of D5.out
  obtain ⟨x0, x1, x2⟩ := three_of X5.out
  have xf : ∀ q, w5.frozen? ⟨C, q, none⟩ = false := fun q => Lib.frozen_of_heap X5.out q
  go_wp2_with fail
  change bodyPost _ _ _ _ _ (World.setCells w5 C 0 [.int .i64 ep2, .int .i64 lg2, .slice a2 n2 c2])
  obtain ⟨t0, t1, t2⟩ := three_of (put_triple13 X5.out (.int .i64 ep2) (.int .i64 lg2) (.slice a2 n2 c2))
  have LZ := Lib.hid (B5.out.trans (put_belowC (Nat.le_refl C) [.int .i64 ep2, .int .i64 lg2, .slice a2 n2 c2] 0 w5))
  generalize World.setCells w5 C 0 [.int .i64 ep2, .int .i64 lg2, .slice a2 n2 c2] = w9 at *
  exact bodyPost_ret (v := .tuple #[.agg #[.int .i64 ep2, .int .i64 lg2, .slice a2 n2 c2], .int .i64 1, .bool true]) (by simp [results, Try.results19, go_sem, t0, t1, t2]) rfl ⟨⟨ep2, lg2, a2, n2, c2, rfl⟩, HCC.out ▸ LZ.out⟩

end Go.Proofs.Ytaaagmcdbmppmaa
