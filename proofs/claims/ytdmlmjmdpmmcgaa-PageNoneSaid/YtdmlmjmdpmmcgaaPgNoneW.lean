/- The walk of the law PageNone. -/
import Derived.Test.YtdmlmjmdpmmcgaaPgLaw0
namespace Go.Proofs.Ytdmlmjmdpmmcgaa
open Go.RowKit Go.Deep
set_option linter.unusedVariables false
set_option linter.unusedSimpArgs false
set_option maxRecDepth 100000

set_option maxHeartbeats 3200000 in
theorem ppread_nil (id : Int) (u : World) : Calls Try.prog 28 #[.pointer none, .int .i64 id] u fun r u' => r = .returned (.tuple #[.agg #[.int .i64 0, .int .i64 0, .int .i64 0, .string ⟨#[]⟩], .int .i64 1]) ∧ Below u.heap.size u u' := by
  have X1 := Lib.hid (heap_alloc_new u (.cells #[.int .i64 0, .int .i64 0, .int .i64 0, .string ⟨#[]⟩] 23))
  have B1 := Lib.hid (balloc u (.cells #[.int .i64 0, .int .i64 0, .int .i64 0, .string ⟨#[]⟩] 23))
  obtain ⟨C, hC⟩ : ∃ C, C = u.heap.size := ⟨_, rfl⟩
  have HC : Hid (u.heap.size ≤ C) := Lib.hid (by omega)
  rw [← hC] at X1
  go_enter Try.func28, Try.ntmps28
  go_upto_region 1 with fail
  rw [← hC]
  generalize u.alloc (.cells #[.int .i64 0, .int .i64 0, .int .i64 0, .string ⟨#[]⟩] 23) = w1 at *
  clear hC
  obtain ⟨x0, x1, x2, x3⟩ := four_cells X1.out
  have xf : ∀ q, w1.frozen? ⟨C, q, none⟩ = false := fun q => Lib.frozen_of_heap X1.out q
  go_wp2_with fail
  change bodyPost _ _ _ _ _ (World.setCells w1 C 0 [.int .i64 0, .int .i64 0, .int .i64 0, .string ⟨#[]⟩])
  obtain ⟨t0, t1, t2, t3⟩ := four_cells (put_four X1.out (.int .i64 0) (.int .i64 0) (.int .i64 0) (.string ⟨#[]⟩))
  have LZ := Lib.hid (B1.out.trans (put_below HC.out [.int .i64 0, .int .i64 0, .int .i64 0, .string ⟨#[]⟩] 0 w1))
  generalize World.setCells w1 C 0 [.int .i64 0, .int .i64 0, .int .i64 0, .string ⟨#[]⟩] = w9 at *
  exact bodyPost_ret (v := .tuple #[.agg #[.int .i64 0, .int .i64 0, .int .i64 0, .string ⟨#[]⟩], .int .i64 1]) (by simp [results, Try.results28, go_sem, t0, t1, t2, t3]) rfl ⟨rfl, LZ.out⟩
theorem ppwrite_nil (id ep kd : Int) (pay : ByteArray) (u : World) : Calls Try.prog 19 #[.pointer none, .agg #[.int .i64 id, .int .i64 ep, .int .i64 kd, .string pay]] u fun r u' => r = .returned (.int .i64 1) ∧ Below u.heap.size u u' := by
  go_enter Try.func19, Try.ntmps19
  go_wp2_with fail
  go_ret
  exact ⟨rfl, balloc _ _⟩
set_option maxHeartbeats 3200000 in
theorem pageNone_walk (id ep kd : Int) (pay : ByteArray) (i : Int) (W : World) (h0 : (Lit.int .i64 id).wf = true) (h1 : (Lit.int .i64 ep).wf = true) (h2 : (Lit.int .i64 kd).wf = true) (h3 : pay.size ≤ maxLen) (h4 : (Lit.int .i64 i).wf = true) :
    Calls Try.prog 8 #[.agg #[.int .i64 id, .int .i64 ep, .int .i64 kd, .string pay], .int .i64 i] W fun e w' => e = .returned (.bool true) ∧ Below W.heap.size W w' := by
  have HW := Lib.hid (fun w => awake11_any w)
  have HR := Lib.hid (fun w => ppread_nil i w)
  have HN := Lib.hid (fun w => ppwrite_nil id ep kd pay w)
  have HM := Lib.hid (fun w => pmany_nil w)
  clear h0 h1 h2 h3 h4
  have X1 := Lib.hid (heap_alloc_new W (.cells #[.int .i64 id, .int .i64 ep, .int .i64 kd, .string pay] 23))
  have B1 := Lib.hid (balloc W (.cells #[.int .i64 id, .int .i64 ep, .int .i64 kd, .string pay] 23))
  obtain ⟨C, hC⟩ : ∃ C, C = W.heap.size := ⟨_, rfl⟩
  have HC : Hid (W.heap.size ≤ C) := Lib.hid (by omega)
  rw [← hC] at X1
  go_enter Try.func8, Try.ntmps8
  go_upto_region 1 with fail
  rw [← hC]
  generalize W.alloc (.cells #[.int .i64 id, .int .i64 ep, .int .i64 kd, .string pay] 23) = w1 at *
  clear hC
  obtain ⟨x0, x1, x2, x3⟩ := four_cells X1.out
  have xf : ∀ q, w1.frozen? ⟨C, q, none⟩ = false := fun q => Lib.frozen_of_heap X1.out q
  go_wp2_with fail
  refine (HR.out _).mono ?_
  rintro e w2 ⟨rfl, hb⟩
  have X2 := Lib.hid (heap_stays X1.out hb)
  have B2 := Lib.hid (bthen B1.out hb)
  clear hb x0 x1 x2 x3 xf
  have Y3 := Lib.hid (heap_alloc_new w2 (.cells #[.int .i64 0, .int .i64 0, .int .i64 0, .string ⟨#[]⟩] 23))
  have X3 := Lib.hid (heap_stays X2.out (balloc w2 (.cells #[.int .i64 0, .int .i64 0, .int .i64 0, .string ⟨#[]⟩] 23)))
  have B3 := Lib.hid (bthen B2.out (balloc w2 (.cells #[.int .i64 0, .int .i64 0, .int .i64 0, .string ⟨#[]⟩] 23)))
  obtain ⟨D, hD⟩ : ∃ D, D = w2.heap.size := ⟨_, rfl⟩
  rw [← hD] at Y3
  go_upto_region 2 with fail
  rw [← hD]
  generalize w2.alloc (.cells #[.int .i64 0, .int .i64 0, .int .i64 0, .string ⟨#[]⟩] 23) = w3 at *
  clear hD
  go_wp2_with fail
  refine (HW.out _).mono ?_
  rintro e w4 ⟨rfl, hb⟩
  have X4 := Lib.hid (heap_stays X3.out hb)
  have Y4 := Lib.hid (heap_stays Y3.out hb)
  have B4 := Lib.hid (bthen B3.out hb)
  obtain ⟨x0, x1, x2, x3⟩ := four_cells X4.out
  obtain ⟨y0, y1, y2, y3⟩ := four_cells Y4.out
  clear hb
  go_wp2_with fail
  refine (HN.out _).mono ?_
  rintro e w5 ⟨rfl, hb⟩
  have B5 := Lib.hid (bthen B4.out hb)
  clear hb
  go_wp2_with fail
  refine (HM.out _).mono ?_
  rintro e w6 ⟨rfl, rfl⟩
  go_wp2_with fail
  go_ret
  exact ⟨rfl, B5.out⟩

end Go.Proofs.Ytdmlmjmdpmmcgaa
