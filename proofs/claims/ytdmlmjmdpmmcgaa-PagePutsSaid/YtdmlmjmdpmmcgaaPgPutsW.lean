/- The walk of the law PagePuts. -/
import Derived.Test.YtdmlmjmdpmmcgaaPgLaw0
namespace Go.Proofs.Ytdmlmjmdpmmcgaa
open Go.RowKit Go.Deep
set_option linter.unusedVariables false
set_option linter.unusedSimpArgs false
set_option maxRecDepth 100000

set_option maxHeartbeats 3200000 in
theorem pagePuts_walk (id ep kd : Int) (pay : ByteArray) (W : World) (h0 : (Lit.int .i64 id).wf = true) (h1 : (Lit.int .i64 ep).wf = true) (h2 : (Lit.int .i64 kd).wf = true) (h3 : pay.size ≤ maxLen) :
    Calls Try.prog 3 #[.agg #[.int .i64 id, .int .i64 ep, .int .i64 kd, .string pay]] W fun e w' => e = .returned (.bool true) ∧ Below W.heap.size W w' := by
  have HW := Lib.hid (fun w => awake11_any w)
  have hp1 : pay.size ≤ 9223372036854775807 := by unfold maxLen at h3; omega
  clear h0 h1 h2 h3
  by_cases hz : 600 < pay.size
  · have dz : decide ((600 : Int) < (pay.size : Int)) = true := by simp; omega
    have dz2 : decide (600 < pay.size) = true := by simp; omega
    have dz3 : (600 : Int) ≤ (pay.size : Int) := by omega
    obtain ⟨q, hq⟩ : ∃ q, q = pay.extract 0 600 := ⟨_, rfl⟩
    have hqs : q.size = 600 := by rw [hq, ByteArray.size_extract]; omega
    have HA := Lib.hid (fun w => pput_any ⟨id, ep, kd, q⟩ w (by show (q).size ≤ _; omega))
    have HB := Lib.hid (fun w => rput_any ⟨id, ep, kd, q⟩ w (by show (q).size ≤ _; omega))
    unfold putRet pgV at HA HB
    dsimp only at HA HB
    generalize putS ⟨id, ep, kd, q⟩ = ps at *
    generalize putE ⟨id, ep, kd, q⟩ = pe at *
    have HQ := Lib.hid hq
    clear hq hqs
    have X1 := Lib.hid (heap_alloc_new W (.cells #[.int .i64 id, .int .i64 ep, .int .i64 kd, .string pay] 23))
    have B1 := Lib.hid (balloc W (.cells #[.int .i64 id, .int .i64 ep, .int .i64 kd, .string pay] 23))
    obtain ⟨C, hC⟩ : ∃ C, C = W.heap.size := ⟨_, rfl⟩
    have HC : Hid (W.heap.size ≤ C) := Lib.hid (by omega)
    rw [← hC] at X1
    go_enter Try.func3, Try.ntmps3
    go_upto_region 1 with fail
    rw [← hC]
    generalize W.alloc (.cells #[.int .i64 id, .int .i64 ep, .int .i64 kd, .string pay] 23) = w1 at *
    clear hC
    obtain ⟨x0, x1, x2, x3⟩ := four_cells X1.out
    have xf : ∀ q, w1.frozen? ⟨C, q, none⟩ = false := fun q => Lib.frozen_of_heap X1.out q
    go_upto_region 3 with fail
    rw [← HQ.out]
    have X2 : Hid ((w1.setCell ⟨C, 3, none⟩ (.string q)).heap[C]? = some (.cells #[.int .i64 id, .int .i64 ep, .int .i64 kd, .string q] 23 (0, 0))) := Lib.hid (Joins.block_setCell (i := 3) X1.out _)
    have B2 := Lib.hid (B1.out.trans ((Below.refl _ _).setCell (p := ⟨C, 3, none⟩) HC.out (.string q)))
    generalize w1.setCell ⟨C, 3, none⟩ (.string q) = w2 at *
    clear x0 x1 x2 x3 xf dz dz2 dz3 hz hp1
    have xf := 0
    obtain ⟨x0, x1, x2, x3⟩ := four_cells X2.out
    go_wp2_with fail
    refine (HA.out _).mono ?_
    rintro e w3 ⟨rfl, hb⟩
    have X3 := Lib.hid (heap_stays X2.out hb)
    have B3 := Lib.hid (bthen B2.out hb)
    clear hb x0 x1 x2 x3 xf
    obtain ⟨x0, x1, x2, x3⟩ := four_cells X3.out
    go_wp2_with fail
    refine (HB.out _).mono ?_
    rintro e w4 ⟨rfl, hb⟩
    have B4 := Lib.hid (bthen B3.out hb)
    clear hb
    go_wp2_with fail
    refine (HW.out _).mono ?_
    rintro e w5 ⟨rfl, hb⟩
    have B5 := Lib.hid (bthen B4.out hb)
    clear hb
    go_wp2_with fail
    go_ret
    exact ⟨rfl, B5.out⟩
  · have dz : decide ((600 : Int) < (pay.size : Int)) = false := by simp; omega
    have dz2 : decide (600 < pay.size) = false := by simp; omega
    have HA := Lib.hid (fun w => pput_any ⟨id, ep, kd, pay⟩ w (by show (pay).size ≤ _; omega))
    have HB := Lib.hid (fun w => rput_any ⟨id, ep, kd, pay⟩ w (by show (pay).size ≤ _; omega))
    unfold putRet pgV at HA HB
    dsimp only at HA HB
    generalize putS ⟨id, ep, kd, pay⟩ = ps at *
    generalize putE ⟨id, ep, kd, pay⟩ = pe at *
    have X1 := Lib.hid (heap_alloc_new W (.cells #[.int .i64 id, .int .i64 ep, .int .i64 kd, .string pay] 23))
    have B1 := Lib.hid (balloc W (.cells #[.int .i64 id, .int .i64 ep, .int .i64 kd, .string pay] 23))
    obtain ⟨C, hC⟩ : ∃ C, C = W.heap.size := ⟨_, rfl⟩
    have HC : Hid (W.heap.size ≤ C) := Lib.hid (by omega)
    rw [← hC] at X1
    go_enter Try.func3, Try.ntmps3
    go_upto_region 1 with fail
    rw [← hC]
    generalize W.alloc (.cells #[.int .i64 id, .int .i64 ep, .int .i64 kd, .string pay] 23) = w1 at *
    clear hC
    obtain ⟨x0, x1, x2, x3⟩ := four_cells X1.out
    have xf : ∀ q, w1.frozen? ⟨C, q, none⟩ = false := fun q => Lib.frozen_of_heap X1.out q
    have X2 := X1
    have B2 := B1
    go_wp2_with fail
    refine (HA.out _).mono ?_
    rintro e w3 ⟨rfl, hb⟩
    have X3 := Lib.hid (heap_stays X2.out hb)
    have B3 := Lib.hid (bthen B2.out hb)
    clear hb x0 x1 x2 x3 xf
    obtain ⟨x0, x1, x2, x3⟩ := four_cells X3.out
    go_wp2_with fail
    refine (HB.out _).mono ?_
    rintro e w4 ⟨rfl, hb⟩
    have B4 := Lib.hid (bthen B3.out hb)
    clear hb
    go_wp2_with fail
    refine (HW.out _).mono ?_
    rintro e w5 ⟨rfl, hb⟩
    have B5 := Lib.hid (bthen B4.out hb)
    clear hb
    go_wp2_with fail
    go_ret
    exact ⟨rfl, B5.out⟩

end Go.Proofs.Ytdmlmjmdpmmcgaa
