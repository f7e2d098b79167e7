/- The walk of the law PageGets. -/
import Derived.Test.YtdmlmjmdpmmcgaaPgLaw0
import Derived.Test.YtdmlmjmdpmmcgaaPgR2
namespace Go.Proofs.Ytdmlmjmdpmmcgaa
open Go.RowKit Go.Deep
set_option linter.unusedVariables false
set_option linter.unusedSimpArgs false
set_option maxRecDepth 100000

set_option maxHeartbeats 3200000 in
theorem pageGets_walk (s : ByteArray) (W : World) (h3 : s.size ≤ maxLen) :
    Calls Try.prog 4 #[.string s] W fun e w' => e = .returned (.bool true) ∧ Below W.heap.size W w' := by
  have HW := Lib.hid (fun w => awake11_any w)
  have hp1 : s.size ≤ 9223372036854775807 := by unfold maxLen at h3; omega
  clear h3
  by_cases hz : 600 < s.size
  · have dz : decide ((600 : Int) < (s.size : Int)) = true := by simp; omega
    have dz2 : decide (600 < s.size) = true := by simp; omega
    have dz3 : (600 : Int) ≤ (s.size : Int) := by omega
    obtain ⟨q, hq⟩ : ∃ q, q = s.extract 0 600 := ⟨_, rfl⟩
    have hqs : q.size = 600 := by rw [hq, ByteArray.size_extract]; omega
    have HA := Lib.hid (fun w => pget_any q (by omega) w)
    have HB := Lib.hid (fun w => rget_any q (by omega) w)
    unfold getRet at HA HB
    obtain ⟨g, hg⟩ : ∃ g, g = getP q := ⟨_, rfl⟩
    rw [← hg] at HA HB
    clear hg
    obtain ⟨n1, n2, n3, pb⟩ := g
    unfold pgV at HA HB
    dsimp only at HA HB
    generalize getE q = ge at *
    have HQ := Lib.hid hq
    clear hq hqs
    go_enter Try.func4, Try.ntmps4
    go_upto_region 3 with fail
    rw [← HQ.out]
    clear dz dz2 dz3 hz hp1
    go_wp2_with fail
    refine (HA.out _).mono ?_
    rintro e w1 ⟨rfl, hb⟩
    have Y2 := Lib.hid (heap_alloc_new w1 (.cells #[.int .i64 n1, .int .i64 n2, .int .i64 n3, .string pb] 23))
    have B2 := Lib.hid (bthen hb (balloc w1 (.cells #[.int .i64 n1, .int .i64 n2, .int .i64 n3, .string pb] 23)))
    obtain ⟨D, hD⟩ : ∃ D, D = w1.heap.size := ⟨_, rfl⟩
    rw [← hD] at Y2
    clear hb
    go_upto_region 4 with fail
    rw [← hD]
    generalize w1.alloc (.cells #[.int .i64 n1, .int .i64 n2, .int .i64 n3, .string pb] 23) = w2 at *
    clear hD
    go_wp2_with fail
    refine (HB.out _).mono ?_
    rintro e w3 ⟨rfl, hb⟩
    have Z4 := Lib.hid (heap_alloc_new w3 (.cells #[.int .i64 n1, .int .i64 n2, .int .i64 n3, .string pb] 23))
    have Y4 := Lib.hid (heap_stays (heap_stays Y2.out hb) (balloc w3 (.cells #[.int .i64 n1, .int .i64 n2, .int .i64 n3, .string pb] 23)))
    have B4 := Lib.hid (bthen (bthen B2.out hb) (balloc w3 (.cells #[.int .i64 n1, .int .i64 n2, .int .i64 n3, .string pb] 23)))
    obtain ⟨F, hF⟩ : ∃ F, F = w3.heap.size := ⟨_, rfl⟩
    rw [← hF] at Z4
    clear hb
    go_upto_region 5 with fail
    rw [← hF]
    generalize w3.alloc (.cells #[.int .i64 n1, .int .i64 n2, .int .i64 n3, .string pb] 23) = w4 at *
    clear hF
    go_wp2_with fail
    refine (HW.out _).mono ?_
    rintro e w5 ⟨rfl, hb⟩
    have Y5 := Lib.hid (heap_stays Y4.out hb)
    have Z5 := Lib.hid (heap_stays Z4.out hb)
    have B5 := Lib.hid (bthen B4.out hb)
    clear hb
    obtain ⟨y0, y1, y2, y3⟩ := four_cells Y5.out
    obtain ⟨z0, z1, z2, z3⟩ := four_cells Z5.out
    go_wp2_with fail
    go_ret
    exact ⟨rfl, B5.out⟩
  · have dz : decide ((600 : Int) < (s.size : Int)) = false := by simp; omega
    have dz2 : decide (600 < s.size) = false := by simp; omega
    have HA := Lib.hid (fun w => pget_any s (by omega) w)
    have HB := Lib.hid (fun w => rget_any s (by omega) w)
    unfold getRet at HA HB
    obtain ⟨g, hg⟩ : ∃ g, g = getP s := ⟨_, rfl⟩
    rw [← hg] at HA HB
    clear hg
    obtain ⟨n1, n2, n3, pb⟩ := g
    unfold pgV at HA HB
    dsimp only at HA HB
    generalize getE s = ge at *
    go_enter Try.func4, Try.ntmps4
    go_wp2_with fail
    refine (HA.out _).mono ?_
    rintro e w1 ⟨rfl, hb⟩
    have Y2 := Lib.hid (heap_alloc_new w1 (.cells #[.int .i64 n1, .int .i64 n2, .int .i64 n3, .string pb] 23))
    have B2 := Lib.hid (bthen hb (balloc w1 (.cells #[.int .i64 n1, .int .i64 n2, .int .i64 n3, .string pb] 23)))
    obtain ⟨D, hD⟩ : ∃ D, D = w1.heap.size := ⟨_, rfl⟩
    rw [← hD] at Y2
    clear hb
    go_upto_region 4 with fail
    rw [← hD]
    generalize w1.alloc (.cells #[.int .i64 n1, .int .i64 n2, .int .i64 n3, .string pb] 23) = w2 at *
    clear hD
    go_wp2_with fail
    refine (HB.out _).mono ?_
    rintro e w3 ⟨rfl, hb⟩
    have Z4 := Lib.hid (heap_alloc_new w3 (.cells #[.int .i64 n1, .int .i64 n2, .int .i64 n3, .string pb] 23))
    have Y4 := Lib.hid (heap_stays (heap_stays Y2.out hb) (balloc w3 (.cells #[.int .i64 n1, .int .i64 n2, .int .i64 n3, .string pb] 23)))
    have B4 := Lib.hid (bthen (bthen B2.out hb) (balloc w3 (.cells #[.int .i64 n1, .int .i64 n2, .int .i64 n3, .string pb] 23)))
    obtain ⟨F, hF⟩ : ∃ F, F = w3.heap.size := ⟨_, rfl⟩
    rw [← hF] at Z4
    clear hb
    go_upto_region 5 with fail
    rw [← hF]
    generalize w3.alloc (.cells #[.int .i64 n1, .int .i64 n2, .int .i64 n3, .string pb] 23) = w4 at *
    clear hF
    go_wp2_with fail
    refine (HW.out _).mono ?_
    rintro e w5 ⟨rfl, hb⟩
    have Y5 := Lib.hid (heap_stays Y4.out hb)
    have Z5 := Lib.hid (heap_stays Z4.out hb)
    have B5 := Lib.hid (bthen B4.out hb)
    clear hb
    obtain ⟨y0, y1, y2, y3⟩ := four_cells Y5.out
    obtain ⟨z0, z1, z2, z3⟩ := four_cells Z5.out
    go_wp2_with fail
    go_ret
    exact ⟨rfl, B5.out⟩

end Go.Proofs.Ytdmlmjmdpmmcgaa
