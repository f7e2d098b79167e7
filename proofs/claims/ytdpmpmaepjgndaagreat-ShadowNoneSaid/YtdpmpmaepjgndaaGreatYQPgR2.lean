/- The contract of the document's Get. -/
import Derived.Deep.AppendSrc
import Derived.Laws.BytesArg
import Derived.Test.YtdpmpmaepjgndaaGreatYZ14
import Derived.Test.YtdpmpmaepjgndaaGreatYZ4
import Derived.Test.YtdpmpmaepjgndaaGreatYZ3
namespace Go.Proofs.YtdpmpmaepjgndaaGreat
open Go.RowKit Go.Deep
set_option linter.unusedVariables false
set_option linter.unusedSimpArgs false
set_option maxRecDepth 100000

set_option maxHeartbeats 3200000 in
theorem rget_any (s : ByteArray) (hs : s.size ≤ 140737488355328) (u : World) : Calls Tryz.prog 15 #[.string s] u fun e w' => e = getRet s ∧ Below u.heap.size u w' := by
  have hs1 : (s.size : Int) ≤ 9223372036854775807 := by omega
  have X1 := Lib.hid (heap_alloc_new u (.cells #[.int .i64 0, .int .i64 0, .int .i64 0, .string ⟨#[]⟩] 41))
  have B1 := Lib.hid (balloc u (.cells #[.int .i64 0, .int .i64 0, .int .i64 0, .string ⟨#[]⟩] 41))
  obtain ⟨C, hC⟩ : ∃ C, C = u.heap.size := ⟨_, rfl⟩
  have HC : Hid (u.heap.size ≤ C) := Lib.hid (by omega)
  rw [← hC] at X1
  by_cases h : s.size = 256
  · have HX : Hid (∀ w, Calls Tryz.prog 51 #[.string (s.extract 4 s.size)] w fun e w' => e = .returned (.string (layP (s.extract 4 s.size))) ∧ Below w.heap.size w w') := Lib.hid (fun w => refLay_any (s.extract 4 s.size) (by rw [ByteArray.size_extract]; omega) w)
    have d1 : ((s.size : Int) != 256) = false := by rw [h]; rfl
    have d4 : (4 : Int) ≤ (s.size : Int) := by omega
    by_cases hl : layP (s.extract 4 s.size) = s
    · have HP1 : Hid (∀ w, Calls Tryz.prog 52 #[.string s, .int .i64 4] w fun e w' => e = .returned (.tuple #[.int .i64 (unflip63 (rdI s 4 8)), .int .i64 12, .int .i64 0]) ∧ w = w') := fun w => by
        have := refReadI_any s 4 (by unfold maxLen; omega) (by omega) w
        rw [show rdSpec s 4 8 = (rdI s 4 8, 12, 0) from by unfold rdSpec; rw [if_neg (by omega), if_neg (by omega)]; rfl] at this
        exact this
      have HP2 : Hid (∀ w, Calls Tryz.prog 52 #[.string s, .int .i64 12] w fun e w' => e = .returned (.tuple #[.int .i64 (unflip63 (rdI s 12 8)), .int .i64 20, .int .i64 0]) ∧ w = w') := fun w => by
        have := refReadI_any s 12 (by unfold maxLen; omega) (by omega) w
        rw [show rdSpec s 12 8 = (rdI s 12 8, 20, 0) from by unfold rdSpec; rw [if_neg (by omega), if_neg (by omega)]; rfl] at this
        exact this
      have HM := Lib.hid (fun w => rright_any (tellP s) w)
      have EG : Hid (getE s = if RightP (tellP s) then 0 else 14) := Lib.hid (by unfold getE; rw [if_pos h, if_pos hl])
      have EB := Lib.hid (fun hr : RightP (tellP s) => getRet_ok (s := s) (by rw [EG.out, if_pos hr]))
      have EC := Lib.hid (fun hr : ¬ RightP (tellP s) => getRet_bad (s := s) (e := 14) (by rw [EG.out, if_neg hr]) (by decide))
      have HT : Hid (tellP s = ⟨unflip63 (rdI s 4 8), unflip63 (rdI s 12 8), byD s 20 * 16777216 + byD s 21 * 65536 + byD s 22 * 256 + byD s 23, s.extract 24 s.size⟩) := Lib.hid rfl
      have g0 := byD_bd s 20
      have g1 := byD_bd s 21
      have g2 := byD_bd s 22
      have g3 := byD_bd s 23
      have L0 : 20 < s.size := by omega
      have k0 := byteI_at s 20 L0
      have L1 : 21 < s.size := by omega
      have k1 := byteI_at s 21 L1
      have L2 : 22 < s.size := by omega
      have k2 := byteI_at s 22 L2
      have L3 : 23 < s.size := by omega
      have k3 := byteI_at s 23 L3
      rw [byteI_byD] at k0 k1 k2 k3
      have J0 : (20 : Int) < (s.size : Int) := by omega
      have J1 : (21 : Int) < (s.size : Int) := by omega
      have J2 : (22 : Int) < (s.size : Int) := by omega
      have J3 : (23 : Int) < (s.size : Int) := by omega
      have J4 : (24 : Int) ≤ (s.size : Int) := by omega
      have c1 : (layP (s.extract 4 s.size)).toList = s.toList := by rw [hl]
      have HL := Lib.hid hl
      clear EG
      obtain ⟨ls, hls⟩ : ∃ ls, ls = layP (s.extract 4 s.size) := ⟨_, rfl⟩
      rw [← hls] at HX c1
      have c2 : (ls.toList != s.toList) = false := by rw [c1]; simp
      have c3 : (ls.toList == s.toList) = true := by rw [c1]; simp
      rw [HT.out] at HM EB EC
      have HRB := Lib.hid (fun h2 => rightB_true (p := ⟨unflip63 (rdI s 4 8), unflip63 (rdI s 12 8), byD s 20 * 16777216 + byD s 21 * 65536 + byD s 22 * 256 + byD s 23, s.extract 24 s.size⟩) h2)
      have HRF := Lib.hid (fun h2 => rightB_false (p := ⟨unflip63 (rdI s 4 8), unflip63 (rdI s 12 8), byD s 20 * 16777216 + byD s 21 * 65536 + byD s 22 * 256 + byD s 23, s.extract 24 s.size⟩) h2)
      clear hls hl h HT
      generalize unflip63 (rdI s 4 8) = n1 at *
      generalize unflip63 (rdI s 12 8) = n2 at *
      generalize byD s 20 = m0 at *
      generalize byD s 21 = m1 at *
      generalize byD s 22 = m2 at *
      generalize byD s 23 = m3 at *
      unfold pgV at HM EB
      dsimp only at HM EB
      generalize rightB ⟨n1, n2, m0 * 16777216 + m1 * 65536 + m2 * 256 + m3, s.extract 24 s.size⟩ = rb at *
      go_enter Tryz.func15, Tryz.ntmps15
      go_upto_region 1 with fail
      rw [← hC]
      generalize u.alloc (.cells #[.int .i64 0, .int .i64 0, .int .i64 0, .string ⟨#[]⟩] 41) = w1 at *
      clear hC
      go_wp2_with fail
      refine (HX.out _).mono ?_
      rintro e w2 ⟨rfl, hb⟩
      have X2 := Lib.hid (heap_stays X1.out hb)
      have B2 := Lib.hid (bthen B1.out hb)
      clear hb
      go_wp2_with fail
      refine (HP1.out _).mono ?_
      rintro e w3 ⟨rfl, rfl⟩
      go_wp2_with fail
      refine (HP2.out _).mono ?_
      rintro e w3 ⟨rfl, rfl⟩
      go_upto_region 7 with fail
      go_region
      go_upto_region 8 with fail
      obtain ⟨w3, hw3⟩ : ∃ w3, w3 = w2.drew := ⟨_, rfl⟩
      have X3 : Hid (w3.heap[C]? = some (.cells #[.int .i64 0, .int .i64 0, .int .i64 0, .string ⟨#[]⟩] 41 (0, 0))) := Lib.hid (by rw [hw3]; exact heap_stays X2.out (bdrew w2))
      have B3 : Hid (Below u.heap.size u w3) := Lib.hid (by rw [hw3]; exact bthen B2.out (bdrew w2))
      rw [← hw3]
      clear hw3 X2 B2 X1 B1
      obtain ⟨n3, hn3⟩ : ∃ n3, n3 = m0 * 16777216 + m1 * 65536 + m2 * 256 + m3 := ⟨_, rfl⟩
      obtain ⟨pb, hpb⟩ : ∃ pb, pb = s.extract 24 s.size := ⟨_, rfl⟩
      rw [← hn3, ← hpb] at EB EC HRB HRF HM
      rw [← hn3]
      clear k0 k1 k2 k3 g0 g1 g2 g3 hn3
      have Y4 := Lib.hid (heap_alloc_new w3 (.cells #[.int .i64 n1, .int .i64 n2, .int .i64 n3, .string pb] 41))
      have X4 := Lib.hid (heap_stays X3.out (balloc w3 (.cells #[.int .i64 n1, .int .i64 n2, .int .i64 n3, .string pb] 41)))
      have B4 := Lib.hid (bthen B3.out (balloc w3 (.cells #[.int .i64 n1, .int .i64 n2, .int .i64 n3, .string pb] 41)))
      obtain ⟨D, hD⟩ : ∃ D, D = w3.heap.size := ⟨_, rfl⟩
      rw [← hD] at Y4
      have HPB := Lib.hid hpb
      clear hpb
      go_upto_region 9 with fail
      rw [← hD, ← HPB.out]
      generalize w3.alloc (.cells #[.int .i64 n1, .int .i64 n2, .int .i64 n3, .string pb] 41) = w4 at *
      clear hD
      obtain ⟨y0, y1, y2, y3⟩ := four_cells Y4.out
      go_wp2_with fail
      refine (HM.out _).mono ?_
      rintro e w5 ⟨rfl, hb⟩
      have X5 := Lib.hid (heap_stays X4.out hb)
      have Y5 := Lib.hid (heap_stays Y4.out hb)
      have B5 := Lib.hid (bthen B4.out hb)
      clear hb y0 y1 y2 y3
      obtain ⟨y0, y1, y2, y3⟩ := four_cells Y5.out
      obtain ⟨x0, x1, x2, x3⟩ := four_cells X5.out
      have xf : ∀ q, w5.frozen? ⟨C, q, none⟩ = false := fun q => Lib.frozen_of_heap X5.out q
      cases rb with
      | true =>
        have E1 := Lib.hid (EB.out (HRB.out rfl))
        clear EB EC HRB HRF
        go_wp2_with fail
        change bodyPost _ _ _ _ _ (World.setCells w5 C 0 [.int .i64 n1, .int .i64 n2, .int .i64 n3, .string pb])
        obtain ⟨t0, t1, t2, t3⟩ := four_cells (put_four X5.out (.int .i64 n1) (.int .i64 n2) (.int .i64 n3) (.string pb))
        have LZ := Lib.hid (B5.out.trans (put_below HC.out [.int .i64 n1, .int .i64 n2, .int .i64 n3, .string pb] 0 w5))
        generalize World.setCells w5 C 0 [.int .i64 n1, .int .i64 n2, .int .i64 n3, .string pb] = w9 at *
        exact bodyPost_ret (v := .tuple #[.agg #[.int .i64 n1, .int .i64 n2, .int .i64 n3, .string pb], .int .i64 0]) (by simp [results, Tryz.results15, go_sem, t0, t1, t2, t3]) rfl ⟨by rw [E1.out], LZ.out⟩
      | false =>
        have E1 := Lib.hid (EC.out (HRF.out rfl))
        clear EB EC HRB HRF
        go_wp2_with fail
        change bodyPost _ _ _ _ _ (World.setCells w5 C 0 [.int .i64 0, .int .i64 0, .int .i64 0, .string ⟨#[]⟩])
        obtain ⟨t0, t1, t2, t3⟩ := four_cells (put_four X5.out (.int .i64 0) (.int .i64 0) (.int .i64 0) (.string ⟨#[]⟩))
        have LZ := Lib.hid (B5.out.trans (put_below HC.out [.int .i64 0, .int .i64 0, .int .i64 0, .string ⟨#[]⟩] 0 w5))
        generalize World.setCells w5 C 0 [.int .i64 0, .int .i64 0, .int .i64 0, .string ⟨#[]⟩] = w9 at *
        exact bodyPost_ret (v := .tuple #[.agg #[.int .i64 0, .int .i64 0, .int .i64 0, .string ⟨#[]⟩], .int .i64 14]) (by simp [results, Tryz.results15, go_sem, t0, t1, t2, t3]) rfl ⟨by rw [E1.out], LZ.out⟩
    · have E1 := Lib.hid (getRet_bad (s := s) (e := 14) (by unfold getE; rw [if_pos h, if_neg hl]) (by decide))
      obtain ⟨ls, hls⟩ : ∃ ls, ls = layP (s.extract 4 s.size) := ⟨_, rfl⟩
      rw [← hls] at HX hl
      have c1 : ¬ ls.toList = s.toList := fun h2 => hl (by
        rw [ByteArray.toList_eq, ByteArray.toList_eq] at h2
        exact ByteArray.ext (Array.ext' h2))
      have c2 : (ls.toList != s.toList) = true := by simp [c1]
      have c3 : (ls.toList == s.toList) = false := by simp [c1]
      clear hl h hls
      go_enter Tryz.func15, Tryz.ntmps15
      go_upto_region 1 with fail
      rw [← hC]
      generalize u.alloc (.cells #[.int .i64 0, .int .i64 0, .int .i64 0, .string ⟨#[]⟩] 41) = w1 at *
      clear hC
      go_wp2_with fail
      refine (HX.out _).mono ?_
      rintro e w2 ⟨rfl, hb⟩
      have X5 := Lib.hid (heap_stays X1.out hb)
      have B5 := Lib.hid (bthen B1.out hb)
      clear hb
      obtain ⟨x0, x1, x2, x3⟩ := four_cells X5.out
      have xf : ∀ q, w2.frozen? ⟨C, q, none⟩ = false := fun q => Lib.frozen_of_heap X5.out q
      go_wp2_with fail
      change bodyPost _ _ _ _ _ (World.setCells w2 C 0 [.int .i64 0, .int .i64 0, .int .i64 0, .string ⟨#[]⟩])
      obtain ⟨t0, t1, t2, t3⟩ := four_cells (put_four X5.out (.int .i64 0) (.int .i64 0) (.int .i64 0) (.string ⟨#[]⟩))
      have LZ := Lib.hid (B5.out.trans (put_below HC.out [.int .i64 0, .int .i64 0, .int .i64 0, .string ⟨#[]⟩] 0 w2))
      generalize World.setCells w2 C 0 [.int .i64 0, .int .i64 0, .int .i64 0, .string ⟨#[]⟩] = w9 at *
      exact bodyPost_ret (v := .tuple #[.agg #[.int .i64 0, .int .i64 0, .int .i64 0, .string ⟨#[]⟩], .int .i64 14]) (by simp [results, Tryz.results15, go_sem, t0, t1, t2, t3]) rfl ⟨by rw [E1.out], LZ.out⟩
  · have E1 := Lib.hid (getRet_bad (s := s) (e := 6) (by unfold getE; rw [if_neg h]) (by decide))
    have d1 : ((s.size : Int) != 256) = true := by simp; omega
    clear h
    go_enter Tryz.func15, Tryz.ntmps15
    go_upto_region 1 with fail
    rw [← hC]
    generalize u.alloc (.cells #[.int .i64 0, .int .i64 0, .int .i64 0, .string ⟨#[]⟩] 41) = w1 at *
    clear hC
    obtain ⟨x0, x1, x2, x3⟩ := four_cells X1.out
    have xf : ∀ q, w1.frozen? ⟨C, q, none⟩ = false := fun q => Lib.frozen_of_heap X1.out q
    go_wp2_with fail
    change bodyPost _ _ _ _ _ (World.setCells w1 C 0 [.int .i64 0, .int .i64 0, .int .i64 0, .string ⟨#[]⟩])
    obtain ⟨t0, t1, t2, t3⟩ := four_cells (put_four X1.out (.int .i64 0) (.int .i64 0) (.int .i64 0) (.string ⟨#[]⟩))
    have LZ := Lib.hid (B1.out.trans (put_below HC.out [.int .i64 0, .int .i64 0, .int .i64 0, .string ⟨#[]⟩] 0 w1))
    generalize World.setCells w1 C 0 [.int .i64 0, .int .i64 0, .int .i64 0, .string ⟨#[]⟩] = w9 at *
    exact bodyPost_ret (v := .tuple #[.agg #[.int .i64 0, .int .i64 0, .int .i64 0, .string ⟨#[]⟩], .int .i64 6]) (by simp [results, Tryz.results15, go_sem, t0, t1, t2, t3]) rfl ⟨by rw [E1.out], LZ.out⟩

end Go.Proofs.YtdpmpmaepjgndaaGreat
