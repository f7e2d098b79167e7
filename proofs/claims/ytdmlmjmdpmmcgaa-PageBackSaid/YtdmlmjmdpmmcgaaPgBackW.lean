/- The walk of the law PageBack. -/
import Derived.Test.YtdmlmjmdpmmcgaaPgLaw0
import Derived.Test.YtdmlmjmdpmmcgaaTakeQ
namespace Go.Proofs.Ytdmlmjmdpmmcgaa
open Go.RowKit Go.Deep
set_option linter.unusedVariables false
set_option linter.unusedSimpArgs false
set_option maxRecDepth 100000

theorem getP_bad {s : ByteArray} (h : getE s ≠ 0) : getP s = noPg := if_neg h
set_option maxHeartbeats 6400000 in
theorem pageBack_walk (id ep kd : Int) (pay : ByteArray) (s : ByteArray) (W : World) (h0 : (Lit.int .i64 id).wf = true) (h1 : (Lit.int .i64 ep).wf = true) (h2 : (Lit.int .i64 kd).wf = true) (h3 : pay.size ≤ maxLen) (h4 : s.size ≤ maxLen) :
    Calls Try.prog 5 #[.agg #[.int .i64 id, .int .i64 ep, .int .i64 kd, .string pay], .string s] W fun e w' => e = .returned (.bool true) ∧ Below W.heap.size W w' := by
  have HW := Lib.hid (fun w => awake11_any w)
  have hid := (i64_bd h0).2
  have hp1 : pay.size ≤ 9223372036854775807 := by unfold maxLen at h3; omega
  have hp2 : s.size ≤ 9223372036854775807 := by unfold maxLen at h4; omega
  clear h0 h1 h2 h3 h4
  have X1 := Lib.hid (heap_alloc_new W (.cells #[.int .i64 id, .int .i64 ep, .int .i64 kd, .string pay] 23))
  have B1 := Lib.hid (balloc W (.cells #[.int .i64 id, .int .i64 ep, .int .i64 kd, .string pay] 23))
  obtain ⟨C, hC⟩ : ∃ C, C = W.heap.size := ⟨_, rfl⟩
  rw [← hC] at X1
  by_cases hb1 : 600 < pay.size ∨ 600 < s.size
  · go_enter Try.func5, Try.ntmps5
    go_upto_region 1 with fail
    rw [← hC]
    generalize W.alloc (.cells #[.int .i64 id, .int .i64 ep, .int .i64 kd, .string pay] 23) = w1 at *
    clear hC
    obtain ⟨x0, x1, x2, x3⟩ := four_cells X1.out
    by_cases hz : 600 < pay.size
    · have dz : decide ((600 : Int) < (pay.size : Int)) = true := by simp; omega
      have dz2 : decide (600 < pay.size) = true := by simp; omega
      clear hb1 hz
      go_wp2_with fail
      refine (HW.out _).mono ?_
      rintro e w5 ⟨rfl, hb⟩
      have B5 := Lib.hid (bthen B1.out hb)
      clear hb
      go_wp2_with fail
      go_ret
      exact ⟨rfl, B5.out⟩
    · have dz : decide ((600 : Int) < (pay.size : Int)) = false := by simp; omega
      have dz2 : decide (600 < pay.size) = false := by simp; omega
      have ds : decide ((600 : Int) < (s.size : Int)) = true := by simp; omega
      have ds2 : decide (600 < s.size) = true := by simp; omega
      clear hb1 hz
      go_wp2_with fail
      refine (HW.out _).mono ?_
      rintro e w5 ⟨rfl, hb⟩
      have B5 := Lib.hid (bthen B1.out hb)
      clear hb
      go_wp2_with fail
      go_ret
      exact ⟨rfl, B5.out⟩
  · have dz : decide ((600 : Int) < (pay.size : Int)) = false := by simp; omega
    have dz2 : decide (600 < pay.size) = false := by simp; omega
    have ds : decide ((600 : Int) < (s.size : Int)) = false := by simp; omega
    have ds2 : decide (600 < s.size) = false := by simp; omega
    have HP := Lib.hid (fun w => pput_any ⟨id, ep, kd, pay⟩ w hp1)
    have HGT := Lib.hid (fun w (h : putE ⟨id, ep, kd, pay⟩ = 0) => pget_any (putS ⟨id, ep, kd, pay⟩) (by rw [putS_size h]; omega) w)
    have HBK := Lib.hid (fun (h : putE ⟨id, ep, kd, pay⟩ = 0) => get_put h hid)
    have HFU := Lib.hid (fun w => rfull_any pay (by omega) w)
    have HFP := Lib.hid (fun (h : putE ⟨id, ep, kd, pay⟩ = 0) => (show fullP pay = padN pay 232 from if_pos (putE_zero.1 h).2))
    have HGS := Lib.hid (fun w => pget_any s (by omega) w)
    have HOK : Hid (getE s = 0 → (putE (getP s) = 0 ∧ putS (getP s) = s) ∧ (getP s).pay.size ≤ 9223372036854775807) := Lib.hid (fun h => by
      have e : getP s = tellP s := if_pos h
      have h2 := getP_pay h
      rw [e] at h2 ⊢
      exact ⟨put_get h, by omega⟩)
    have HBAD : Hid (getE s ≠ 0 → (getP s) = noPg) := Lib.hid (fun h => getP_bad h)
    unfold putRet at HP
    unfold getRet at HGT HGS
    generalize putS ⟨id, ep, kd, pay⟩ = ps at *
    generalize putE ⟨id, ep, kd, pay⟩ = pe at *
    generalize getE s = ge at *
    obtain ⟨g, hg⟩ : ∃ g, g = getP s := ⟨_, rfl⟩
    rw [← hg] at HGS HOK HBAD
    clear hg hid
    obtain ⟨n1, n2, n3, pb⟩ := g
    have HBAD2 : Hid (ge ≠ 0 → n1 = 0 ∧ n2 = 0 ∧ n3 = 0 ∧ pb = ⟨#[]⟩) := Lib.hid (fun h => by
      have e := HBAD.out h
      unfold noPg at e
      simp only [Pg.mk.injEq] at e
      exact e)
    clear HBAD
    have HBAD := HBAD2
    clear HBAD2
    unfold pgV at HP HGS HGT
    dsimp only at HP HGS HGT HOK HBK
    clear hb1
    go_enter Try.func5, Try.ntmps5
    go_upto_region 1 with fail
    rw [← hC]
    generalize W.alloc (.cells #[.int .i64 id, .int .i64 ep, .int .i64 kd, .string pay] 23) = w1 at *
    clear hC
    obtain ⟨x0, x1, x2, x3⟩ := four_cells X1.out
    go_wp2_with fail
    refine (HP.out _).mono ?_
    rintro e w2 ⟨rfl, hb⟩
    have X2 := Lib.hid (heap_stays X1.out hb)
    have B2 := Lib.hid (bthen B1.out hb)
    clear hb x0 x1 x2 x3 dz dz2 ds ds2 hp1 hp2
    by_cases hpe : pe = 0
    · subst hpe
      obtain ⟨q1, q2⟩ := HBK.out (by trivial)
      have q3 := HFP.out (by trivial)
      have HG2 := Lib.hid (fun w => HGT.out w (by trivial))
      rw [q1, q2] at HG2
      rw [q3] at HFU
      dsimp only at HG2
      clear q1 q2 q3 HGT HBK HFP HP
      generalize padN pay 232 = pp at *
      go_wp2_with fail
      refine (HG2.out _).mono ?_
      rintro e w3 ⟨rfl, hb⟩
      have Z4 := Lib.hid (heap_alloc_new w3 (.cells #[.int .i64 id, .int .i64 ep, .int .i64 kd, .string pp] 23))
      have X4 := Lib.hid (heap_stays (heap_stays X2.out hb) (balloc w3 (.cells #[.int .i64 id, .int .i64 ep, .int .i64 kd, .string pp] 23)))
      have B4 := Lib.hid (bthen (bthen B2.out hb) (balloc w3 (.cells #[.int .i64 id, .int .i64 ep, .int .i64 kd, .string pp] 23)))
      obtain ⟨D, hD⟩ : ∃ D, D = w3.heap.size := ⟨_, rfl⟩
      rw [← hD] at Z4
      clear hb
      go_upto_region 6 with fail
      rw [← hD]
      generalize w3.alloc (.cells #[.int .i64 id, .int .i64 ep, .int .i64 kd, .string pp] 23) = w4 at *
      clear hD
      refine wp_region_held_drew (S := (fun w' => w'.cell? ⟨C, 0, none⟩ = some (.int .i64 id) ∧ w'.cell? ⟨C, 1, none⟩ = some (.int .i64 ep) ∧ w'.cell? ⟨C, 2, none⟩ = some (.int .i64 kd) ∧ w'.cell? ⟨C, 3, none⟩ = some (.string pay) ∧ w'.cell? ⟨D, 0, none⟩ = some (.int .i64 id) ∧ w'.cell? ⟨D, 1, none⟩ = some (.int .i64 ep) ∧ w'.cell? ⟨D, 2, none⟩ = some (.int .i64 kd) ∧ w'.cell? ⟨D, 3, none⟩ = some (.string pp))) (by kernel_rfl) ?_ (fun hHeld => ?_)
      · obtain ⟨a0, a1, a2, a3⟩ := four_cells (heap_stays X4.out (bdrew w4))
        obtain ⟨c0, c1, c2, c3⟩ := four_cells (heap_stays Z4.out (bdrew w4))
        exact ⟨a0, a1, a2, a3, c0, c1, c2, c3⟩
      have X5 := Lib.hid (heap_stays X4.out (bdrew w4))
      have Z5 := Lib.hid (heap_stays Z4.out (bdrew w4))
      have B5a := Lib.hid (bthen B4.out (bdrew w4))
      change wpAnyH _ _ _ _ _ _ _ _ (World.drew w4)
      generalize World.drew w4 = w5a at *
      first | refine tq0 0 rfl ?_ | refine tq1 0 rfl ?_
      try go_frame
      first | refine tq0 1 rfl ?_ | refine tq1 1 rfl ?_
      try go_frame
      first | refine tq0 2 rfl ?_ | refine tq1 2 rfl ?_
      try go_frame
      first | refine tq0 3 rfl ?_ | refine tq1 3 rfl ?_
      try go_frame
      first | refine tq0 4 rfl ?_ | refine tq1 4 rfl ?_
      try go_frame
      first | refine tq0 5 rfl ?_ | refine tq1 5 rfl ?_
      try go_frame
      first | refine tq0 6 rfl ?_ | refine tq1 6 rfl ?_
      try go_frame
      first | refine tq0 7 rfl ?_ | refine tq1 7 rfl ?_
      try go_frame
      first | refine tq0 8 rfl ?_ | refine tq1 8 rfl ?_
      try go_frame
      first | refine tq0 9 rfl ?_ | refine tq1 9 rfl ?_
      try go_frame
      first | refine tq0 10 rfl ?_ | refine tq1 10 rfl ?_
      try go_frame
      first | refine tq0 11 rfl ?_ | refine tq1 11 rfl ?_
      try go_frame
      first | refine tq0 12 rfl ?_ | refine tq1 12 rfl ?_
      try go_frame
      first | refine tq0 13 rfl ?_ | refine tq1 13 rfl ?_
      try go_frame
      first | refine tq0 14 rfl ?_ | refine tq1 14 rfl ?_
      try go_frame
      first | refine tq0 15 rfl ?_ | refine tq1 15 rfl ?_
      try go_frame
      first | refine tq0 16 rfl ?_ | refine tq1 16 rfl ?_
      try go_frame
      first | refine tq0 17 rfl ?_ | refine tq1 17 rfl ?_
      try go_frame
      first | refine tq0 18 rfl ?_ | refine tq1 18 rfl ?_
      try go_frame
      first | refine tq0 19 rfl ?_ | refine tq1 19 rfl ?_
      try go_frame
      first | refine tq0 20 rfl ?_ | refine tq1 20 rfl ?_
      try go_frame
      first | refine tq0 21 rfl ?_ | refine tq1 21 rfl ?_
      try go_frame
      first | refine tq0 22 rfl ?_ | refine tq1 22 rfl ?_
      try go_frame
      first | refine tq0 23 rfl ?_ | refine tq1 23 rfl ?_
      try go_frame
      first | refine tq0 24 rfl ?_ | refine tq1 24 rfl ?_
      try go_frame
      first | refine tq0 25 rfl ?_ | refine tq1 25 rfl ?_
      try go_frame
      first | refine tq0 26 rfl ?_ | refine tq1 26 rfl ?_
      try go_frame
      first | refine tq0 27 rfl ?_ | refine tq1 27 rfl ?_
      try go_frame
      refine wpAnyH_ready (rs := [28]) (by kernel_rfl) (by simp) ?_
      refine AllReadyH.cons (o := ⟨_, _, _, _, _, _⟩) rfl (fun K hK => ?_) AllReadyH.nil
      go_simp
      refine (HFU.out _).mono ?_
      rintro e w5 ⟨rfl, hb⟩
      have X6 := Lib.hid (heap_stays X5.out hb)
      have Z6 := Lib.hid (heap_stays Z5.out hb)
      have B5 := Lib.hid (bthen B5a.out hb)
      refine hK.out _ _ ?_ (fun hHeld => ?_)
      · obtain ⟨a0, a1, a2, a3⟩ := four_cells X6.out
        obtain ⟨c0, c1, c2, c3⟩ := four_cells Z6.out
        exact ⟨a0, a1, a2, a3, c0, c1, c2, c3⟩
      clear hK K hb
      try simp only [Act.put, List.setIfInBounds_toArray, List.set_cons_zero, List.set_cons_succ]
      first | refine tq0 29 rfl ?_ | refine tq1 29 rfl ?_
      try go_frame
      first | refine tq0 30 rfl ?_ | refine tq1 30 rfl ?_
      try go_frame
      refine wpAnyH_done (by kernel_rfl) ?_ _
      clear hHeld X4 Z4 B4 X5 Z5 B5a
      go_wp2_with fail
      refine (HGS.out _).mono ?_
      rintro e w6 ⟨rfl, hb⟩
      have Y7 := Lib.hid (heap_alloc_new w6 (.cells #[.int .i64 n1, .int .i64 n2, .int .i64 n3, .string pb] 23))
      have B7 := Lib.hid (bthen (bthen B5.out hb) (balloc w6 (.cells #[.int .i64 n1, .int .i64 n2, .int .i64 n3, .string pb] 23)))
      obtain ⟨F, hF⟩ : ∃ F, F = w6.heap.size := ⟨_, rfl⟩
      rw [← hF] at Y7
      clear hb
      go_upto_region 9 with fail
      rw [← hF]
      generalize w6.alloc (.cells #[.int .i64 n1, .int .i64 n2, .int .i64 n3, .string pb] 23) = w7 at *
      clear hF
      obtain ⟨y0, y1, y2, y3⟩ := four_cells Y7.out
      by_cases hz : ge = 0
      · subst hz
        obtain ⟨g1, g2⟩ := HOK.out (by trivial)
        have HQ := Lib.hid (fun w => pput_any ⟨n1, n2, n3, pb⟩ w g2)
        unfold putRet pgV at HQ
        dsimp only at HQ
        rw [g1.1, g1.2] at HQ
        clear g1 g2 HOK HBAD
        go_wp2_with fail
        refine (HQ.out _).mono ?_
        rintro e w8 ⟨rfl, hb⟩
        have B8 := Lib.hid (bthen B7.out hb)
        clear hb
        go_wp2_with fail
        refine (HW.out _).mono ?_
        rintro e w9 ⟨rfl, hb⟩
        have B9 := Lib.hid (bthen B8.out hb)
        clear hb
        go_wp2_with fail
        go_ret
        exact ⟨rfl, B9.out⟩
      · have hz2 : (ge != 0) = true := by simp [hz]
        obtain ⟨rfl, rfl, rfl, rfl⟩ := HBAD.out hz
        clear HOK HBAD hz
        go_wp2_with fail
        refine (HW.out _).mono ?_
        rintro e w9 ⟨rfl, hb⟩
        have Y9 := Lib.hid (heap_stays Y7.out hb)
        have B9 := Lib.hid (bthen B7.out hb)
        clear hb y0 y1 y2 y3
        obtain ⟨y0, y1, y2, y3⟩ := four_cells Y9.out
        go_wp2_with fail
        go_ret
        exact ⟨rfl, B9.out⟩
    · have hz9 : (pe == 0) = false := by simp [hpe]
      have B5 := B2
      clear HBK HGT HFP
      go_wp2_with fail
      refine (HGS.out _).mono ?_
      rintro e w6 ⟨rfl, hb⟩
      have Y7 := Lib.hid (heap_alloc_new w6 (.cells #[.int .i64 n1, .int .i64 n2, .int .i64 n3, .string pb] 23))
      have B7 := Lib.hid (bthen (bthen B5.out hb) (balloc w6 (.cells #[.int .i64 n1, .int .i64 n2, .int .i64 n3, .string pb] 23)))
      obtain ⟨F, hF⟩ : ∃ F, F = w6.heap.size := ⟨_, rfl⟩
      rw [← hF] at Y7
      clear hb
      go_upto_region 9 with fail
      rw [← hF]
      generalize w6.alloc (.cells #[.int .i64 n1, .int .i64 n2, .int .i64 n3, .string pb] 23) = w7 at *
      clear hF
      obtain ⟨y0, y1, y2, y3⟩ := four_cells Y7.out
      by_cases hz : ge = 0
      · subst hz
        obtain ⟨g1, g2⟩ := HOK.out (by trivial)
        have HQ := Lib.hid (fun w => pput_any ⟨n1, n2, n3, pb⟩ w g2)
        unfold putRet pgV at HQ
        dsimp only at HQ
        rw [g1.1, g1.2] at HQ
        clear g1 g2 HOK HBAD
        go_wp2_with fail
        refine (HQ.out _).mono ?_
        rintro e w8 ⟨rfl, hb⟩
        have B8 := Lib.hid (bthen B7.out hb)
        clear hb
        go_wp2_with fail
        refine (HW.out _).mono ?_
        rintro e w9 ⟨rfl, hb⟩
        have B9 := Lib.hid (bthen B8.out hb)
        clear hb
        go_wp2_with fail
        go_ret
        exact ⟨rfl, B9.out⟩
      · have hz2 : (ge != 0) = true := by simp [hz]
        obtain ⟨rfl, rfl, rfl, rfl⟩ := HBAD.out hz
        clear HOK HBAD hz
        go_wp2_with fail
        refine (HW.out _).mono ?_
        rintro e w9 ⟨rfl, hb⟩
        have Y9 := Lib.hid (heap_stays Y7.out hb)
        have B9 := Lib.hid (bthen B7.out hb)
        clear hb y0 y1 y2 y3
        obtain ⟨y0, y1, y2, y3⟩ := four_cells Y9.out
        go_wp2_with fail
        go_ret
        exact ⟨rfl, B9.out⟩

end Go.Proofs.Ytdmlmjmdpmmcgaa
