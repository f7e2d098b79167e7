/- The walk of the law PageDisks. Slices that came in, as rows: what the frames share. -/
import Derived.Test.YtdmlmjmdpmmcgaaYZ14
import Derived.Test.YtdmlmjmdpmmcgaaYZ0
import Derived.Test.YtdmlmjmdpmmcgaaYZ1
namespace Go.Proofs.Ytdmlmjmdpmmcgaa
open Go.RowKit Go.Deep Go.Maps
set_option linter.unusedVariables false
set_option linter.unusedSimpArgs false
set_option maxRecDepth 100000
theorem ten_cells {W : World} {B : Nat} {c0 c1 c2 c3 c4 c5 c6 c7 c8 c9 : Value} {T : TypeId} (h : W.heap[B]? = some (.cells #[c0, c1, c2, c3, c4, c5, c6, c7, c8, c9] T (0, 0))) :
    W.cell? ⟨B, 0, none⟩ = some c0 ∧ W.cell? ⟨B, 1, none⟩ = some c1 ∧ W.cell? ⟨B, 2, none⟩ = some c2 ∧ W.cell? ⟨B, 3, none⟩ = some c3 ∧ W.cell? ⟨B, 4, none⟩ = some c4 ∧ W.cell? ⟨B, 5, none⟩ = some c5 ∧ W.cell? ⟨B, 6, none⟩ = some c6 ∧ W.cell? ⟨B, 7, none⟩ = some c7 ∧ W.cell? ⟨B, 8, none⟩ = some c8 ∧ W.cell? ⟨B, 9, none⟩ = some c9 := by
  refine ⟨?_, ?_, ?_, ?_, ?_, ?_, ?_, ?_, ?_, ?_⟩ <;> (rw [Lib.cell_of_heap h]; rfl)
theorem sync_bd (d : Dk) : (syncD d).calls ≤ d.calls + 1 ∧ (syncD d).arm ≤ d.arm := by
  have hc := count_calls d
  unfold syncD
  split
  · omega
  · split
    · omega
    · show (countD d).calls ≤ _ ∧ (countD d).arm ≤ _
      omega
theorem arm_bd (d : Dk) (i : Int) (h : i ≤ 9223372036854775807) (ha : d.arm ≤ 9223372036854775807) : (armD d i).calls ≤ d.calls ∧ (armD d i).arm ≤ 9223372036854775807 := by
  unfold armD
  split
  · exact ⟨Nat.le_refl _, ha⟩
  · split
    · exact ⟨Nat.le_refl _, ha⟩
    · show d.calls ≤ _ ∧ i.toNat ≤ _
      omega
set_option maxHeartbeats 25600000 in
theorem pageDisks_walk (x : Int) (n : Nat) (A : Nat → Pac) (g : Nat → Value) (ao : Option Addr) (cap : Nat) (W : World) (hx : (Lit.int .u8 x).wf = true) (ha : PacsAt W.heap.size n A g ao cap W) :
    Calls Try.prog 6 #[.int .u8 x, .slice ao n cap] W fun e w' => e = .returned (.bool true) ∧ Below W.heap.size W w' := by
  have hx2 : 0 ≤ x ∧ x ≤ 255 := by
    simp [Lit.wf, IntKind.min, IntKind.max, IntKind.signed, IntKind.bits] at hx
    omega
  have HW := Lib.hid (fun w => awake11_any w)
  have HA := Lib.hid ha
  have hcap := ha.c
  obtain ⟨m, hm⟩ : ∃ m : Nat, (m : Int) = x % 40 + 1 := ⟨(x % 40 + 1).toNat, by omega⟩
  have hm1 : 1 ≤ m ∧ m ≤ 40 := by omega
  have H := Lib.hid (pnew_any m (by omega) (by omega) W)
  have H2 : Hid (∀ w, Calls Try.prog 16 #[.int .i64 (m : Int)] w fun r u' => ∃ Q b1 b2 b3 c1 c2 c3, r = .returned (.pointer (some ⟨Q, 0, none⟩)) ∧ RDk w.heap.size Q b1 b2 b3 c1 c2 c3 (newD m) u' ∧ Below w.heap.size w u') := Lib.hid fun w => rmade_any m (by omega) (by omega) w
  have HM2 := Lib.hid (fun w => rmany_any m (by omega) w)
  have HMM := Lib.hid hm1
  clear ha hx
  go_enter Try.func6, Try.ntmps6
  go_upto_region 2 with fail
  rw [← hm]
  clear hm hm1 hx2
  go_wp2_with fail
  refine (H.out).mono ?_
  rintro e w1 ⟨P, bS, bm, cS, rfl, p1, k1⟩
  have P1 := Lib.hid p1
  have K1 := Lib.hid k1
  clear p1 k1 H
  go_wp2_with fail
  refine (H2.out _).mono ?_
  rintro e w2 ⟨Q, b1, b2, b3, c1, c2, c3, rfl, r2, k2⟩
  have HB2 : Hid (Both W.heap.size P bS bm cS Q b1 b2 b3 c1 c2 c3 (newD m) w2) := Lib.hid ⟨P1.out.below k2, r2.mono K1.out.size, OkD.new (by have := HMM.out; omega), Nat.le_trans K1.out.size k2.size⟩
  have K2 := Lib.hid (K1.out.trans (k2.mono K1.out.size))
  have HM1 := Lib.hid (pmany_any HB2.out.p (by have := HMM.out; show m ≤ _; omega))
  clear r2 k2 H2 P1 K1
  change Hid (Calls _ _ _ _ fun r u' => r = .returned (.int .i64 (manyP (m : Int))) ∧ _) at HM1
  generalize manyP (m : Int) = mp at *
  go_wp2_with fail
  refine (HM1.out).mono ?_
  rintro e w3 ⟨rfl, rfl⟩
  go_wp2_with fail
  refine (HM2.out _).mono ?_
  rintro e w3 ⟨rfl, hw⟩
  subst w3
  go_wp2_with fail
  refine (HW.out _).mono ?_
  rintro e w3 ⟨rfl, hb⟩
  have HB3 := Lib.hid (HB2.out.below hb)
  have K3 := Lib.hid (K2.out.trans (hb.mono K2.out.size))
  clear hb HB2 K2 HM1 HM2
  go_wp2_with fail
  go_loopw [9] (fun i wr => ∃ j : Nat, j ≤ 40 ∧ i = .int .i64 j ∧ (∃ bm d, Both W.heap.size P bS bm cS Q b1 b2 b3 c1 c2 c3 d wr ∧ d.n = m ∧ d.calls ≤ 4 * j ∧ d.arm ≤ 9223372036854775807) ∧ Below W.heap.size W wr) (fun i _ => 40 - (intOf i).toNat)
  case atStart => exact ⟨0, by omega, rfl, ⟨bm, newD m, HB3.out, rfl, Nat.le_refl _, by show 0 ≤ _; omega⟩, K3.out⟩
  case round =>
    clear HB3 K3
    obtain ⟨j, hj, rfl, ⟨bm9, d, hb, hn, hc, har⟩, hk⟩ := hrel
    have HB := Lib.hid hb
    have KJ := Lib.hid hk
    have HN := Lib.hid hn
    have HCC := Lib.hid hc
    have HAR := Lib.hid har
    have hn9 : d.n ≤ 4096 := by rw [hn]; have := HMM.out; omega
    clear hb hk hn hc har
    have hj0 : (0 : Int) ≤ (j : Int) := by omega
    by_cases hl : j < n ∧ j < 40
    · obtain ⟨hl, h40⟩ := hl
      have e1 : decide ((j : Int) < (n : Int)) = true := by simp [hl]
      have hl2 : (j : Int) < (n : Int) := by omega
      have e2 : decide ((j : Int) < 40) = true := by simp; omega
      have h402 : (j : Int) < 40 := by omega
      have AJ := HA.out.below KJ.out
      obtain ⟨B, o, rfl, hB, hcell⟩ := AJ.x (by omega)
      have AA := Lib.hid (AJ.a j hl)
      have x0 : wr.cell? ⟨B, o + j * 10, none⟩ = _ := hcell j hl 0 (by omega)
      have x1 : wr.cell? ⟨B, o + j * 10 + 1, none⟩ = _ := hcell j hl 1 (by omega)
      have x2 : wr.cell? ⟨B, o + j * 10 + 2, none⟩ = _ := hcell j hl 2 (by omega)
      have x3 : wr.cell? ⟨B, o + j * 10 + 3, none⟩ = _ := hcell j hl 3 (by omega)
      have x4 : wr.cell? ⟨B, o + j * 10 + 4, none⟩ = _ := hcell j hl 4 (by omega)
      have x5 : wr.cell? ⟨B, o + j * 10 + 5, none⟩ = _ := hcell j hl 5 (by omega)
      have x6 : wr.cell? ⟨B, o + j * 10 + 6, none⟩ = _ := hcell j hl 6 (by omega)
      have x7 : wr.cell? ⟨B, o + j * 10 + 7, none⟩ = _ := hcell j hl 7 (by omega)
      have x8 : wr.cell? ⟨B, o + j * 10 + 8, none⟩ = _ := hcell j hl 8 (by omega)
      have x9 : wr.cell? ⟨B, o + j * 10 + 9, none⟩ = _ := hcell j hl 9 (by omega)
      have H40 := Lib.hid h40
      clear AJ hcell hB
      obtain ⟨a9, ha9⟩ : ∃ a, a = A j := ⟨_, rfl⟩
      rw [← ha9] at AA x0 x1 x2 x3 x4 x5 x6 x7 x8 x9
      clear ha9
      obtain ⟨v, hv⟩ : ∃ v, v = g j := ⟨_, rfl⟩
      rw [← hv] at AA x0 x1 x2 x3 x4 x5 x6 x7 x8 x9
      clear hv
      obtain ⟨kind, i, ⟨id, ep, kd, pay⟩, s, keep, t, b⟩ := a9
      obtain ⟨vo, vc, hve, _⟩ := AA.out.c.k
      change v = .slice vo keep.length vc at hve
      subst hve
      change wr.cell? _ = some (.int .i64 kind) at x0
      change wr.cell? _ = some (.int .i64 i) at x1
      change wr.cell? _ = some (.int .i64 id) at x2
      change wr.cell? _ = some (.int .i64 ep) at x3
      change wr.cell? _ = some (.int .i64 kd) at x4
      change wr.cell? _ = some (.string pay) at x5
      change wr.cell? _ = some (.string s) at x6
      change wr.cell? _ = some (.slice vo keep.length vc) at x7
      change wr.cell? _ = some (.int .i64 t) at x8
      change wr.cell? _ = some (.int .i64 b) at x9
      have X1 := Lib.hid (heap_alloc_new wr (.cells #[.int .i64 kind, .int .i64 i, .int .i64 id, .int .i64 ep, .int .i64 kd, .string pay, .string s, .slice vo keep.length vc, .int .i64 t, .int .i64 b] 46))
      have B1 := Lib.hid (balloc wr (.cells #[.int .i64 kind, .int .i64 i, .int .i64 id, .int .i64 ep, .int .i64 kd, .string pay, .string s, .slice vo keep.length vc, .int .i64 t, .int .i64 b] 46))
      have H1 := Lib.hid (HB.out.below B1.out)
      have K1 := Lib.hid (KJ.out.trans (B1.out.mono HB.out.sz))
      have A1 := Lib.hid (AA.out.below (B1.out.mono HB.out.sz))
      have NP : Hid (P3 P bS bm9 wr.heap.size = false) := Lib.hid (P3.no (by have := HB.out.p.lt; omega) (by have := HB.out.p.lt; omega) (by have := HB.out.p.lt; omega))
      have NR : Hid (R4 Q b1 b2 b3 wr.heap.size = false) := Lib.hid (R4.no (by have := HB.out.r.lt; omega) (by have := HB.out.r.lt; omega) (by have := HB.out.r.lt; omega) (by have := HB.out.r.lt; omega))
      obtain ⟨C, hC⟩ : ∃ C, C = wr.heap.size := ⟨_, rfl⟩
      rw [← hC] at X1 NP NR
      have hps : pay.size ≤ 9223372036854775807 := AA.out.pay
      have hss : s.size ≤ 9223372036854775807 := AA.out.s
      go_upto_region 14 with fail
      rw [← hC]
      generalize wr.alloc (.cells #[.int .i64 kind, .int .i64 i, .int .i64 id, .int .i64 ep, .int .i64 kd, .string pay, .string s, .slice vo keep.length vc, .int .i64 t, .int .i64 b] 46) = w1 at *
      clear hC AA HB KJ B1 x0 x1 x2 x3 x4 x5 x6 x7 x8 x9
      obtain ⟨x0, x1, x2, x3, x4, x5, x6, x7, x8, x9⟩ := ten_cells X1.out
      by_cases zp : 600 < pay.size ∨ 600 < s.size
      · by_cases zq : 600 < pay.size
        · have dz : decide ((600 : Int) < (pay.size : Int)) = true := by simp; omega
          have dz2 : decide (600 < pay.size) = true := by simp; omega
          clear zp zq
          go_wp2_with fail
          go_roundw
          case rel => exact ⟨j + 1, by have := H40.out; omega, by go_num, ⟨bm9, d, H1.out, HN.out, by have := HCC.out; omega, HAR.out⟩, K1.out⟩
          case measure => have := H40.out; simp [intOf]; omega
        · have dz : decide ((600 : Int) < (pay.size : Int)) = false := by simp; omega
          have dz2 : decide (600 < pay.size) = false := by simp; omega
          have ds : decide ((600 : Int) < (s.size : Int)) = true := by simp; omega
          have ds2 : decide (600 < s.size) = true := by simp; omega
          clear zp zq
          go_wp2_with fail
          go_roundw
          case rel => exact ⟨j + 1, by have := H40.out; omega, by go_num, ⟨bm9, d, H1.out, HN.out, by have := HCC.out; omega, HAR.out⟩, K1.out⟩
          case measure => have := H40.out; simp [intOf]; omega
      · have dz : decide ((600 : Int) < (pay.size : Int)) = false := by simp; omega
        have dz2 : decide (600 < pay.size) = false := by simp; omega
        have ds : decide ((600 : Int) < (s.size : Int)) = false := by simp; omega
        have ds2 : decide (600 < s.size) = false := by simp; omega
        have ZP : Hid (pay.size ≤ 600 ∧ s.size ≤ 600) := Lib.hid (by omega)
        have HBD : Hid (BdD d) := Lib.hid ⟨hn9, by have := HCC.out; have := H40.out; omega, HAR.out⟩
        clear zp
        by_cases k0 : kind = 0
        · subst k0
          have GP := Lib.hid (ppwrite_any (H1.out.below (bdrew w1)).p hn9 (by have := HCC.out; have := H40.out; omega) HAR.out ⟨id, ep, kd, pay⟩ (by have := ZP.out; dsimp only; omega))
          have GR := Lib.hid (fun w (h : RDk W.heap.size Q b1 b2 b3 c1 c2 c3 d w) => rpwrite_any h hn9 (by have := HCC.out; have := H40.out; omega) HAR.out ⟨id, ep, kd, pay⟩ (by have := ZP.out; dsimp only; omega) A1.out.id.2)
          unfold pgV at GP GR
          dsimp only at GP GR
          have BW := Lib.hid (writeP_bd d ⟨id, ep, kd, pay⟩)
          have NW := Lib.hid (writeP_n d ⟨id, ep, kd, pay⟩)
          have OW := Lib.hid (writeP_ok H1.out.ok ⟨id, ep, kd, pay⟩)
          obtain ⟨wp, hwp⟩ : ∃ x, x = writeP d ⟨id, ep, kd, pay⟩ := ⟨_, rfl⟩
          rw [← hwp] at GP GR BW NW OW
          clear hwp
          obtain ⟨dw, ew⟩ := wp
          dsimp only at GP GR BW NW OW
          go_upto_region 16 with fail
          refine wp_region_held_drew (S := (fun w' => w'.cell? ⟨C, 2, none⟩ = some (.int .i64 id) ∧ w'.cell? ⟨C, 3, none⟩ = some (.int .i64 ep) ∧ w'.cell? ⟨C, 4, none⟩ = some (.int .i64 kd) ∧ w'.cell? ⟨C, 5, none⟩ = some (.string pay))) (by kernel_rfl) ⟨x2, x3, x4, x5⟩ (fun hHeld => ?_)
          have H2 := Lib.hid (H1.out.below (bdrew w1))
          have K2 := Lib.hid (K1.out.trans ((bdrew w1).mono H1.out.sz))
          have X2 := Lib.hid (heap_stays X1.out (bdrew w1))
          change wpAnyH _ _ _ _ _ _ _ _ (World.drew w1)
          clear x0 x1 x2 x3 x4 x5 x6 x7 x8 x9 H1 K1 X1
          generalize World.drew w1 = w2 at *
          first | refine tq0 0 rfl ?_ | refine tq1 0 rfl ?_
          try go_frame
          first | refine tq0 1 rfl ?_ | refine tq1 1 rfl ?_
          try go_frame
          first | refine tq0 2 rfl ?_ | refine tq1 2 rfl ?_
          try go_frame
          first | refine tq0 4 rfl ?_ | refine tq1 4 rfl ?_
          try go_frame
          first | refine tq0 5 rfl ?_ | refine tq1 5 rfl ?_
          try go_frame
          first | refine tq0 6 rfl ?_ | refine tq1 6 rfl ?_
          try go_frame
          refine wpAnyH_ready (rs := [3]) (by kernel_rfl) (by simp) ?_
          refine AllReadyH.cons (o := ⟨_, _, _, _, _, _⟩) rfl (fun K hK => ?_) AllReadyH.nil
          go_simp
          refine (GP.out).mono ?_
          rintro e w3 ⟨rfl, hp3, k3⟩
          have HP3 := Lib.hid hp3
          have K3 := Lib.hid k3
          have N3 := Lib.hid (H2.out.next hp3 k3)
          have X3 := Lib.hid ((k3.blk (lt_of_block X2.out) NP.out).trans X2.out)
          clear hp3 k3
          refine hK.out _ _ ?_ (fun hHeld => ?_)
          · exact ⟨(ten_cells X3.out).2.2.1, (ten_cells X3.out).2.2.2.1, (ten_cells X3.out).2.2.2.2.1, (ten_cells X3.out).2.2.2.2.2.1⟩
          clear hK K
          try go_frame
          refine wpAnyH_ready (rs := [7]) (by kernel_rfl) (by simp) ?_
          refine AllReadyH.cons (o := ⟨_, _, _, _, _, _⟩) rfl (fun K hK => ?_) AllReadyH.nil
          go_simp
          refine (GR.out _ N3.out.1).mono ?_
          rintro e w4 ⟨rfl, hr4, k4⟩
          have X4 := Lib.hid ((k4.blk (lt_of_block X3.out) NR.out).trans X3.out)
          have F4 := Lib.hid (H2.out.last HP3.out K3.out hr4 k4 OW.out)
          clear hr4 k4
          refine hK.out _ _ ?_ (fun hHeld => ?_)
          · exact ⟨(ten_cells X4.out).2.2.1, (ten_cells X4.out).2.2.2.1, (ten_cells X4.out).2.2.2.2.1, (ten_cells X4.out).2.2.2.2.2.1⟩
          clear hK K
          try go_frame
          first | refine tq0 8 rfl ?_ | refine tq1 8 rfl ?_
          try go_frame
          refine wpAnyH_done (by kernel_rfl) ?_ _
          clear hHeld
          go_wp2_with fail
          go_roundw
          case rel => exact ⟨j + 1, by have := H40.out; omega, by go_num, ⟨bm9, dw, F4.out.1, NW.out.trans HN.out, by have := BW.out.1; have := HCC.out; omega, Nat.le_trans BW.out.2 HAR.out⟩, K2.out.trans F4.out.2⟩
          case measure => have := H40.out; simp [intOf]; omega
        · have n0 : (kind == 0) = false := by simp [k0]
          by_cases k1 : kind = 1
          · subst k1
            have GP := Lib.hid (ppwrite_any (H1.out.below (bdrew w1)).p hn9 (by have := HCC.out; have := H40.out; omega) HAR.out ⟨id, ep, kd, pay⟩ (by have := ZP.out; dsimp only; omega))
            have GR := Lib.hid (fun w (h : RDk W.heap.size Q b1 b2 b3 c1 c2 c3 d w) => rpwrite_any h hn9 (by have := HCC.out; have := H40.out; omega) HAR.out ⟨id, ep, kd, pay⟩ (by have := ZP.out; dsimp only; omega) A1.out.id.2)
            unfold pgV at GP GR
            dsimp only at GP GR
            have BW := Lib.hid (writeP_bd d ⟨id, ep, kd, pay⟩)
            have NW := Lib.hid (writeP_n d ⟨id, ep, kd, pay⟩)
            have OW := Lib.hid (writeP_ok H1.out.ok ⟨id, ep, kd, pay⟩)
            obtain ⟨wp, hwp⟩ : ∃ x, x = writeP d ⟨id, ep, kd, pay⟩ := ⟨_, rfl⟩
            rw [← hwp] at GP GR BW NW OW
            clear hwp
            obtain ⟨dw, ew⟩ := wp
            dsimp only at GP GR BW NW OW
            go_upto_region 16 with fail
            refine wp_region_held_drew (S := (fun w' => w'.cell? ⟨C, 2, none⟩ = some (.int .i64 id) ∧ w'.cell? ⟨C, 3, none⟩ = some (.int .i64 ep) ∧ w'.cell? ⟨C, 4, none⟩ = some (.int .i64 kd) ∧ w'.cell? ⟨C, 5, none⟩ = some (.string pay))) (by kernel_rfl) ⟨x2, x3, x4, x5⟩ (fun hHeld => ?_)
            have H2 := Lib.hid (H1.out.below (bdrew w1))
            have K2 := Lib.hid (K1.out.trans ((bdrew w1).mono H1.out.sz))
            have X2 := Lib.hid (heap_stays X1.out (bdrew w1))
            change wpAnyH _ _ _ _ _ _ _ _ (World.drew w1)
            clear x0 x1 x2 x3 x4 x5 x6 x7 x8 x9 H1 K1 X1
            generalize World.drew w1 = w2 at *
            first | refine tq0 0 rfl ?_ | refine tq1 0 rfl ?_
            try go_frame
            first | refine tq0 1 rfl ?_ | refine tq1 1 rfl ?_
            try go_frame
            first | refine tq0 2 rfl ?_ | refine tq1 2 rfl ?_
            try go_frame
            first | refine tq0 4 rfl ?_ | refine tq1 4 rfl ?_
            try go_frame
            first | refine tq0 5 rfl ?_ | refine tq1 5 rfl ?_
            try go_frame
            first | refine tq0 6 rfl ?_ | refine tq1 6 rfl ?_
            try go_frame
            refine wpAnyH_ready (rs := [3]) (by kernel_rfl) (by simp) ?_
            refine AllReadyH.cons (o := ⟨_, _, _, _, _, _⟩) rfl (fun K hK => ?_) AllReadyH.nil
            go_simp
            refine (GP.out).mono ?_
            rintro e w3 ⟨rfl, hp3, k3⟩
            have HP3 := Lib.hid hp3
            have K3 := Lib.hid k3
            have N3 := Lib.hid (H2.out.next hp3 k3)
            have X3 := Lib.hid ((k3.blk (lt_of_block X2.out) NP.out).trans X2.out)
            clear hp3 k3
            refine hK.out _ _ ?_ (fun hHeld => ?_)
            · exact ⟨(ten_cells X3.out).2.2.1, (ten_cells X3.out).2.2.2.1, (ten_cells X3.out).2.2.2.2.1, (ten_cells X3.out).2.2.2.2.2.1⟩
            clear hK K
            try go_frame
            refine wpAnyH_ready (rs := [7]) (by kernel_rfl) (by simp) ?_
            refine AllReadyH.cons (o := ⟨_, _, _, _, _, _⟩) rfl (fun K hK => ?_) AllReadyH.nil
            go_simp
            refine (GR.out _ N3.out.1).mono ?_
            rintro e w4 ⟨rfl, hr4, k4⟩
            have X4 := Lib.hid ((k4.blk (lt_of_block X3.out) NR.out).trans X3.out)
            have F4 := Lib.hid (H2.out.last HP3.out K3.out hr4 k4 OW.out)
            clear hr4 k4
            refine hK.out _ _ ?_ (fun hHeld => ?_)
            · exact ⟨(ten_cells X4.out).2.2.1, (ten_cells X4.out).2.2.2.1, (ten_cells X4.out).2.2.2.2.1, (ten_cells X4.out).2.2.2.2.2.1⟩
            clear hK K
            try go_frame
            first | refine tq0 8 rfl ?_ | refine tq1 8 rfl ?_
            try go_frame
            refine wpAnyH_done (by kernel_rfl) ?_ _
            clear hHeld
            go_wp2_with fail
            go_roundw
            case rel => exact ⟨j + 1, by have := H40.out; omega, by go_num, ⟨bm9, dw, F4.out.1, NW.out.trans HN.out, by have := BW.out.1; have := HCC.out; omega, Nat.le_trans BW.out.2 HAR.out⟩, K2.out.trans F4.out.2⟩
            case measure => have := H40.out; simp [intOf]; omega
          · have n1 : (kind == 1) = false := by simp [k1]
            clear k0 k1
            by_cases k3 : kind = 3
            · subst k3
              have GP := Lib.hid (psync_any H1.out.p HBD.out)
              have BW := Lib.hid (sync_bd d)
              clear n0 n1
              go_wp2_with fail
              refine (GP.out).mono ?_
              rintro e w3 ⟨rfl, ⟨bm2, hlt2, hp3⟩, k3⟩
              have HP3 := Lib.hid hp3
              have K3 := Lib.hid k3
              have GR := Lib.hid (rsync_any (H1.out.next hp3 k3).1 HBD.out)
              clear hp3 k3
              go_wp2_with fail
              refine (GR.out).mono ?_
              rintro e w4 ⟨rfl, hr4, k4⟩
              have F4 := Lib.hid (H1.out.last HP3.out K3.out hr4 k4 H1.out.ok.sync)
              clear hr4 k4
              generalize syncE d = er at *
              go_wp2_with fail
              go_roundw
              case rel => exact ⟨j + 1, by have := H40.out; omega, by go_num, ⟨bm2, syncD d, F4.out.1, (sync_n d).trans HN.out, by have := BW.out.1; have := HCC.out; omega, Nat.le_trans BW.out.2 HAR.out⟩, K1.out.trans F4.out.2⟩
              case measure => have := H40.out; simp [intOf]; omega
            · have n3 : (kind == 3) = false := by simp [k3]
              clear k3
              by_cases k4 : kind = 4
              · subst k4
                have GP := Lib.hid (parm_any H1.out.p i)
                have BW := Lib.hid (arm_bd d i A1.out.i.2 HAR.out)
                clear n0 n1 n3
                go_wp2_with fail
                refine (GP.out).mono ?_
                rintro e w3 ⟨rfl, hp3, k3⟩
                have HP3 := Lib.hid hp3
                have K3 := Lib.hid k3
                have N3 := Lib.hid (H1.out.next hp3 k3)
                have X3 := Lib.hid ((k3.blk (lt_of_block X1.out) NP.out).trans X1.out)
                have y1 : w3.cell? ⟨C, 1, none⟩ = some (.int .i64 i) := by rw [Lib.cell_of_heap X3.out]; rfl
                obtain ⟨k0, k1, k2, k3', k4, k5, kf⟩ := N3.out.1.cells
                have kf3 := kf 3
                clear hp3 k3 k0 k1 k2 kf k4 x0 x1 x2 x3 x4 x5 x6 x7 x8 x9
                cases hd : d.down with
                | true =>
                  rw [hd] at k5
                  have EA : armE d i = 13 := by simp [armE, hd]
                  have ED : Hid (armD d i = d) := Lib.hid (by unfold armD; rw [if_pos hd])
                  have F4 : Hid (Both W.heap.size P bS bm9 cS Q b1 b2 b3 c1 c2 c3 (armD d i) w3) := Lib.hid ⟨HP3.out, by rw [ED.out]; exact N3.out.1, H1.out.ok.arm i, N3.out.2.2⟩
                  have KF := Lib.hid (K1.out.trans N3.out.2.1)
                  rw [EA]
                  clear hd EA
                  go_wp2_with fail
                  go_roundw
                  case rel => exact ⟨j + 1, by have := H40.out; omega, by go_num, ⟨bm9, armD d i, F4.out, (arm_n d i).trans HN.out, by have := BW.out.1; have := HCC.out; omega, BW.out.2⟩, KF.out⟩
                  case measure => have := H40.out; simp [intOf]; omega
                | false =>
                  rw [hd] at k5
                  by_cases h1 : i < 1
                  · have d1 : decide (i < 1) = true := by simp [h1]
                    have EA : armE d i = 2 := by simp [armE, hd, h1]
                    have ED : Hid (armD d i = d) := Lib.hid (by unfold armD; rw [if_neg (by rw [hd]; decide), if_pos h1])
                    have F4 : Hid (Both W.heap.size P bS bm9 cS Q b1 b2 b3 c1 c2 c3 (armD d i) w3) := Lib.hid ⟨HP3.out, by rw [ED.out]; exact N3.out.1, H1.out.ok.arm i, N3.out.2.2⟩
                    have KF := Lib.hid (K1.out.trans N3.out.2.1)
                    rw [EA]
                    clear hd EA h1
                    go_wp2_with fail
                    go_roundw
                    case rel => exact ⟨j + 1, by have := H40.out; omega, by go_num, ⟨bm9, armD d i, F4.out, (arm_n d i).trans HN.out, by have := BW.out.1; have := HCC.out; omega, BW.out.2⟩, KF.out⟩
                    case measure => have := H40.out; simp [intOf]; omega
                  · have d1 : decide (i < 1) = false := by simp; omega
                    have EA : armE d i = 0 := by simp [armE, hd, h1]
                    have hi0 : ((i.toNat : Nat) : Int) = i := by omega
                    have ED : Hid (armD d i = { d with arm := i.toNat }) := Lib.hid (by unfold armD; rw [if_neg (by rw [hd]; decide), if_neg h1])
                    have BX := Lib.hid (show (w3.setCell ⟨Q, 3, none⟩ (.int .i64 i)).heap[Q]? = some (.cells (rbx b1 b2 b3 c1 c2 c3 (armD d i)) 53 (0, 0)) from by
                      have := Joins.block_setCell (i := 3) N3.out.1.box (.int .i64 i)
                      rw [this, ED.out]
                      unfold rbx
                      simp only [hi0]
                      rfl)
                    have R4' : Hid (RDk W.heap.size Q b1 b2 b3 c1 c2 c3 (armD d i) (w3.setCell ⟨Q, 3, none⟩ (.int .i64 i))) := Lib.hid (N3.out.1.rebox (fun q hq => set_else _ hq) BX.out (by rw [ED.out]) (by rw [ED.out]) (by rw [ED.out]) (by rw [ED.out]))
                    have F4 := Lib.hid (H1.out.last HP3.out K3.out R4'.out (KpS.set (R4.a Q b1 b2 b3) 3 (.int .i64 i) w3) (H1.out.ok.arm i))
                    have KF := Lib.hid (K1.out.trans F4.out.2)
                    rw [EA]
                    clear hi0 hd EA h1
                    go_wp2_with fail
                    go_roundw
                    case rel => exact ⟨j + 1, by have := H40.out; omega, by go_num, ⟨bm9, armD d i, F4.out.1, (arm_n d i).trans HN.out, by have := BW.out.1; have := HCC.out; omega, BW.out.2⟩, KF.out⟩
                    case measure => have := H40.out; simp [intOf]; omega
              · have n4 : (kind == 4) = false := by simp [k4]
                clear k4
                by_cases k5 : kind = 5
                · subst k5
                  have GP := Lib.hid (pcrash_any H1.out.p hn9 H1.out.sz A1.out.c)
                  clear n0 n1 n3 n4
                  go_wp2_with fail
                  refine (GP.out).mono ?_
                  rintro e w3 ⟨rfl, ⟨bm2, hlt2, hp3⟩, k3⟩
                  have HP3 := Lib.hid hp3
                  have K3 := Lib.hid k3
                  have N3 := Lib.hid (H1.out.next hp3 k3)
                  have X3 := Lib.hid ((k3.blk (lt_of_block X1.out) NP.out).trans X1.out)
                  have GR := Lib.hid (rcrash_any N3.out.1 H1.out.ok hn9 N3.out.2.2 (A1.out.c.below N3.out.2.1))
                  clear hp3 k3 hlt2 x0 x1 x2 x3 x4 x5 x6 x7 x8 x9
                  obtain ⟨x0, x1, x2, x3, x4, x5, x6, x7, x8, x9⟩ := ten_cells X3.out
                  go_wp2_with fail
                  refine (GR.out).mono ?_
                  rintro e w4 ⟨rfl, hr4, k4⟩
                  have F4 := Lib.hid (H1.out.last HP3.out K3.out hr4 k4 (H1.out.ok.crash keep t b))
                  clear hr4 k4
                  go_wp2_with fail
                  go_roundw
                  case rel => exact ⟨j + 1, by have := H40.out; omega, by go_num, ⟨bm2, crashD d keep t b, F4.out.1, HN.out, by have := HCC.out; show d.calls ≤ _; omega, by show 0 ≤ _; omega⟩, K1.out.trans F4.out.2⟩
                  case measure => have := H40.out; simp [intOf]; omega
                · have n5 : (kind == 5) = false := by simp [k5]
                  clear k5
                  by_cases k6 : kind = 6
                  · subst k6
                    clear n0 n1 n3 n4 n5
                    have GP := Lib.hid (pwrite_any (H1.out.below (bdrew w1)).p HBD.out i s)
                    have GR := Lib.hid (fun w (h : RDk W.heap.size Q b1 b2 b3 c1 c2 c3 d w) => rwrite_any h HBD.out i s (by have := ZP.out; omega))
                    have BW := Lib.hid (write_bd d i s)
                    generalize writeE d i = er at *
                    go_upto_region 28 with fail
                    refine wp_region_held_drew (S := (fun w' => w'.cell? ⟨C, 1, none⟩ = some (.int .i64 i) ∧ w'.cell? ⟨C, 6, none⟩ = some (.string s))) (by kernel_rfl) ⟨x1, x6⟩ (fun hHeld => ?_)
                    have H2 := Lib.hid (H1.out.below (bdrew w1))
                    have K2 := Lib.hid (K1.out.trans ((bdrew w1).mono H1.out.sz))
                    have X2 := Lib.hid (heap_stays X1.out (bdrew w1))
                    change wpAnyH _ _ _ _ _ _ _ _ (World.drew w1)
                    clear x0 x1 x2 x3 x4 x5 x6 x7 x8 x9 H1 K1 X1
                    generalize World.drew w1 = w2 at *
                    first | refine tq0 0 rfl ?_ | refine tq1 0 rfl ?_
                    try go_frame
                    first | refine tq0 1 rfl ?_ | refine tq1 1 rfl ?_
                    try go_frame
                    first | refine tq0 2 rfl ?_ | refine tq1 2 rfl ?_
                    try go_frame
                    first | refine tq0 3 rfl ?_ | refine tq1 3 rfl ?_
                    try go_frame
                    first | refine tq0 4 rfl ?_ | refine tq1 4 rfl ?_
                    try go_frame
                    first | refine tq0 6 rfl ?_ | refine tq1 6 rfl ?_
                    try go_frame
                    first | refine tq0 7 rfl ?_ | refine tq1 7 rfl ?_
                    try go_frame
                    first | refine tq0 8 rfl ?_ | refine tq1 8 rfl ?_
                    try go_frame
                    first | refine tq0 9 rfl ?_ | refine tq1 9 rfl ?_
                    try go_frame
                    first | refine tq0 10 rfl ?_ | refine tq1 10 rfl ?_
                    try go_frame
                    refine wpAnyH_ready (rs := [5]) (by kernel_rfl) (by simp) ?_
                    refine AllReadyH.cons (o := ⟨_, _, _, _, _, _⟩) rfl (fun K hK => ?_) AllReadyH.nil
                    go_simp
                    refine (GP.out).mono ?_
                    rintro e w3 ⟨rfl, hp3, k3⟩
                    have HP3 := Lib.hid hp3
                    have K3 := Lib.hid k3
                    have N3 := Lib.hid (H2.out.next hp3 k3)
                    have X3 := Lib.hid ((k3.blk (lt_of_block X2.out) NP.out).trans X2.out)
                    clear hp3 k3
                    refine hK.out _ _ ?_ (fun hHeld => ?_)
                    · exact ⟨(ten_cells X3.out).2.1, (ten_cells X3.out).2.2.2.2.2.2.1⟩
                    clear hK K
                    try go_frame
                    refine wpAnyH_ready (rs := [11]) (by kernel_rfl) (by simp) ?_
                    refine AllReadyH.cons (o := ⟨_, _, _, _, _, _⟩) rfl (fun K hK => ?_) AllReadyH.nil
                    go_simp
                    refine (GR.out _ N3.out.1).mono ?_
                    rintro e w4 ⟨rfl, hr4, k4⟩
                    have X4 := Lib.hid ((k4.blk (lt_of_block X3.out) NR.out).trans X3.out)
                    have F4 := Lib.hid (H2.out.last HP3.out K3.out hr4 k4 (H2.out.ok.write i s))
                    clear hr4 k4
                    refine hK.out _ _ ?_ (fun hHeld => ?_)
                    · exact ⟨(ten_cells X4.out).2.1, (ten_cells X4.out).2.2.2.2.2.2.1⟩
                    clear hK K
                    try go_frame
                    first | refine tq0 12 rfl ?_ | refine tq1 12 rfl ?_
                    try go_frame
                    refine wpAnyH_done (by kernel_rfl) ?_ _
                    clear hHeld
                    go_wp2_with fail
                    go_roundw
                    case rel => exact ⟨j + 1, by have := H40.out; omega, by go_num, ⟨bm9, writeD d i s, F4.out.1, (write_n d i s).trans HN.out, by have := BW.out.1; have := HCC.out; omega, Nat.le_trans BW.out.2 HAR.out⟩, K2.out.trans F4.out.2⟩
                    case measure => have := H40.out; simp [intOf]; omega
                  · have n6 : (kind == 6) = false := by simp [k6]
                    clear k6
                    have GP := Lib.hid (ppread_any H1.out.p hn9 i)
                    have GR := Lib.hid (fun w (h : RDk W.heap.size Q b1 b2 b3 c1 c2 c3 d w) => rpread_any h hn9 i)
                    unfold readRet at GP GR
                    obtain ⟨g9, hg9⟩ : ∃ g, g = readPP d i := ⟨_, rfl⟩
                    obtain ⟨re, hre⟩ : ∃ e, e = readPE d i := ⟨_, rfl⟩
                    rw [← hg9, ← hre] at GP GR
                    clear hg9 hre
                    obtain ⟨n1, n2, n3, pb⟩ := g9
                    unfold pgV at GP GR
                    dsimp only at GP GR
                    go_wp2_with fail
                    refine (GP.out).mono ?_
                    rintro e w5 ⟨rfl, hb⟩
                    have Y6 := Lib.hid (heap_alloc_new w5 (.cells #[.int .i64 n1, .int .i64 n2, .int .i64 n3, .string pb] 23))
                    have H6 := Lib.hid ((H1.out.below hb).below (balloc w5 (.cells #[.int .i64 n1, .int .i64 n2, .int .i64 n3, .string pb] 23)))
                    have K6 := Lib.hid (K1.out.trans ((bthen hb (balloc w5 (.cells #[.int .i64 n1, .int .i64 n2, .int .i64 n3, .string pb] 23))).mono K1.out.size))
                    obtain ⟨D, hD⟩ : ∃ D, D = w5.heap.size := ⟨_, rfl⟩
                    rw [← hD] at Y6
                    have X6 := Lib.hid (heap_stays (heap_stays X1.out hb) (balloc w5 (.cells #[.int .i64 n1, .int .i64 n2, .int .i64 n3, .string pb] 23)))
                    clear hb
                    go_upto_region 11 with fail
                    rw [← hD]
                    generalize w5.alloc (.cells #[.int .i64 n1, .int .i64 n2, .int .i64 n3, .string pb] 23) = w6 at *
                    clear hD
                    obtain ⟨x0, x1, x2, x3, x4, x5, x6, x7, x8, x9⟩ := ten_cells X6.out
                    clear x0 x2 x3 x4 x5 x6 x7 x8 x9
                    go_wp2_with fail
                    refine (GR.out _ H6.out.r).mono ?_
                    rintro e w7 ⟨rfl, hb⟩
                    have Z8 := Lib.hid (heap_alloc_new w7 (.cells #[.int .i64 n1, .int .i64 n2, .int .i64 n3, .string pb] 23))
                    have Y8 := Lib.hid (heap_stays (heap_stays Y6.out hb) (balloc w7 (.cells #[.int .i64 n1, .int .i64 n2, .int .i64 n3, .string pb] 23)))
                    have H8 := Lib.hid ((H6.out.below hb).below (balloc w7 (.cells #[.int .i64 n1, .int .i64 n2, .int .i64 n3, .string pb] 23)))
                    have K8 := Lib.hid (K6.out.trans ((bthen hb (balloc w7 (.cells #[.int .i64 n1, .int .i64 n2, .int .i64 n3, .string pb] 23))).mono K6.out.size))
                    obtain ⟨F, hF⟩ : ∃ F, F = w7.heap.size := ⟨_, rfl⟩
                    rw [← hF] at Z8
                    clear hb
                    go_upto_region 12 with fail
                    rw [← hF]
                    generalize w7.alloc (.cells #[.int .i64 n1, .int .i64 n2, .int .i64 n3, .string pb] 23) = w8 at *
                    clear hF
                    obtain ⟨y0, y1, y2, y3⟩ := four_cells Y8.out
                    obtain ⟨z0, z1, z2, z3⟩ := four_cells Z8.out
                    go_wp2_with fail
                    go_roundw
                    case rel => exact ⟨j + 1, by have := H40.out; omega, by go_num, ⟨bm9, d, H8.out, HN.out, by have := HCC.out; omega, HAR.out⟩, K8.out⟩
                    case measure => have := H40.out; simp [intOf]; omega
    · have e12 : Hid (¬ (j < n ∧ j < 40)) := Lib.hid hl
      have H9 : Hid (d.calls ≤ 160) := Lib.hid (by have := HCC.out; omega)
      have FIN : Hid (∀ wz : World, wz = wr → Both W.heap.size P bS bm9 cS Q b1 b2 b3 c1 c2 c3 d wz) := Lib.hid (fun wz e => by rw [e]; exact HB.out)
      have HBL := HB
      have KBL := KJ
      by_cases hl2 : j < n
      · have e1 : decide ((j : Int) < (n : Int)) = true := by simp [hl2]
        have e2 : decide ((j : Int) < 40) = false := by simp; omega
        clear hl
        go_wp2_with fail
        go_loopw [15] (fun i wr => ∃ q : Nat, q ≤ 6 ∧ i = .int .i64 q ∧ Both W.heap.size P bS bm9 cS Q b1 b2 b3 c1 c2 c3 d wr ∧ Below W.heap.size W wr) (fun i _ => 6 - (intOf i).toNat)
        case atStart => exact ⟨0, by omega, rfl, HBL.out, KBL.out⟩
        case round =>
          obtain ⟨q, hq, rfl, hb, hk⟩ := hrel
          have H1 := Lib.hid hb
          have K1 := Lib.hid hk
          clear hb hk HB KJ HBL KBL FIN
          by_cases hq6 : q < 6
          · have e3 : decide ((q : Int) < 6) = true := by simp; omega
            have HQ6 := Lib.hid hq6
            have GP := Lib.hid (ppread_any H1.out.p hn9 (q : Int))
            have GR := Lib.hid (fun w (h : RDk W.heap.size Q b1 b2 b3 c1 c2 c3 d w) => rpread_any h hn9 (q : Int))
            unfold readRet at GP GR
            obtain ⟨g9, hg9⟩ : ∃ g, g = readPP d (q : Int) := ⟨_, rfl⟩
            obtain ⟨re, hre⟩ : ∃ e, e = readPE d (q : Int) := ⟨_, rfl⟩
            rw [← hg9, ← hre] at GP GR
            clear hg9 hre
            obtain ⟨n1, n2, n3, pb⟩ := g9
            unfold pgV at GP GR
            dsimp only at GP GR
            go_wp2_with fail
            refine (GP.out).mono ?_
            rintro e w5 ⟨rfl, hb⟩
            have Y6 := Lib.hid (heap_alloc_new w5 (.cells #[.int .i64 n1, .int .i64 n2, .int .i64 n3, .string pb] 23))
            have H6 := Lib.hid ((H1.out.below hb).below (balloc w5 (.cells #[.int .i64 n1, .int .i64 n2, .int .i64 n3, .string pb] 23)))
            have K6 := Lib.hid (K1.out.trans ((bthen hb (balloc w5 (.cells #[.int .i64 n1, .int .i64 n2, .int .i64 n3, .string pb] 23))).mono K1.out.size))
            obtain ⟨D, hD⟩ : ∃ D, D = w5.heap.size := ⟨_, rfl⟩
            rw [← hD] at Y6
            clear hb
            go_upto_region 34 with fail
            rw [← hD]
            generalize w5.alloc (.cells #[.int .i64 n1, .int .i64 n2, .int .i64 n3, .string pb] 23) = w6 at *
            clear hD
            go_wp2_with fail
            refine (GR.out _ H6.out.r).mono ?_
            rintro e w7 ⟨rfl, hb⟩
            have Z8 := Lib.hid (heap_alloc_new w7 (.cells #[.int .i64 n1, .int .i64 n2, .int .i64 n3, .string pb] 23))
            have Y8 := Lib.hid (heap_stays (heap_stays Y6.out hb) (balloc w7 (.cells #[.int .i64 n1, .int .i64 n2, .int .i64 n3, .string pb] 23)))
            have H8 := Lib.hid ((H6.out.below hb).below (balloc w7 (.cells #[.int .i64 n1, .int .i64 n2, .int .i64 n3, .string pb] 23)))
            have K8 := Lib.hid (K6.out.trans ((bthen hb (balloc w7 (.cells #[.int .i64 n1, .int .i64 n2, .int .i64 n3, .string pb] 23))).mono K6.out.size))
            obtain ⟨F, hF⟩ : ∃ F, F = w7.heap.size := ⟨_, rfl⟩
            rw [← hF] at Z8
            clear hb
            go_upto_region 35 with fail
            rw [← hF]
            generalize w7.alloc (.cells #[.int .i64 n1, .int .i64 n2, .int .i64 n3, .string pb] 23) = w8 at *
            clear hF
            obtain ⟨y0, y1, y2, y3⟩ := four_cells Y8.out
            obtain ⟨z0, z1, z2, z3⟩ := four_cells Z8.out
            go_wp2_with fail
            go_roundw
            case rel => exact ⟨q + 1, by have := HQ6.out; omega, by go_num, H8.out, K8.out⟩
            case measure => have := HQ6.out; simp [intOf]; omega
          · have e3 : decide ((q : Int) < 6) = false := by simp; omega
            go_wp2_with fail
            go_ret
            exact ⟨rfl, K1.out⟩
      · have e1 : decide ((j : Int) < (n : Int)) = false := by simp; omega
        clear hl
        go_wp2_with fail
        go_loopw [15] (fun i wr => ∃ q : Nat, q ≤ 6 ∧ i = .int .i64 q ∧ Both W.heap.size P bS bm9 cS Q b1 b2 b3 c1 c2 c3 d wr ∧ Below W.heap.size W wr) (fun i _ => 6 - (intOf i).toNat)
        case atStart => exact ⟨0, by omega, rfl, HBL.out, KBL.out⟩
        case round =>
          obtain ⟨q, hq, rfl, hb, hk⟩ := hrel
          have H1 := Lib.hid hb
          have K1 := Lib.hid hk
          clear hb hk HB KJ HBL KBL FIN
          by_cases hq6 : q < 6
          · have e3 : decide ((q : Int) < 6) = true := by simp; omega
            have HQ6 := Lib.hid hq6
            have GP := Lib.hid (ppread_any H1.out.p hn9 (q : Int))
            have GR := Lib.hid (fun w (h : RDk W.heap.size Q b1 b2 b3 c1 c2 c3 d w) => rpread_any h hn9 (q : Int))
            unfold readRet at GP GR
            obtain ⟨g9, hg9⟩ : ∃ g, g = readPP d (q : Int) := ⟨_, rfl⟩
            obtain ⟨re, hre⟩ : ∃ e, e = readPE d (q : Int) := ⟨_, rfl⟩
            rw [← hg9, ← hre] at GP GR
            clear hg9 hre
            obtain ⟨n1, n2, n3, pb⟩ := g9
            unfold pgV at GP GR
            dsimp only at GP GR
            go_wp2_with fail
            refine (GP.out).mono ?_
            rintro e w5 ⟨rfl, hb⟩
            have Y6 := Lib.hid (heap_alloc_new w5 (.cells #[.int .i64 n1, .int .i64 n2, .int .i64 n3, .string pb] 23))
            have H6 := Lib.hid ((H1.out.below hb).below (balloc w5 (.cells #[.int .i64 n1, .int .i64 n2, .int .i64 n3, .string pb] 23)))
            have K6 := Lib.hid (K1.out.trans ((bthen hb (balloc w5 (.cells #[.int .i64 n1, .int .i64 n2, .int .i64 n3, .string pb] 23))).mono K1.out.size))
            obtain ⟨D, hD⟩ : ∃ D, D = w5.heap.size := ⟨_, rfl⟩
            rw [← hD] at Y6
            clear hb
            go_upto_region 34 with fail
            rw [← hD]
            generalize w5.alloc (.cells #[.int .i64 n1, .int .i64 n2, .int .i64 n3, .string pb] 23) = w6 at *
            clear hD
            go_wp2_with fail
            refine (GR.out _ H6.out.r).mono ?_
            rintro e w7 ⟨rfl, hb⟩
            have Z8 := Lib.hid (heap_alloc_new w7 (.cells #[.int .i64 n1, .int .i64 n2, .int .i64 n3, .string pb] 23))
            have Y8 := Lib.hid (heap_stays (heap_stays Y6.out hb) (balloc w7 (.cells #[.int .i64 n1, .int .i64 n2, .int .i64 n3, .string pb] 23)))
            have H8 := Lib.hid ((H6.out.below hb).below (balloc w7 (.cells #[.int .i64 n1, .int .i64 n2, .int .i64 n3, .string pb] 23)))
            have K8 := Lib.hid (K6.out.trans ((bthen hb (balloc w7 (.cells #[.int .i64 n1, .int .i64 n2, .int .i64 n3, .string pb] 23))).mono K6.out.size))
            obtain ⟨F, hF⟩ : ∃ F, F = w7.heap.size := ⟨_, rfl⟩
            rw [← hF] at Z8
            clear hb
            go_upto_region 35 with fail
            rw [← hF]
            generalize w7.alloc (.cells #[.int .i64 n1, .int .i64 n2, .int .i64 n3, .string pb] 23) = w8 at *
            clear hF
            obtain ⟨y0, y1, y2, y3⟩ := four_cells Y8.out
            obtain ⟨z0, z1, z2, z3⟩ := four_cells Z8.out
            go_wp2_with fail
            go_roundw
            case rel => exact ⟨q + 1, by have := HQ6.out; omega, by go_num, H8.out, K8.out⟩
            case measure => have := HQ6.out; simp [intOf]; omega
          · have e3 : decide ((q : Int) < 6) = false := by simp; omega
            go_wp2_with fail
            go_ret
            exact ⟨rfl, K1.out⟩

end Go.Proofs.Ytdmlmjmdpmmcgaa
namespace Go.Proofs.Ytdmlmjmdpmmcgaa
open Go.ChangeShapes Go.WideShapes Go.ChangeAt Go.RowKit Go.Joins
set_option linter.unusedVariables false
set_option maxRecDepth 100000

theorem rows_sl {C : Nat} (hC : 0 < C) {ok : List Value → Prop} {w : World} {a : Option Addr} {len cap : Nat} (h : CellRows C ok w a len cap) :
    ∃ f : Nat → List Value, (∀ i, i < len → (f i).length = C ∧ ok (f i)) ∧ Sl C (fun i j => (f i).getD j undef) len (.slice a len cap) w := by
  rcases h with ⟨rfl, rfl, rfl⟩ | ⟨x, rfl, hl, hm, hc⟩
  · exact ⟨fun _ => [], fun i hi => absurd hi (Nat.not_lt_zero i), none, 0, rfl, Nat.le_refl _, by omega, fun h => absurd h (Nat.lt_irrefl 0)⟩
  · have hex : ∀ i, ∃ cs : List Value, i < len → cs.length = C ∧ ok cs ∧ ∀ j, j < C → w.cell? (x.add (i * C + j)) = cs[j]? := fun i => by
      by_cases hi : i < len
      · obtain ⟨cs, h1, h2, h3⟩ := hc i hi; exact ⟨cs, fun _ => ⟨h1, h2, h3⟩⟩
      · exact ⟨[], fun h => absurd h hi⟩
    obtain ⟨f, hf⟩ : ∃ f : Nat → List Value, ∀ i, i < len → (f i).length = C ∧ ok (f i) ∧ ∀ j, j < C → w.cell? (x.add (i * C + j)) = (f i)[j]? := ⟨fun i => Classical.choose (hex i), fun i => Classical.choose_spec (hex i)⟩
    refine ⟨f, fun i hi => ⟨(hf i hi).1, (hf i hi).2.1⟩, some x, cap, rfl, hl, hm, fun hn => ?_⟩
    have h0 := (hf 0 hn).2.2 0 hC
    rw [Nat.zero_mul, List.getElem?_eq_getElem (by rw [(hf 0 hn).1]; exact hC)] at h0
    obtain ⟨b, off, spot⟩ := x
    have hspot : spot = none := by simpa [Addr.add] using World.cell?_spot h0
    subst hspot
    refine ⟨b, off, rfl, ?_, fun i hi j hj => ?_⟩
    · rw [add_plain] at h0
      rcases Nat.lt_or_ge b w.heap.size with h' | h'
      · exact h'
      · simp [World.cell?, Array.getElem?_eq_none h'] at h0
    · have := (hf i hi).2.2 j hj
      rw [add_plain] at this
      rw [Nat.add_assoc, this, List.getElem?_eq_getElem (by rw [(hf i hi).1]; exact hj)]
      simp [List.getD, List.getElem?_eq_getElem (show j < (f i).length by rw [(hf i hi).1]; exact hj)]

theorem choose_fn {α : Type} {n : Nat} {p : Nat → α → Prop} (d : α) (h : ∀ i, i < n → ∃ x, p i x) : ∃ f : Nat → α, ∀ i, i < n → p i (f i) := by
  have hex : ∀ i, ∃ x, i < n → p i x := fun i => by
    by_cases hi : i < n
    · obtain ⟨x, hx⟩ := h i hi; exact ⟨x, fun _ => hx⟩
    · exact ⟨d, fun h => absurd h hi⟩
  exact ⟨fun i => Classical.choose (hex i), fun i => Classical.choose_spec (hex i)⟩

section
variable {H : Type} {enc : TypeId × Value → H} {W : World}

/-- what a slice's one cell is -/
theorem slice_cell {P : Program} {base fuel : Nat} {t e : TypeId} {c : Value} {x : DataW H × List MemPlace} (ht : P.underlying t = some (.slice e)) (hf : DataW.trod enc P W base (fun _ => true) true fuel t [c] = some x) : ∃ a len cap, c = .slice a len cap := by
  rcases Go.Deep.open_slice ht hf with ⟨hcs, _⟩ | ⟨y, l, cp, m, n, D, Pl, hcs, _⟩
  · exact ⟨none, 0, 0, by simpa using hcs⟩
  · exact ⟨some y, l, cp, by simpa using hcs⟩

end

end Go.Proofs.Ytdmlmjmdpmmcgaa
