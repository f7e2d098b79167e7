/- The walk of the law FreemapAborts, whatever the program's map is made of. -/
import Derived.Test.YtbjmdejnipleoaaFmLaw1
import Derived.Test.YtbjmdejnipleoaaFmKeptW
import Derived.Test.YtbjmdejnipleoaaFmDoesW
namespace Go.Proofs.Ytbjmdejnipleoaa
open Go.RowKit Go.Deep
set_option linter.unusedVariables false
set_option linter.unusedSimpArgs false
set_option maxRecDepth 100000

section
variable {PM : PMap}
set_option maxHeartbeats 12800000 in
theorem aborts12_walk (I : Fm12 PM) (n : Nat) (A : Nat → Int × Int) (ao : Option Addr) (cap : Nat) (n2 : Nat) (A2 : Nat → Int × Int) (ao2 : Option Addr) (cap2 : Nat) (W : World) (ha : FasAt W.heap.size n A ao cap W) (ha2 : FasAt W.heap.size n2 A2 ao2 cap2 W) : Calls Try.prog 6 #[.slice ao n cap, .slice ao2 n2 cap2] W fun r u' => r = .returned (.bool true) ∧ Below W.heap.size W u' := by
  have H := Lib.hid (made12_any I (Nat.le_refl _) ha 12 (by omega))
  change Hid (Calls _ _ #[.int .i64 12, _] _ _) at H
  have HA := Lib.hid (fun w => awake12_any I w)
  have HI := Lib.hid I
  have HX2 := Lib.hid ha2
  have hcap := ha2.c
  clear I ha ha2
  go_enter Try.func6, Try.ntmps6
  go_wp2_with fail
  refine (H.out).mono ?_
  rintro e w1 ⟨P, Q, K, rfl, hb, hf, k1⟩
  obtain ⟨S, hp, _⟩ := hb.ex
  have P1 := Lib.hid hp
  have Z1 := Lib.hid hb.sz
  have K1 := Lib.hid k1
  have HF := Lib.hid hf
  clear hb hf hp k1 H
  go_wp2_with fail
  refine (HA.out _).mono ?_
  rintro e w2 ⟨rfl, k2⟩
  have P2 := Lib.hid (HI.out.below P1.out k2)
  have Z2 := Lib.hid (Nat.le_trans Z1.out k2.size)
  have K2 := Lib.hid (bthen K1.out k2)
  clear k2 HA P1 Z1 K1
  have GC := Lib.hid (HI.out.commit P2.out (by omega) Z2.out)
  have H01 : Hid (∀ i, i < 12 → turnF K 1 0 i = 0 ∨ turnF K 1 0 i = 1) := Lib.hid (fun i _ => commit_two HF.out i)
  obtain ⟨K0, hK0⟩ : ∃ K0, K0 = turnF K 1 0 := ⟨_, rfl⟩
  rw [← hK0] at GC H01
  clear hK0 HF
  go_wp2_with fail
  refine (GC.out).mono ?_
  rintro e w3 ⟨rfl, S3, h3, p3, k3⟩
  have P3 := Lib.hid p3
  have Z3 := Lib.hid (Nat.le_trans Z2.out k3.size)
  have K3 := Lib.hid (K2.out.trans (k3.bot Z2.out fun q hq => by
    cases c : S q with
    | false => rfl
    | true => have := (HI.out.lo P2.out q c).1; omega))
  clear h3 p3 k3 P2 Z2 K2 GC
  have GL4 := Lib.hid (HI.out.list 0 P3.out (by omega) Z3.out (by omega))
  change Hid (Calls _ _ #[_, .int .i64 0] _ _) at GL4
  go_wp2_with fail
  refine (GL4.out).mono ?_
  rintro e w4 ⟨v4, rfl, nl, k4⟩
  have NL4 := Lib.hid nl
  have NS4 : Hid (∀ g, v4.ownBlock = some g → S3 g = false) := Lib.hid (fun g hg => by
    cases c : S3 g with
    | false => rfl
    | true => have h1 := (HI.out.lo P3.out g c).2; have h2 := (NL4.out.lo g hg).1; omega)
  have P4 := Lib.hid (HI.out.below P3.out k4)
  have Z4 := Lib.hid (Nat.le_trans Z3.out k4.size)
  have K4 := Lib.hid (bthen K3.out k4)
  clear nl k4 GL4
  have GL5 := Lib.hid (HI.out.list 1 P4.out (by omega) Z4.out (by omega))
  change Hid (Calls _ _ #[_, .int .i64 1] _ _) at GL5
  go_wp2_with fail
  refine (GL5.out).mono ?_
  rintro e w5 ⟨v5, rfl, nl, k4⟩
  have NL5 := Lib.hid nl
  have NS5 : Hid (∀ g, v5.ownBlock = some g → S3 g = false) := Lib.hid (fun g hg => by
    cases c : S3 g with
    | false => rfl
    | true => have h1 := (HI.out.lo P4.out g c).2; have h2 := (NL5.out.lo g hg).1; omega)
  have P5 := Lib.hid (HI.out.below P4.out k4)
  have Z5 := Lib.hid (Nat.le_trans Z4.out k4.size)
  have K5 := Lib.hid (bthen K4.out k4)
  have NL4b5 := Lib.hid (NL4.out.below k4)
  clear nl k4 GL5
  go_wp2_with fail
  go_loopw [10] (fun i wr => ∃ j : Nat, j ≤ 40 ∧ i = .int .i64 j ∧ (∃ K S, Hid (PM W.heap.size P 12 K S wr) ∧ Hid (SinceF 12 K0 K) ∧ Hid (NewL w3.heap.size (listF K0 0 12) v4 wr) ∧ Hid (∀ g, v4.ownBlock = some g → S g = false) ∧ Hid (NewL w4.heap.size (listF K0 1 12) v5 wr) ∧ Hid (∀ g, v5.ownBlock = some g → S g = false)) ∧ Hid (W.heap.size ≤ wr.heap.size) ∧ Hid (Below W.heap.size W wr)) (fun i _ => 40 - (intOf i).toNat)
  case atStart => exact ⟨0, by omega, rfl, ⟨K0, S3, P5, Lib.hid (SinceF.refl _ _), NL4b5, NS4, NL5, NS5⟩, Z5, K5⟩
  case round =>
    clear NL4 NL4b5 NS4 NL5 NS5 P5 Z5 K5 P4 Z4 K4 P3 Z3 K3
    obtain ⟨j, hj, rfl, ⟨K, S, HP, HS, HN0, HG0, HN1, HG1⟩, HZ, HK⟩ := hrel
    have hj0 : (0 : Int) ≤ (j : Int) := by omega
    by_cases hl : j < n2 ∧ j < 40
    · obtain ⟨hl, h40⟩ := hl
      have e1 : decide ((j : Int) < (n2 : Int)) = true := by simp [hl]
      have hl2 : (j : Int) < (n2 : Int) := by omega
      have e2 : decide ((j : Int) < 40) = true := by simp; omega
      have h402 : (j : Int) < 40 := by omega
      have AJ := HX2.out.below HK.out
      obtain ⟨B, o, rfl, hB, hcell⟩ := AJ.x (by omega)
      obtain ⟨x0, x1⟩ := hcell j hl
      obtain ⟨kind, hkind⟩ : ∃ k, k = (A2 j).1 := ⟨_, rfl⟩
      obtain ⟨i, hia⟩ : ∃ i, i = (A2 j).2 := ⟨_, rfl⟩
      rw [← hkind] at x0
      rw [← hia] at x1
      have H40 := Lib.hid h40
      have X1 := Lib.hid (heap_alloc_new wr (.cells #[.int .i64 kind, .int .i64 i] 40))
      have B1 := balloc wr (.cells #[.int .i64 kind, .int .i64 i] 40)
      have HP1 := Lib.hid (HI.out.below HP.out B1)
      have HM0 := Lib.hid (HN0.out.below B1)
      have HM1 := Lib.hid (HN1.out.below B1)
      have HZ1 := Lib.hid (Nat.le_trans HZ.out B1.size)
      have HK1 := Lib.hid (bthen HK.out B1)
      have NB : Hid (∀ k, S k = true → W.heap.size ≤ k) := Lib.hid (fun k hk => (HI.out.lo HP.out k hk).1)
      obtain ⟨C, hC⟩ : ∃ C, C = wr.heap.size := ⟨_, rfl⟩
      rw [← hC] at X1
      clear AJ hcell hB hkind hia
      go_upto_region 10 with fail
      rw [← hC]
      generalize wr.alloc (.cells #[.int .i64 kind, .int .i64 i] 40) = w7 at *
      clear hC B1 x0 x1 HP HK HZ HN0 HN1
      have x0 : w7.cell? ⟨C, 0, none⟩ = some (.int .i64 kind) := by rw [Lib.cell_of_heap X1.out]; rfl
      have x1 : w7.cell? ⟨C, 1, none⟩ = some (.int .i64 i) := by rw [Lib.cell_of_heap X1.out]; rfl
      by_cases k4 : kind = 4 ∨ kind = 5
      · rcases k4 with rfl | rfl
        · have GO := Lib.hid (HI.out.leave i HP1.out (by omega) HZ1.out)
          have SN := Lib.hid (HS.out.leave H01.out i)
          go_wp2_with fail
          refine (GO.out).mono ?_
          rintro e w6 ⟨rfl, S6, h6, p6, k6⟩
          have P6 := Lib.hid p6
          have Z6 := Lib.hid (Nat.le_trans HZ1.out k6.size)
          have K6 := Lib.hid (HK1.out.trans (k6.bot HZ1.out fun q hq => by
            cases c : S q with
            | false => rfl
            | true => have := NB.out q c; omega))
          obtain ⟨n6, g6⟩ := HM0.out.post (PM := PM) (base := 0) (P := 0) (n := 0) (K2 := K) HG0.out k6 h6
          have HN0x := Lib.hid n6
          have HG0x := Lib.hid g6
          clear n6 g6
          obtain ⟨n6, g6⟩ := HM1.out.post (PM := PM) (base := 0) (P := 0) (n := 0) (K2 := K) HG1.out k6 h6
          have HN1x := Lib.hid n6
          have HG1x := Lib.hid g6
          clear n6 g6
          clear h6 p6 k6 GO x0 x1
          go_wp2_with fail
          go_roundw
          case rel => exact ⟨j + 1, by have := H40.out; omega, by go_num, ⟨leaveF 12 K i, S6, P6, SN, HN0x, HG0x, HN1x, HG1x⟩, Z6, K6⟩
          case measure => have := H40.out; simp [intOf]; omega
        · have GO := Lib.hid (HI.out.leave i HP1.out (by omega) HZ1.out)
          have SN := Lib.hid (HS.out.leave H01.out i)
          go_wp2_with fail
          refine (GO.out).mono ?_
          rintro e w6 ⟨rfl, S6, h6, p6, k6⟩
          have P6 := Lib.hid p6
          have Z6 := Lib.hid (Nat.le_trans HZ1.out k6.size)
          have K6 := Lib.hid (HK1.out.trans (k6.bot HZ1.out fun q hq => by
            cases c : S q with
            | false => rfl
            | true => have := NB.out q c; omega))
          obtain ⟨n6, g6⟩ := HM0.out.post (PM := PM) (base := 0) (P := 0) (n := 0) (K2 := K) HG0.out k6 h6
          have HN0x := Lib.hid n6
          have HG0x := Lib.hid g6
          clear n6 g6
          obtain ⟨n6, g6⟩ := HM1.out.post (PM := PM) (base := 0) (P := 0) (n := 0) (K2 := K) HG1.out k6 h6
          have HN1x := Lib.hid n6
          have HG1x := Lib.hid g6
          clear n6 g6
          clear h6 p6 k6 GO x0 x1
          go_wp2_with fail
          go_roundw
          case rel => exact ⟨j + 1, by have := H40.out; omega, by go_num, ⟨leaveF 12 K i, S6, P6, SN, HN0x, HG0x, HN1x, HG1x⟩, Z6, K6⟩
          case measure => have := H40.out; simp [intOf]; omega
      · have n4 : (kind == 4) = false := by simp; omega
        have n5 : (kind == 5) = false := by simp; omega
        by_cases k1 : 1 ≤ kind
        · have d5 : decide ((1 : Int) ≤ kind) = true := by simp [k1]
          by_cases k3 : kind ≤ 3
          · have d6 : decide (kind ≤ 3) = true := by simp [k3]
            have GO := Lib.hid (HI.out.take HP1.out (by omega) HZ1.out)
            have SN := Lib.hid (HS.out.take H01.out)
            generalize takeE 12 K = te at *
            generalize takeI 12 K = ti at *
            go_wp2_with fail
            refine (GO.out).mono ?_
            rintro e w6 ⟨rfl, S6, h6, p6, k6⟩
            have P6 := Lib.hid p6
            have Z6 := Lib.hid (Nat.le_trans HZ1.out k6.size)
            have K6 := Lib.hid (HK1.out.trans (k6.bot HZ1.out fun q hq => by
              cases c : S q with
              | false => rfl
              | true => have := NB.out q c; omega))
            obtain ⟨n6, g6⟩ := HM0.out.post (PM := PM) (base := 0) (P := 0) (n := 0) (K2 := K) HG0.out k6 h6
            have HN0x := Lib.hid n6
            have HG0x := Lib.hid g6
            clear n6 g6
            obtain ⟨n6, g6⟩ := HM1.out.post (PM := PM) (base := 0) (P := 0) (n := 0) (K2 := K) HG1.out k6 h6
            have HN1x := Lib.hid n6
            have HG1x := Lib.hid g6
            clear n6 g6
            clear h6 p6 k6 GO x0 x1
            go_wp2_with fail
            go_roundw
            case rel => exact ⟨j + 1, by have := H40.out; omega, by go_num, ⟨takeF 12 K, S6, P6, SN, HN0x, HG0x, HN1x, HG1x⟩, Z6, K6⟩
            case measure => have := H40.out; simp [intOf]; omega
          · have d6 : decide (kind ≤ 3) = false := by simp; omega
            go_wp2_with fail
            go_roundw
            case rel => exact ⟨j + 1, by have := H40.out; omega, by go_num, ⟨K, S, HP1, HS, HM0, HG0, HM1, HG1⟩, HZ1, HK1⟩
            case measure => have := H40.out; simp [intOf]; omega
        · have d5 : decide ((1 : Int) ≤ kind) = false := by simp; omega
          go_wp2_with fail
          go_roundw
          case rel => exact ⟨j + 1, by have := H40.out; omega, by go_num, ⟨K, S, HP1, HS, HM0, HG0, HM1, HG1⟩, HZ1, HK1⟩
          case measure => have := H40.out; simp [intOf]; omega
    · by_cases hl2 : j < n2
      · have e1 : decide ((j : Int) < (n2 : Int)) = true := by simp [hl2]
        have e2 : decide ((j : Int) < 40) = false := by simp; omega
        clear hl
        have GO := Lib.hid (HI.out.abort HP.out (by omega) HZ.out)
        have AB := Lib.hid (HS.out.abort H01.out)
        have E0 : Hid (listF (turnF K 0 1) 0 12 = listF K0 0 12) := Lib.hid (listF_ext fun i hi => by rw [AB.out i hi])
        have E1 : Hid (listF (turnF K 0 1) 1 12 = listF K0 1 12) := Lib.hid (listF_ext fun i hi => by rw [AB.out i hi])
        have E2 : Hid (listF (turnF K 0 1) 2 12 = []) := Lib.hid (listF_nil fun i hi => by rw [AB.out i hi]; rcases H01.out i hi with h | h <;> omega)
        have E3 : Hid (listF (turnF K 0 1) 3 12 = []) := Lib.hid (listF_nil fun i hi => by rw [AB.out i hi]; rcases H01.out i hi with h | h <;> omega)
        have NB : Hid (∀ k, S k = true → W.heap.size ≤ k) := Lib.hid (fun k hk => (HI.out.lo HP.out k hk).1)
        go_wp2_with fail
        refine (GO.out).mono ?_
        rintro e y6 ⟨rfl, S6, h6, p6, k6⟩
        have P6 := Lib.hid p6
        have Z6 := Lib.hid (Nat.le_trans HZ.out k6.size)
        have K6 := Lib.hid (HK.out.trans (k6.bot HZ.out fun q hq => by
          cases c : S q with
          | false => rfl
          | true => have := NB.out q c; omega))
        have F6 := Lib.hid (HN0.out.post (PM := PM) (base := 0) (P := 0) (n := 0) (K2 := K) HG0.out k6 h6).1
        have U6 := Lib.hid (HN1.out.post (PM := PM) (base := 0) (P := 0) (n := 0) (K2 := K) HG1.out k6 h6).1
        clear h6 p6 k6 GO
        have GL := Lib.hid (HI.out.list 0 P6.out (by omega) Z6.out (by omega))
        change Hid (Calls _ _ #[_, .int .i64 0] _ _) at GL
        rw [E0.out] at GL
        go_wp2_with fail
        refine (GL.out).mono ?_
        rintro e y7 ⟨v7, rfl, nl, k4⟩
        have P7 := Lib.hid (HI.out.below P6.out k4)
        have Z7 := Lib.hid (Nat.le_trans Z6.out k4.size)
        have K7 := Lib.hid (bthen K6.out k4)
        have NL7 := Lib.hid nl
        have F7 := Lib.hid (F6.out.below k4)
        have U7 := Lib.hid (U6.out.below k4)
        clear nl k4 GL
        have GI := Lib.hid (ints12_any _ NL7.out F7.out)
        go_wp2_with fail
        refine (GI.out).mono ?_
        rintro e y8 ⟨rfl, k4⟩
        have P8 := Lib.hid (HI.out.below P7.out k4)
        have Z8 := Lib.hid (Nat.le_trans Z7.out k4.size)
        have K8 := Lib.hid (bthen K7.out k4)
        have U8 := Lib.hid (U7.out.below k4)
        clear k4 GI
        have GL := Lib.hid (HI.out.list 1 P8.out (by omega) Z8.out (by omega))
        change Hid (Calls _ _ #[_, .int .i64 1] _ _) at GL
        rw [E1.out] at GL
        go_wp2_with fail
        refine (GL.out).mono ?_
        rintro e y9 ⟨v9, rfl, nl, k4⟩
        have P9 := Lib.hid (HI.out.below P8.out k4)
        have Z9 := Lib.hid (Nat.le_trans Z8.out k4.size)
        have K9 := Lib.hid (bthen K8.out k4)
        have NL9 := Lib.hid nl
        have U9 := Lib.hid (U8.out.below k4)
        clear nl k4 GL
        have GI := Lib.hid (ints12_any _ NL9.out U9.out)
        go_wp2_with fail
        refine (GI.out).mono ?_
        rintro e y10 ⟨rfl, k4⟩
        have P10 := Lib.hid (HI.out.below P9.out k4)
        have Z10 := Lib.hid (Nat.le_trans Z9.out k4.size)
        have K10 := Lib.hid (bthen K9.out k4)
        clear k4 GI
        have GL := Lib.hid (HI.out.list 2 P10.out (by omega) Z10.out (by omega))
        change Hid (Calls _ _ #[_, .int .i64 2] _ _) at GL
        rw [E2.out] at GL
        go_wp2_with fail
        refine (GL.out).mono ?_
        rintro e y11 ⟨v11, rfl, nl, k4⟩
        have P11 := Lib.hid (HI.out.below P10.out k4)
        have Z11 := Lib.hid (Nat.le_trans Z10.out k4.size)
        have K11 := Lib.hid (bthen K10.out k4)
        have NL11 := Lib.hid nl
        clear nl k4 GL
        obtain ⟨a11, c11, hv11, _⟩ := NL11.out.sl
        change v11 = .slice a11 0 c11 at hv11
        subst hv11
        have GL := Lib.hid (HI.out.list 3 P11.out (by omega) Z11.out (by omega))
        change Hid (Calls _ _ #[_, .int .i64 3] _ _) at GL
        rw [E3.out] at GL
        go_wp2_with fail
        refine (GL.out).mono ?_
        rintro e y12 ⟨v12, rfl, nl, k4⟩
        have P12 := Lib.hid (HI.out.below P11.out k4)
        have Z12 := Lib.hid (Nat.le_trans Z11.out k4.size)
        have K12 := Lib.hid (bthen K11.out k4)
        have NL12 := Lib.hid nl
        clear nl k4 GL
        obtain ⟨a12, c12, hv12, _⟩ := NL12.out.sl
        change v12 = .slice a12 0 c12 at hv12
        subst hv12
        go_wp2_with fail
        go_ret
        exact ⟨rfl, K12.out⟩
      · have e1 : decide ((j : Int) < (n2 : Int)) = false := by simp; omega
        clear hl
        have GO := Lib.hid (HI.out.abort HP.out (by omega) HZ.out)
        have AB := Lib.hid (HS.out.abort H01.out)
        have E0 : Hid (listF (turnF K 0 1) 0 12 = listF K0 0 12) := Lib.hid (listF_ext fun i hi => by rw [AB.out i hi])
        have E1 : Hid (listF (turnF K 0 1) 1 12 = listF K0 1 12) := Lib.hid (listF_ext fun i hi => by rw [AB.out i hi])
        have E2 : Hid (listF (turnF K 0 1) 2 12 = []) := Lib.hid (listF_nil fun i hi => by rw [AB.out i hi]; rcases H01.out i hi with h | h <;> omega)
        have E3 : Hid (listF (turnF K 0 1) 3 12 = []) := Lib.hid (listF_nil fun i hi => by rw [AB.out i hi]; rcases H01.out i hi with h | h <;> omega)
        have NB : Hid (∀ k, S k = true → W.heap.size ≤ k) := Lib.hid (fun k hk => (HI.out.lo HP.out k hk).1)
        go_wp2_with fail
        refine (GO.out).mono ?_
        rintro e y6 ⟨rfl, S6, h6, p6, k6⟩
        have P6 := Lib.hid p6
        have Z6 := Lib.hid (Nat.le_trans HZ.out k6.size)
        have K6 := Lib.hid (HK.out.trans (k6.bot HZ.out fun q hq => by
          cases c : S q with
          | false => rfl
          | true => have := NB.out q c; omega))
        have F6 := Lib.hid (HN0.out.post (PM := PM) (base := 0) (P := 0) (n := 0) (K2 := K) HG0.out k6 h6).1
        have U6 := Lib.hid (HN1.out.post (PM := PM) (base := 0) (P := 0) (n := 0) (K2 := K) HG1.out k6 h6).1
        clear h6 p6 k6 GO
        have GL := Lib.hid (HI.out.list 0 P6.out (by omega) Z6.out (by omega))
        change Hid (Calls _ _ #[_, .int .i64 0] _ _) at GL
        rw [E0.out] at GL
        go_wp2_with fail
        refine (GL.out).mono ?_
        rintro e y7 ⟨v7, rfl, nl, k4⟩
        have P7 := Lib.hid (HI.out.below P6.out k4)
        have Z7 := Lib.hid (Nat.le_trans Z6.out k4.size)
        have K7 := Lib.hid (bthen K6.out k4)
        have NL7 := Lib.hid nl
        have F7 := Lib.hid (F6.out.below k4)
        have U7 := Lib.hid (U6.out.below k4)
        clear nl k4 GL
        have GI := Lib.hid (ints12_any _ NL7.out F7.out)
        go_wp2_with fail
        refine (GI.out).mono ?_
        rintro e y8 ⟨rfl, k4⟩
        have P8 := Lib.hid (HI.out.below P7.out k4)
        have Z8 := Lib.hid (Nat.le_trans Z7.out k4.size)
        have K8 := Lib.hid (bthen K7.out k4)
        have U8 := Lib.hid (U7.out.below k4)
        clear k4 GI
        have GL := Lib.hid (HI.out.list 1 P8.out (by omega) Z8.out (by omega))
        change Hid (Calls _ _ #[_, .int .i64 1] _ _) at GL
        rw [E1.out] at GL
        go_wp2_with fail
        refine (GL.out).mono ?_
        rintro e y9 ⟨v9, rfl, nl, k4⟩
        have P9 := Lib.hid (HI.out.below P8.out k4)
        have Z9 := Lib.hid (Nat.le_trans Z8.out k4.size)
        have K9 := Lib.hid (bthen K8.out k4)
        have NL9 := Lib.hid nl
        have U9 := Lib.hid (U8.out.below k4)
        clear nl k4 GL
        have GI := Lib.hid (ints12_any _ NL9.out U9.out)
        go_wp2_with fail
        refine (GI.out).mono ?_
        rintro e y10 ⟨rfl, k4⟩
        have P10 := Lib.hid (HI.out.below P9.out k4)
        have Z10 := Lib.hid (Nat.le_trans Z9.out k4.size)
        have K10 := Lib.hid (bthen K9.out k4)
        clear k4 GI
        have GL := Lib.hid (HI.out.list 2 P10.out (by omega) Z10.out (by omega))
        change Hid (Calls _ _ #[_, .int .i64 2] _ _) at GL
        rw [E2.out] at GL
        go_wp2_with fail
        refine (GL.out).mono ?_
        rintro e y11 ⟨v11, rfl, nl, k4⟩
        have P11 := Lib.hid (HI.out.below P10.out k4)
        have Z11 := Lib.hid (Nat.le_trans Z10.out k4.size)
        have K11 := Lib.hid (bthen K10.out k4)
        have NL11 := Lib.hid nl
        clear nl k4 GL
        obtain ⟨a11, c11, hv11, _⟩ := NL11.out.sl
        change v11 = .slice a11 0 c11 at hv11
        subst hv11
        have GL := Lib.hid (HI.out.list 3 P11.out (by omega) Z11.out (by omega))
        change Hid (Calls _ _ #[_, .int .i64 3] _ _) at GL
        rw [E3.out] at GL
        go_wp2_with fail
        refine (GL.out).mono ?_
        rintro e y12 ⟨v12, rfl, nl, k4⟩
        have P12 := Lib.hid (HI.out.below P11.out k4)
        have Z12 := Lib.hid (Nat.le_trans Z11.out k4.size)
        have K12 := Lib.hid (bthen K11.out k4)
        have NL12 := Lib.hid nl
        clear nl k4 GL
        obtain ⟨a12, c12, hv12, _⟩ := NL12.out.sl
        change v12 = .slice a12 0 c12 at hv12
        subst hv12
        go_wp2_with fail
        go_ret
        exact ⟨rfl, K12.out⟩
end

end Go.Proofs.Ytbjmdejnipleoaa
