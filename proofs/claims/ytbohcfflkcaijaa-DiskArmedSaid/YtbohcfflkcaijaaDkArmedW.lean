/- The walk of the law DiskArmed: a disk goes down at just the call that it was armed for. -/
import Derived.Test.YtbohcfflkcaijaaDkLaw1
namespace Go.Proofs.Ytbohcfflkcaijaa
open Go.RowKit Go.Deep Go.Maps
set_option linter.unusedVariables false
set_option linter.unusedSimpArgs false
set_option maxRecDepth 100000

def sX : ByteArray := ⟨#[120]⟩
/-- armed with k, and written j times -/
def aD (k : Nat) : Nat → Dk
  | 0 => armD (newD 9) (k : Int)
  | j + 1 => writeD (aD k j) ((j + 1 : Nat) : Int) sX
theorem ar_0 : ∀ k : Nat, k < 7 → 1 ≤ k → armE (newD 9) (k : Int) = 0 := by decide +kernel
theorem ar_1 : ∀ k, k < 7 → ∀ j, j < 6 → 1 ≤ k → j + 1 < k → writeE (aD k j) ((j + 1 : Nat) : Int) = 0 ∧ (aD k (j + 1)).down = false := by decide +kernel
theorem ar_2 : ∀ k, k < 7 → 1 ≤ k → syncE (aD k (k - 1)) = 13 ∧ (syncD (aD k (k - 1))).down = true ∧ looseN (syncD (aD k (k - 1))).is (syncD (aD k (k - 1))).n = k - 1 ∧ (syncD (aD k (k - 1))).calls = k ∧ (syncD (aD k (k - 1))).n = 9 := by decide +kernel
theorem ar_3 : ∀ k, k < 7 → ∀ j, j < 6 → (aD k j).n = 9 ∧ (aD k j).calls ≤ 1000 ∧ (aD k j).arm ≤ 1000 ∧ (syncD (aD k j)).arm ≤ 1000 := by decide +kernel
theorem ar_bd {k j : Nat} (hk : k < 7) (hj : j < 6) : BdD (aD k j) := by
  obtain ⟨h1, h2, h3, _⟩ := ar_3 k hk j hj
  exact ⟨by omega, by omega, by omega⟩
theorem dn_all {d : Dk} (h : d.down = true) (i : Int) (s : ByteArray) : readE d i = 13 ∧ writeE d i = 13 ∧ syncE d = 13 ∧ armE d i = 13 ∧ readS d i = ByteArray.empty ∧ writeD d i s = d ∧ syncD d = d ∧ armD d i = d := by
  simp [readE, writeE, syncE, armE, readS, writeD, syncD, armD, h]
set_option maxHeartbeats 6400000 in
theorem diskArmed_walk (x : Int) (a : Ac) (v : Value) (W : World) (hx : (Lit.int .u8 x).wf = true) (ha : AcAt W.heap.size a v W) : Calls Try.prog 7 #[.int .u8 x, .agg (acV a v).toArray] W fun e w' => e = .returned (.bool true) ∧ Below W.heap.size W w' := by
  obtain ⟨kind, i, s, keep, t, b⟩ := a
  have hx2 : 0 ≤ x ∧ x ≤ 255 := by
    simp only [Lit.wf, IntKind.min, IntKind.max, IntKind.signed, IntKind.bits, Bool.and_eq_true, decide_eq_true_eq] at hx
    simp at hx
    omega
  obtain ⟨k, hk⟩ : ∃ k : Nat, (k : Int) = x % 6 + 1 := ⟨(x % 6 + 1).toNat, by omega⟩
  have hk1 : 1 ≤ k ∧ k < 7 := by omega
  change Calls _ _ #[_, .agg #[.int .i64 kind, .int .i64 i, .string s, v, .int .i64 t, .int .i64 b]] _ _
  have X1 := Lib.hid (heap_alloc_new W (.cells #[.int .i64 kind, .int .i64 i, .string s, v, .int .i64 t, .int .i64 b] 49))
  have B1 := Lib.hid (balloc W (.cells #[.int .i64 kind, .int .i64 i, .string s, v, .int .i64 t, .int .i64 b] 49))
  have A1 := Lib.hid ha.c
  have HA : Hid (∀ w, Calls Try.prog 10 #[] w fun r u' => r = .returned (.bool true) ∧ Below w.heap.size w u') := Lib.hid fun w => awake_any w
  have HK := Lib.hid hk1
  have HKX := Lib.hid hk
  obtain ⟨C, hC⟩ : ∃ C, C = W.heap.size := ⟨_, rfl⟩
  rw [← hC] at X1
  clear ha hx hk1
  go_enter Try.func7, Try.ntmps7
  go_upto_region 1 with fail
  rw [← hC]
  clear hC
  generalize W.alloc (.cells #[.int .i64 kind, .int .i64 i, .string s, v, .int .i64 t, .int .i64 b] 49) = w1 at *
  have H := Lib.hid (pnew_any 9 (by omega) (by omega) w1)
  go_wp2_with fail
  refine (H.out).mono ?_
  rintro e w2 ⟨P, bS, bm, cS, rfl, p2, k2⟩
  have P2 := Lib.hid (p2.mono (base2 := W.heap.size) B1.out.size)
  have K2 := Lib.hid (bthen B1.out k2)
  have X2 := Lib.hid ((k2.block _ (lt_of_block X1.out)).trans X1.out)
  clear p2 k2 H X1
  go_wp2_with fail
  rw [← HKX.out]
  clear hk hx2
  have G := Lib.hid (parm_any P2.out (k : Int))
  rw [ar_0 k HK.out.2 HK.out.1] at G
  refine (G.out).mono ?_
  rintro e w3 ⟨rfl, p3, k3⟩
  change PDk _ _ _ _ _ (aD k 0) w3 at p3
  have P3' := Lib.hid p3
  have SZ3 := Lib.hid (Nat.le_trans K2.out.size k3.size)
  have NP : Hid (P3 P bS bm C = false) := Lib.hid (P3.no (by have := P2.out.lt; have := (Lib.cell_of_heap X2.out 0); rintro rfl; have h1 := P2.out.box; rw [X2.out] at h1; simp only [Option.some.injEq, Obj.cells.injEq] at h1; exact absurd h1.2.1 (by decide)) (by rintro rfl; obtain ⟨_, h1⟩ := P2.out.row.b; rw [X2.out] at h1; simp only [Option.some.injEq, Obj.cells.injEq] at h1; exact absurd h1.2.1 (by decide)) (by rintro rfl; obtain ⟨_, _, h1⟩ := P2.out.mp.blk; rw [X2.out] at h1; cases h1))
  have K3 := Lib.hid (K2.out.trans (P2.out.bot k3 K2.out.size))
  have X3 := Lib.hid ((k3.blk (lt_of_block X2.out) NP.out).trans X2.out)
  clear p3 k3 G P2 K2 X2
  go_wp2_with fail
  refine (HA.out _).mono ?_
  rintro e w4 ⟨rfl, hb4⟩
  have P4 := Lib.hid (P3'.out.below hb4)
  have K4 := Lib.hid (bthen K3.out hb4)
  have X4 := Lib.hid ((hb4.block _ (lt_of_block X3.out)).trans X3.out)
  clear hb4 P3' K3 X3 SZ3
  go_wp2_with fail
  go_loopw [8] (fun i wr => ∃ j : Nat, j + 1 ≤ k ∧ i = .int .i64 ((j + 1 : Nat) : Int) ∧ PDk W.heap.size P bS bm cS (aD k j) wr ∧ wr.heap[C]? = w4.heap[C]? ∧ Below W.heap.size W wr) (fun i _ => k - (intOf i).toNat)
  case atStart => exact ⟨0, HK.out.1, rfl, P4.out, rfl, K4.out⟩
  case round =>
    obtain ⟨j, hj, rfl, hp, hxc, hb⟩ := hrel
    have HP := Lib.hid hp
    have HXC := Lib.hid hxc
    have HB := Lib.hid hb
    clear hp hxc hb
    have hj6 : j < 6 := by have := HK.out; omega
    by_cases hlt : j + 1 < k
    · have HJ := Lib.hid hlt
      have d1 : decide (((j + 1 : Nat) : Int) < (k : Int)) = true := by simp only [decide_eq_true_eq]; omega
      have hl2 : ((j + 1 : Nat) : Int) < (k : Int) := by omega
      have ha := ar_1 k HK.out.2 j hj6 HK.out.1 hlt
      have G := Lib.hid (pwrite_any HP.out (ar_bd HK.out.2 hj6) ((j + 1 : Nat) : Int) sX)
      rw [ha.1] at G
      have HD := Lib.hid ha.2
      unfold sX at G
      have ej : ((j + 1 : Nat) : Int) + 1 = ((j + 1 + 1 : Nat) : Int) := by omega
      generalize hq : ((j + 1 : Nat) : Int) = q at *
      have hq9 : q ≤ 100 ∧ 0 ≤ q := by omega
      have EJ := Lib.hid ej
      have HQ := Lib.hid hq
      clear ha ej hq
      go_wp2_with fail
      refine (G.out).mono ?_
      rintro e w5 ⟨rfl, p5, k5⟩
      have p5' : PDk W.heap.size P bS bm cS (aD k (j + 1)) w5 := by
        show PDk W.heap.size P bS bm cS (writeD (aD k j) ((j + 1 : Nat) : Int) sX) w5
        rw [HQ.out]
        exact p5
      have P5 := Lib.hid p5'
      have G5 := Lib.hid (pdown_any P5.out)
      rw [HD.out] at G5
      have K5 := Lib.hid (HB.out.trans (HP.out.bot k5 HB.out.size))
      have X5 := Lib.hid ((k5.blk (lt_of_block (HXC.out.trans X4.out)) NP.out).trans HXC.out)
      clear p5 p5' k5 G
      go_wp2_with fail
      refine (G5.out).mono ?_
      rintro e w6 ⟨rfl, rfl⟩
      go_wp2_with fail
      go_roundw
      case rel => exact ⟨j + 1, HJ.out, by rw [EJ.out], P5.out, X5.out, K5.out⟩
      case measure => have := HJ.out; have := HQ.out; simp [intOf]; omega
    · obtain rfl : k = j + 1 := by omega
      have d1 : decide (((j + 1 : Nat) : Int) < ((j + 1 : Nat) : Int)) = false := by simp
      obtain ⟨s1, s2, s3, s4, s5⟩ := ar_2 (j + 1) HK.out.2 HK.out.1
      rw [Nat.add_sub_cancel] at s1 s2 s3 s4 s5
      have G := Lib.hid (psync_any HP.out (ar_bd HK.out.2 hj6))
      rw [s1] at G
      obtain ⟨D, hD⟩ : ∃ D, D = syncD (aD (j + 1) j) := ⟨_, rfl⟩
      rw [← hD] at s2 s3 s4 s5 G
      have S6 := Lib.hid (show D.arm ≤ 1000 by rw [hD]; exact (ar_3 (j + 1) HK.out.2 j hj6).2.2.2)
      have X9 := Lib.hid (HXC.out.trans X4.out)
      have S2 := Lib.hid s2
      have S3 := Lib.hid s3
      have S4 := Lib.hid s4
      have S5 := Lib.hid s5
      have ej : ((j + 1 : Nat) : Int) - 1 = (j : Int) := by omega
      generalize hq : ((j + 1 : Nat) : Int) = q at *
      have hq9 : q ≤ 100 ∧ 0 ≤ q := by omega
      clear s1 s2 s3 s4 s5 hD
      go_wp2_with fail
      refine (G.out).mono ?_
      rintro e w5 ⟨rfl, ⟨bm5, hlt5, p5⟩, k5⟩
      have P5 := Lib.hid p5
      have K5 := Lib.hid (HB.out.trans (HP.out.bot k5 HB.out.size))
      have X5 := Lib.hid ((k5.blk (lt_of_block X9.out) NP.out).trans X9.out)
      have G5 := Lib.hid (pdown_any P5.out)
      rw [S2.out] at G5
      have G6 := Lib.hid (ploose_any P5.out)
      rw [S3.out] at G6
      have G7 := Lib.hid (pread_any P5.out (by rw [S5.out]; omega) 0)
      rw [(dn_all S2.out 0 s).2.2.2.2.1, (dn_all S2.out 0 s).1] at G7
      have HBD : Hid (BdD D) := Lib.hid ⟨by rw [S5.out]; omega, by rw [S4.out]; omega, by have := S6.out; omega⟩
      have G8 := Lib.hid (pwrite_any P5.out HBD.out i s)
      rw [(dn_all S2.out i s).2.1, (dn_all S2.out i s).2.2.2.2.2.1] at G8
      clear p5 k5 G hlt5 HP
      go_wp2_with fail
      refine (G5.out).mono ?_
      rintro e w6 ⟨rfl, rfl⟩
      go_wp2_with fail
      refine (G6.out).mono ?_
      rintro e w7 ⟨rfl, rfl⟩
      go_wp2_with fail
      refine (G7.out).mono ?_
      rintro e w8 ⟨rfl, rfl⟩
      have x1 : w8.cell? ⟨C, 1, none⟩ = some (.int .i64 i) := by rw [Lib.cell_of_heap X5.out]; rfl
      have x2 : w8.cell? ⟨C, 2, none⟩ = some (.string s) := by rw [Lib.cell_of_heap X5.out]; rfl
      go_wp2_with fail
      refine (G8.out).mono ?_
      rintro e w9 ⟨rfl, p9, k9⟩
      have P9 := Lib.hid p9
      have K9 := Lib.hid (K5.out.trans (P5.out.bot k9 K5.out.size))
      have N9 : Hid (P3 P bS bm5 C = false) := Lib.hid (P3.no (by rintro rfl; have h1 := P5.out.box; rw [X5.out] at h1; simp only [Option.some.injEq, Obj.cells.injEq] at h1; exact absurd h1.2.1 (by decide)) (by rintro rfl; obtain ⟨_, h1⟩ := P5.out.row.b; rw [X5.out] at h1; simp only [Option.some.injEq, Obj.cells.injEq] at h1; exact absurd h1.2.1 (by decide)) (by rintro rfl; obtain ⟨_, _, h1⟩ := P5.out.mp.blk; rw [X5.out] at h1; cases h1))
      have X9 := Lib.hid ((k9.blk (lt_of_block X5.out) N9.out).trans X5.out)
      have G9 := Lib.hid (psync_any P9.out HBD.out)
      rw [(dn_all S2.out i s).2.2.1, (dn_all S2.out i s).2.2.2.2.2.2.1] at G9
      clear p9 k9 G8 G7 G6 G5 x1 x2
      go_wp2_with fail
      refine (G9.out).mono ?_
      rintro e w10 ⟨rfl, ⟨bm10, hlt10, p10⟩, k10⟩
      have P10 := Lib.hid p10
      have K10 := Lib.hid (K9.out.trans (P9.out.bot k10 K9.out.size))
      have X10 := Lib.hid ((k10.blk (lt_of_block X9.out) N9.out).trans X9.out)
      have N10 : Hid (P3 P bS bm10 C = false) := Lib.hid (P3.no (by rintro rfl; have h1 := P10.out.box; rw [X10.out] at h1; simp only [Option.some.injEq, Obj.cells.injEq] at h1; exact absurd h1.2.1 (by decide)) (by rintro rfl; obtain ⟨_, h1⟩ := P10.out.row.b; rw [X10.out] at h1; simp only [Option.some.injEq, Obj.cells.injEq] at h1; exact absurd h1.2.1 (by decide)) (by rintro rfl; obtain ⟨_, _, h1⟩ := P10.out.mp.blk; rw [X10.out] at h1; cases h1))
      have G10 := Lib.hid (parm_any P10.out i)
      rw [(dn_all S2.out i s).2.2.2.1, (dn_all S2.out i s).2.2.2.2.2.2.2] at G10
      have x1 : w10.cell? ⟨C, 1, none⟩ = some (.int .i64 i) := by rw [Lib.cell_of_heap X10.out]; rfl
      clear p10 k10 G9 hlt10
      go_wp2_with fail
      refine (G10.out).mono ?_
      rintro e w11 ⟨rfl, p11, k11⟩
      have P11 := Lib.hid p11
      have K11 := Lib.hid (K10.out.trans (P10.out.bot k11 K10.out.size))
      have X11 := Lib.hid ((k11.blk (lt_of_block X10.out) N10.out).trans X10.out)
      have G11 := Lib.hid (pcalls_any P11.out)
      rw [S4.out, hq] at G11
      clear p11 k11 G10 x1
      go_wp2_with fail
      refine (G11.out).mono ?_
      rintro e w12 ⟨rfl, rfl⟩
      have x3 : w12.cell? ⟨C, 3, none⟩ = some v := by rw [Lib.cell_of_heap X11.out]; rfl
      have x4 : w12.cell? ⟨C, 4, none⟩ = some (.int .i64 t) := by rw [Lib.cell_of_heap X11.out]; rfl
      have x5 : w12.cell? ⟨C, 5, none⟩ = some (.int .i64 b) := by rw [Lib.cell_of_heap X11.out]; rfl
      have G12 := Lib.hid (pcrash_any P11.out HBD.out.n K11.out.size (A1.out.below K11.out))
      go_wp2_with fail
      refine (G12.out).mono ?_
      rintro e w13 ⟨rfl, ⟨bm13, hlt13, p13⟩, k13⟩
      have P13 := Lib.hid p13
      have K13 := Lib.hid (K11.out.trans (P11.out.bot k13 K11.out.size))
      have G13 := Lib.hid (pdown_any P13.out)
      have G14 := Lib.hid (ploose_any P13.out)
      rw [looseN_none (is := (crashD D keep t b).is) (fun _ => rfl)] at G14
      change Hid (Calls _ _ _ _ fun r u' => r = .returned (.bool false) ∧ u' = w13) at G13
      clear p13 k13 hlt13 x3 x4 x5
      go_wp2_with fail
      refine (G13.out).mono ?_
      rintro e w14 ⟨rfl, rfl⟩
      go_wp2_with fail
      refine (G14.out).mono ?_
      rintro e w15 ⟨rfl, rfl⟩
      go_wp2_with fail
      go_ret
      exact ⟨rfl, K13.out⟩

end Go.Proofs.Ytbohcfflkcaijaa
