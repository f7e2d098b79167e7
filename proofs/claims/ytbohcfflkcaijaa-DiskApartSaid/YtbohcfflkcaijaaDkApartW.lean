/- The walk of the law DiskApart: a write changes no other sector. -/
import Derived.Test.YtbohcfflkcaijaaDkLaw1
import Derived.Deep.DeepCutAuto
namespace Go.Proofs.Ytbohcfflkcaijaa
open Go.RowKit Go.Deep Go.Maps
set_option linter.unusedVariables false
set_option linter.unusedSimpArgs false
set_option maxRecDepth 100000

theorem write_now {d : Dk} (i : Int) (s : ByteArray) (k : Nat) : nowD (writeD d i s) k = if d.down = false ∧ i = (k : Int) ∧ k < d.n then byD s else nowD d k := by
  have hc : ∀ x : Dk, nowD (countD x) k = nowD x k := fun x => by unfold countD; split <;> rfl
  unfold writeD
  cases hd : d.down with
  | true => simp
  | false =>
    rw [if_neg (by decide)]
    by_cases h : i < 0 ∨ (d.n : Int) ≤ i
    · rw [if_pos h, if_neg (by omega)]
    · rw [if_neg h, hc]
      by_cases e : i = (k : Int)
      · rw [if_pos ⟨rfl, e, by omega⟩]
        subst e
        simp [nowD, upd]
      · rw [if_neg (by simp [e])]
        have : k ≠ i.toNat := by omega
        simp [nowD, upd, this]
theorem write_down {d : Dk} (i : Int) (s : ByteArray) (h : (writeD d i s).down = false) : d.down = false := by
  cases hd : d.down with
  | false => rfl
  | true =>
    unfold writeD at h
    rw [if_pos hd, hd] at h
    cases h
set_option maxHeartbeats 6400000 in
theorem diskApart_walk (n : Nat) (A : Nat → Ac) (g : Nat → Value) (ao : Option Addr) (cap : Nat) (i : Int) (s : ByteArray) (W : World) (ha : AcsAt W.heap.size n A g ao cap W) (hi : (Lit.int .i64 i).wf = true) (hs : s.size ≤ maxLen) :
    Calls Try.prog 5 #[.slice ao n cap, .int .i64 i, .string s] W fun e w' => e = .returned (.bool true) ∧ Below W.heap.size W w' := by
  have H := Lib.hid (made_any (Nat.le_refl _) ha 6 ⟨by omega, by omega⟩)
  have HA : Hid (∀ w, Calls Try.prog 10 #[] w fun r u' => r = .returned (.bool true) ∧ Below w.heap.size w u') := Lib.hid fun w => awake_any w
  have hib := i64_bd hi
  unfold maxLen at hs
  clear ha hi
  go_enter Try.func5, Try.ntmps5
  go_wp2_with fail
  refine (H.out).mono ?_
  rintro e w1 ⟨P, bS, bm, cS, Q, b1, b2, b3, c1, c2, c3, d, rfl, hb1, hn, hcalls, harm, k1⟩
  have HB1 := Lib.hid hb1
  have K1 := Lib.hid k1
  have HN := Lib.hid hn
  have HC := Lib.hid hcalls
  have HR := Lib.hid harm
  clear hb1 k1 hn hcalls harm H
  go_wp2_with fail
  refine (HA.out _).mono ?_
  rintro e w2 ⟨rfl, k2⟩
  have HB2 := Lib.hid (HB1.out.below k2)
  have K2 := Lib.hid (K1.out.trans (k2.mono K1.out.size))
  clear k2 HB1 K1
  by_cases h5 : 500 < s.size
  · have d1 : decide (500 < (s.size : Int)) = true := by simp; omega
    go_wp2_with fail
    refine (HA.out _).mono ?_
    rintro e w3 ⟨rfl, k3⟩
    have K3 := Lib.hid (K2.out.trans (k3.mono K2.out.size))
    clear k3
    go_wp2_with fail
    go_ret
    exact ⟨rfl, K3.out⟩
  · have d1 : decide (500 < (s.size : Int)) = false := by simp; omega
    have BD : Hid (BdD d) := Lib.hid (bd_of HB2.out.ok HC.out (by omega) HR.out)
    have G := Lib.hid (pwrite_any HB2.out.p BD.out i s)
    have HS : Hid (s.size ≤ 1000000) := Lib.hid (by omega)
    go_wp2_with fail
    refine (G.out).mono ?_
    rintro e w3 ⟨rfl, p3, k3⟩
    have P3' := Lib.hid p3
    have K23 := Lib.hid k3
    have N3 := Lib.hid (HB2.out.next p3 k3)
    clear p3 k3 G
    have GRX := Lib.hid (rwrite_any (N3.out.1.below (bdrew w3)) BD.out i s HS.out)
    generalize writeE d i = er at *
    go_upto_region 5 with fail
    refine wp_region_held_drew (S := (fun _ => True)) (by kernel_rfl) trivial (fun hHeld => ?_)
    have B0 := Lib.hid (bdrew w3)
    have P3d := Lib.hid (P3'.out.below B0.out)
    have N3d := Lib.hid (N3.out.1.below B0.out)
    have GRd : Hid (Calls Try.prog 20 #[.pointer (some ⟨Q, 0, none⟩), .int .i64 i, .string s] (World.drew w3) fun r u' => r = .returned (.int .i64 er) ∧ RDk W.heap.size Q b1 b2 b3 c1 c2 c3 (writeD d i s) u' ∧ KpS (R4 Q b1 b2 b3) (World.drew w3) u') := GRX.out
    have K3d := Lib.hid (K23.out.on B0.out)
    change wpAnyH _ _ _ _ _ _ _ _ (World.drew w3)
    clear GRX
    generalize World.drew w3 = w9 at *
    first | refine tq0 0 rfl ?_ | refine tq1 0 rfl ?_
    try go_frame
    first | refine tq0 1 rfl ?_ | refine tq1 1 rfl ?_
    try go_frame
    first | refine tq0 2 rfl ?_ | refine tq1 2 rfl ?_
    try go_frame
    first | refine tq0 3 rfl ?_ | refine tq1 3 rfl ?_
    try go_frame
    refine wpAnyH_ready (rs := [4]) (by kernel_rfl) (by simp) ?_
    refine AllReadyH.cons (o := ⟨_, _, _, _, _, _⟩) rfl (fun K hK => ?_) AllReadyH.nil
    go_simp
    refine (GRd.out).mono ?_
    rintro e w4 ⟨rfl, hr4, k4⟩
    have F4 := Lib.hid (HB2.out.last P3d.out K3d.out hr4 k4 (HB2.out.ok.write i s))
    clear hr4 k4
    refine hK.out _ _ trivial (fun hHeld => ?_)
    clear hK K
    try simp only [Act.put, List.setIfInBounds_toArray, List.set_cons_zero, List.set_cons_succ]
    obtain ⟨D, hD⟩ : ∃ D, D = writeD d i s := ⟨_, rfl⟩
    rw [← hD] at F4
    have HD := Lib.hid hD
    clear hD
    have G8 := Lib.hid (pdown_any F4.out.1.p)
    have c5 := F4.out.1.r.cells.2.2.2.2.2.1
    first | refine tq0 5 rfl ?_ | refine tq1 5 rfl ?_
    try go_frame
    first | refine tq0 6 rfl ?_ | refine tq1 6 rfl ?_
    try go_frame
    first | refine tq0 7 rfl ?_ | refine tq1 7 rfl ?_
    try go_frame
    first | refine tq0 9 rfl ?_ | refine tq1 9 rfl ?_
    try go_frame
    first | refine tq0 10 rfl ?_ | refine tq1 10 rfl ?_
    try go_frame
    first | refine tq0 11 rfl ?_ | refine tq1 11 rfl ?_
    try go_frame
    refine wpAnyH_ready (rs := [8, 12]) (by kernel_rfl) (by simp) ?_
    refine AllReadyH.cons (o := ⟨_, _, _, _, _, _⟩) rfl (fun K hK => ?_) (AllReadyH.cons (o := ⟨_, _, _, _, _, _⟩) rfl (fun K hK => ?_) AllReadyH.nil)
    · go_simp
      refine (G8.out).mono ?_
      rintro e w5 ⟨rfl, rfl⟩
      refine hK.out _ _ trivial (fun hHeld => ?_)
      clear hK K
      try simp only [Act.put, List.setIfInBounds_toArray, List.set_cons_zero, List.set_cons_succ]
      refine wpAnyH_ready (rs := [12]) (by kernel_rfl) (by simp) ?_
      refine AllReadyH.cons (o := ⟨_, _, _, _, _, _⟩) rfl (fun K hK => ?_) AllReadyH.nil
      go_simp
      refine hK.out _ _ trivial (fun hHeld => ?_)
      clear hK K
      try simp only [Act.put, List.setIfInBounds_toArray, List.set_cons_zero, List.set_cons_succ]
      first | refine tq0 13 rfl ?_ | refine tq1 13 rfl ?_
      try go_frame
      first | refine tq0 14 rfl ?_ | refine tq1 14 rfl ?_
      try go_frame
      refine wpAnyH_done (by kernel_rfl) ?_ _
      clear hHeld
      have K5 := Lib.hid (K2.out.trans F4.out.2)
      have B5 := Lib.hid F4.out.1
      have DN : Hid (D.n = 6) := Lib.hid (by rw [HD.out, write_n]; exact HN.out)
      clear c5 G8 F4 GRd
      go_wp2_with fail
      go_loopw [11] (fun iv wr => ∃ j : Nat, j ≤ 6 ∧ iv = .int .i64 j ∧ Both W.heap.size P bS bm cS Q b1 b2 b3 c1 c2 c3 D wr ∧ Below W.heap.size W wr) (fun iv _ => 6 - (intOf iv).toNat)
      case atStart => exact ⟨0, by omega, rfl, B5.out, K5.out⟩
      case round =>
        obtain ⟨j, hj, rfl, hb, hk⟩ := hrel
        have HBJ := Lib.hid hb
        have KJ := Lib.hid hk
        have c5 := hb.r.cells.2.2.2.2.2.1
        clear hb hk
        have hj0 : (0 : Int) ≤ (j : Int) := by omega
        cases hdn : D.down with
        | true =>
          rw [hdn] at c5
          by_cases h6 : j < 6
          · have e1 : decide ((j : Int) < 6) = true := by simp; omega
            go_wp2_with fail
            go_ret
            exact ⟨rfl, KJ.out⟩
          · have e1 : decide ((j : Int) < 6) = false := by simp; omega
            go_wp2_with fail
            go_ret
            exact ⟨rfl, KJ.out⟩
        | false =>
          rw [hdn] at c5
          by_cases h6 : j < 6
          · have e1 : decide ((j : Int) < 6) = true := by simp; omega
            have hj6 : (j : Int) < 6 := by omega
            have GD := Lib.hid (pread_any HBJ.out.p (by rw [DN.out]; omega) (j : Int))
            have er : readE D (j : Int) = 0 := by unfold readE; rw [if_neg (by rw [hdn]; decide), if_neg (by rw [DN.out]; omega)]
            have es : readS D (j : Int) = sec (nowD D j) := by unfold readS; rw [if_neg (by rw [hdn]; decide), if_neg (by rw [DN.out]; omega), Int.toNat_natCast]
            have GN := Lib.hid (rnow_any HBJ.out.r j (by rw [DN.out]; exact h6) (by rw [DN.out]; omega))
            rw [er, es] at GD
            have dd : d.down = false := write_down i s (by rw [← HD.out]; exact hdn)
            have WN : Hid (i = (j : Int) → sec (nowD D j) = sec (byD s)) := Lib.hid fun e => by rw [HD.out, write_now, if_pos ⟨dd, e, by rw [HN.out]; exact h6⟩]
            have GF : Hid (∀ w, Calls Try.prog 22 #[.string s] w fun r u' => r = .returned (.string (sec (byD s))) ∧ Below w.heap.size w u') := Lib.hid fun w => rfill_any s HS.out w
            clear er es dd
            obtain ⟨sn, hsn⟩ : ∃ sn, sn = sec (nowD D j) := ⟨_, rfl⟩
            rw [← hsn] at GD GN WN
            clear hsn
            go_wp2_with fail
            refine (GD.out).mono ?_
            rintro e w6 ⟨rfl, rfl⟩
            go_wp2_with fail
            refine (GN.out).mono ?_
            rintro e w7 ⟨rfl, rfl⟩
            by_cases hij : (j : Int) = i
            · have e2 : ((j : Int) == i) = true := by simp [hij]
              have ew := WN.out hij.symm
              rw [← ew] at GF
              have EIJ := Lib.hid hij
              have H6 := Lib.hid h6
              clear hij ew
              go_wp2_with fail
              refine (GF.out _).mono ?_
              rintro e w8 ⟨rfl, hb8⟩
              have HB8 := Lib.hid (HBJ.out.below hb8)
              have K8 := Lib.hid (KJ.out.trans (hb8.mono KJ.out.size))
              clear hb8
              go_wp2_with fail
              go_roundw
              case rel => exact ⟨j + 1, by omega, by go_num, HB8.out, K8.out⟩
              case measure => simp [intOf]; omega
            · have e2 : ((j : Int) == i) = false := by simp [hij]
              go_wp2_with fail
              go_roundw
              case rel => exact ⟨j + 1, by omega, by go_num, HBJ.out, KJ.out⟩
              case measure => simp [intOf]; omega
          · have e1 : decide ((j : Int) < 6) = false := by simp; omega
            go_wp2_with fail
            go_ret
            exact ⟨rfl, KJ.out⟩
    · go_simp
      refine hK.out _ _ trivial (fun hHeld => ?_)
      clear hK K
      try simp only [Act.put, List.setIfInBounds_toArray, List.set_cons_zero, List.set_cons_succ]
      refine wpAnyH_ready (rs := [8]) (by kernel_rfl) (by simp) ?_
      refine AllReadyH.cons (o := ⟨_, _, _, _, _, _⟩) rfl (fun K hK => ?_) AllReadyH.nil
      go_simp
      refine (G8.out).mono ?_
      rintro e w5 ⟨rfl, rfl⟩
      refine hK.out _ _ trivial (fun hHeld => ?_)
      clear hK K
      try simp only [Act.put, List.setIfInBounds_toArray, List.set_cons_zero, List.set_cons_succ]
      first | refine tq0 13 rfl ?_ | refine tq1 13 rfl ?_
      try go_frame
      first | refine tq0 14 rfl ?_ | refine tq1 14 rfl ?_
      try go_frame
      refine wpAnyH_done (by kernel_rfl) ?_ _
      clear hHeld
      have K5 := Lib.hid (K2.out.trans F4.out.2)
      have B5 := Lib.hid F4.out.1
      have DN : Hid (D.n = 6) := Lib.hid (by rw [HD.out, write_n]; exact HN.out)
      clear c5 G8 F4 GRd
      go_wp2_with fail
      go_loopw [11] (fun iv wr => ∃ j : Nat, j ≤ 6 ∧ iv = .int .i64 j ∧ Both W.heap.size P bS bm cS Q b1 b2 b3 c1 c2 c3 D wr ∧ Below W.heap.size W wr) (fun iv _ => 6 - (intOf iv).toNat)
      case atStart => exact ⟨0, by omega, rfl, B5.out, K5.out⟩
      case round =>
        obtain ⟨j, hj, rfl, hb, hk⟩ := hrel
        have HBJ := Lib.hid hb
        have KJ := Lib.hid hk
        have c5 := hb.r.cells.2.2.2.2.2.1
        clear hb hk
        have hj0 : (0 : Int) ≤ (j : Int) := by omega
        cases hdn : D.down with
        | true =>
          rw [hdn] at c5
          by_cases h6 : j < 6
          · have e1 : decide ((j : Int) < 6) = true := by simp; omega
            go_wp2_with fail
            go_ret
            exact ⟨rfl, KJ.out⟩
          · have e1 : decide ((j : Int) < 6) = false := by simp; omega
            go_wp2_with fail
            go_ret
            exact ⟨rfl, KJ.out⟩
        | false =>
          rw [hdn] at c5
          by_cases h6 : j < 6
          · have e1 : decide ((j : Int) < 6) = true := by simp; omega
            have hj6 : (j : Int) < 6 := by omega
            have GD := Lib.hid (pread_any HBJ.out.p (by rw [DN.out]; omega) (j : Int))
            have er : readE D (j : Int) = 0 := by unfold readE; rw [if_neg (by rw [hdn]; decide), if_neg (by rw [DN.out]; omega)]
            have es : readS D (j : Int) = sec (nowD D j) := by unfold readS; rw [if_neg (by rw [hdn]; decide), if_neg (by rw [DN.out]; omega), Int.toNat_natCast]
            have GN := Lib.hid (rnow_any HBJ.out.r j (by rw [DN.out]; exact h6) (by rw [DN.out]; omega))
            rw [er, es] at GD
            have dd : d.down = false := write_down i s (by rw [← HD.out]; exact hdn)
            have WN : Hid (i = (j : Int) → sec (nowD D j) = sec (byD s)) := Lib.hid fun e => by rw [HD.out, write_now, if_pos ⟨dd, e, by rw [HN.out]; exact h6⟩]
            have GF : Hid (∀ w, Calls Try.prog 22 #[.string s] w fun r u' => r = .returned (.string (sec (byD s))) ∧ Below w.heap.size w u') := Lib.hid fun w => rfill_any s HS.out w
            clear er es dd
            obtain ⟨sn, hsn⟩ : ∃ sn, sn = sec (nowD D j) := ⟨_, rfl⟩
            rw [← hsn] at GD GN WN
            clear hsn
            go_wp2_with fail
            refine (GD.out).mono ?_
            rintro e w6 ⟨rfl, rfl⟩
            go_wp2_with fail
            refine (GN.out).mono ?_
            rintro e w7 ⟨rfl, rfl⟩
            by_cases hij : (j : Int) = i
            · have e2 : ((j : Int) == i) = true := by simp [hij]
              have ew := WN.out hij.symm
              rw [← ew] at GF
              have EIJ := Lib.hid hij
              have H6 := Lib.hid h6
              clear hij ew
              go_wp2_with fail
              refine (GF.out _).mono ?_
              rintro e w8 ⟨rfl, hb8⟩
              have HB8 := Lib.hid (HBJ.out.below hb8)
              have K8 := Lib.hid (KJ.out.trans (hb8.mono KJ.out.size))
              clear hb8
              go_wp2_with fail
              go_roundw
              case rel => exact ⟨j + 1, by omega, by go_num, HB8.out, K8.out⟩
              case measure => simp [intOf]; omega
            · have e2 : ((j : Int) == i) = false := by simp [hij]
              go_wp2_with fail
              go_roundw
              case rel => exact ⟨j + 1, by omega, by go_num, HBJ.out, KJ.out⟩
              case measure => simp [intOf]; omega
          · have e1 : decide ((j : Int) < 6) = false := by simp; omega
            go_wp2_with fail
            go_ret
            exact ⟨rfl, KJ.out⟩

end Go.Proofs.Ytbohcfflkcaijaa
