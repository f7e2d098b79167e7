/- The contracts of the program's step, for each kind of instruction. -/
import Derived.Test.YthkfaeplmmlnlaaGreatRZ21
import Derived.Test.YthkfaeplmmlnlaaGreatRZ0
import Derived.Test.YthkfaeplmmlnlaaGreatRZ3
namespace Go.Proofs.YthkfaeplmmlnlaaGreat
open Go.RowKit Go.Deep
set_option linter.unusedVariables false
set_option maxRecDepth 100000

section
variable {base P bd da : Nat} {lps : Int} {vw vs : Value} {r r1 : Mch}
set_option maxHeartbeats 1600000 in
theorem vstep_two (op : Int) (i : Nat) (hi : i < 8) (j : Nat) (hj : j < 8) (k : Nat) (hk : k < 8) (B O pl cp : Nat) (w : World) (hr : VmAt base P bd da lps vw vs r w) (hr1 : r1 = { r with n := r.n + 1, pc := r.pc + 1 }) (hbase : base ≤ w.heap.size) (hB : B < base) (hn : r.n < 120) (hpc : r.pc < pl) (hpl : pl ≤ 48)
    (c0 : w.cell? ⟨B, O + r.pc * 4, none⟩ = some (.int .i64 op)) (c1 : w.cell? ⟨B, O + r.pc * 4 + 1, none⟩ = some (.int .i64 (i : Int))) (c2 : w.cell? ⟨B, O + r.pc * 4 + 2, none⟩ = some (.int .i64 (j : Int))) (c3 : w.cell? ⟨B, O + r.pc * 4 + 3, none⟩ = some (.int .i64 (k : Int))) (h3 : 3 ≤ op) (h8 : op ≤ 8) (hgj : r1.g j ≤ 9223372036854775807 ∧ -9223372036854775808 ≤ r1.g j) (hf : twoF op (r1.g k) = 0) :
    Calls Tryz.prog 105 #[.pointer (some ⟨P, 0, none⟩), .slice (some ⟨B, O, none⟩) pl cp] w fun e w' => e = .returned (.tuple #[]) ∧ (∃ vs', VmAt base P bd da lps vw vs' { r1 with g := upd r1.g i (twoV op (r1.g j) (r1.g k)) } w') ∧ Below base w w' ∧ Keep7 w w' := by
  have HM := Lib.hid (must_ok 1)
  have HBASE := Lib.hid hbase
  have HC := Lib.hid (calc_ok op (r1.g j) (r1.g k) ⟨hgj.2, hgj.1⟩ h3 h8 hf)
  have h38 := Lib.hid (And.intro h3 h8)
  clear h3 h8 hgj hf
  have dn : decide ((r.n : Int) < 120) = true := by rw [decide_eq_true_eq]; omega
  have bpc : ((r.pc : Nat) : Int) < (pl : Int) := by omega
  have lpc : (0 : Int) ≤ ((r.pc : Nat) : Int) := by omega
  have tpc : ((r.pc : Nat) : Int).toNat = r.pc := by omega
  have R1 : Hid (VmAt base P bd da lps vw vs { r with n := r.n + 1 } (w.setCell ⟨P, 13, none⟩ (.int .i64 ((r.n : Int) + 1)))) := hr.setN (r.n + 1)
  have L1 := Lib.hid ((Below.refl base w).setCell (p := ⟨P, 13, none⟩) hr.lo (.int .i64 ((r.n : Int) + 1)))
  have K1 : Hid (Keep7 w (w.setCell ⟨P, 13, none⟩ (.int .i64 ((r.n : Int) + 1)))) := keep_set hr.box (by decide) _ _
  have c0 := (L1.out.cell (p := ⟨B, O + r.pc * 4, none⟩) hB).trans c0
  have c1 := (L1.out.cell (p := ⟨B, O + r.pc * 4 + 1, none⟩) hB).trans c1
  have c2 := (L1.out.cell (p := ⟨B, O + r.pc * 4 + 2, none⟩) hB).trans c2
  have c3 := (L1.out.cell (p := ⟨B, O + r.pc * 4 + 3, none⟩) hB).trans c3
  have hL := Lib.hid hr.lo
  obtain ⟨p8, p9, p10, p11, p12, p13, p14, pf⟩ := hr.cells
  clear hr
  go_enter Tryz.func105, Tryz.ntmps105
  go_upto_region 2 with (go_at_call 110; refine (HM.out _).mono ?_; rintro e w1 ⟨rfl, hw1⟩; subst w1)
  generalize w.setCell ⟨P, 13, none⟩ (.int .i64 ((r.n : Int) + 1)) = u1 at *
  clear p8 p9 p10 p11 p12 p13 p14 pf dn
  obtain ⟨p8, p9, p10, p11, p12, p13, p14, pf⟩ := R1.out.cells
  have R2 := Lib.hid (R1.out.below (balloc u1 (.cells #[.int .i64 op, .int .i64 (i : Int), .int .i64 (j : Int), .int .i64 (k : Int)] 99)))
  have L2 := Lib.hid (L1.out.trans ((balloc u1 (.cells #[.int .i64 op, .int .i64 (i : Int), .int .i64 (j : Int), .int .i64 (k : Int)] 99)).mono (Nat.le_trans HBASE.out L1.out.size)))
  have X2 := Lib.hid (heap_alloc_new u1 (.cells #[.int .i64 op, .int .i64 (i : Int), .int .i64 (j : Int), .int .i64 (k : Int)] 99))
  have K2 : Hid (Keep7 w (u1.alloc (.cells #[.int .i64 op, .int .i64 (i : Int), .int .i64 (j : Int), .int .i64 (k : Int)] 99))) := K1.out.trans (keep_below (balloc u1 (.cells #[.int .i64 op, .int .i64 (i : Int), .int .i64 (j : Int), .int .i64 (k : Int)] 99)))
  have P2 : Hid (u1.heap.size ≠ P) := by show _ ≠ _; have := lt_of_block R1.out.box; omega
  go_upto_region 3 with fail
  clear p8 p9 p10 p11 p12 p13 p14 pf c0 c1 c2 c3 R1 L1 K1
  generalize u1.alloc (.cells #[.int .i64 op, .int .i64 (i : Int), .int .i64 (j : Int), .int .i64 (k : Int)] 99) = u2 at *
  generalize u1.heap.size = xb at *
  obtain ⟨p8, p9, p10, p11, p12, p13, p14, pf⟩ := R2.out.cells
  have RU : Hid (VmAt base P bd da lps vw vs r1 (u2.setCell ⟨P, 12, none⟩ (.int .i64 ((r.pc : Int) + 1)))) := by rw [hr1]; exact R2.out.setPc (r.pc + 1)
  have LU := Lib.hid (L2.out.setCell (p := ⟨P, 12, none⟩) hL.out (.int .i64 ((r.pc : Int) + 1)))
  have KU : Hid (Keep7 w (u2.setCell ⟨P, 12, none⟩ (.int .i64 ((r.pc : Int) + 1)))) := K2.out.trans (keep_set R2.out.box (by decide) _ _)
  have XU := Lib.hid ((Below.heap_setCell u2 ⟨P, 12, none⟩ (.int .i64 ((r.pc : Int) + 1)) _ P2.out).trans X2.out)
  go_upto_region 4 with fail
  clear p8 p9 p10 p11 p12 p13 p14 pf R2 L2 X2 K2 bpc lpc tpc
  generalize u2.setCell ⟨P, 12, none⟩ (.int .i64 ((r.pc : Int) + 1)) = u at *
  clear hr1
  have HPL := Lib.hid hpl
  clear hn hpc hpl hB
  obtain ⟨p8, p9, p10, p11, p12, p13, p14, pf⟩ := RU.out.cells
  obtain ⟨x0, x1, x2, x3⟩ := four_cells XU.out
  have gi := RU.out.reg hi
  have gfi := RU.out.fz i
  have bi : ((i : Nat) : Int) < 8 := by omega
  have li : (0 : Int) ≤ ((i : Nat) : Int) := by omega
  have ti : ((i : Nat) : Int).toNat = i := by omega
  have gj := RU.out.reg hj
  have gfj := RU.out.fz j
  have bj : ((j : Nat) : Int) < 8 := by omega
  have lj : (0 : Int) ≤ ((j : Nat) : Int) := by omega
  have tj : ((j : Nat) : Int).toNat = j := by omega
  have gk := RU.out.reg hk
  have gfk := RU.out.fz k
  have bk : ((k : Nat) : Int) < 8 := by omega
  have lk : (0 : Int) ≤ ((k : Nat) : Int) := by omega
  have tk : ((k : Nat) : Int).toNat = k := by omega
  have o0 : (op == 0) = false := by have := h38.out; simp; omega
  have o1 : (op == 1) = false := by have := h38.out; simp; omega
  have o2 : (op == 2) = false := by have := h38.out; simp; omega
  have h9 : op = 3 ∨ op = 4 ∨ op = 5 ∨ op = 6 ∨ op = 7 ∨ op = 8 := by have := h38.out; omega
  rcases h9 with h | h | h | h | h | h
  all_goals
    have o3 : (op == 3) = _ := congrArg (fun z : Int => z == 3) h
    have o4 : (op == 4) = _ := congrArg (fun z : Int => z == 4) h
    have o5 : (op == 5) = _ := congrArg (fun z : Int => z == 5) h
    have o6 : (op == 6) = _ := congrArg (fun z : Int => z == 6) h
    have o7 : (op == 7) = _ := congrArg (fun z : Int => z == 7) h
    have o8 : (op == 8) = _ := congrArg (fun z : Int => z == 8) h
    simp only [Int.reduceBEq] at o3 o4 o5 o6 o7 o8
    clear h
    have RD := Lib.hid RU.out.drew
    have LD := Lib.hid LU.out.drew
    have KD : Hid (Keep7 w u.drew) := KU.out.drew
    have XD : Hid (u.drew.heap[xb]? = some (.cells #[.int .i64 op, .int .i64 (i : Int), .int .i64 (j : Int), .int .i64 (k : Int)] 99 (0, 0))) := XU.out
    go_wp2_with fail
    refine wp_region_held_drew (S := (fun w' => w'.cell? ⟨xb, 0, none⟩ = some (.int .i64 op) ∧ w'.cell? ⟨xb, 1, none⟩ = some (.int .i64 (i : Int)) ∧ w'.cell? ⟨xb, 2, none⟩ = some (.int .i64 (j : Int)) ∧ w'.cell? ⟨xb, 3, none⟩ = some (.int .i64 (k : Int)))) (by kernel_rfl) ?_ (fun hHeld => ?_)
    · exact ⟨(four_cells XD.out).1, (four_cells XD.out).2.1, (four_cells XD.out).2.2.1, (four_cells XD.out).2.2.2⟩
    change wpAnyH _ _ _ _ _ _ _ _ (World.drew u)
    clear p8 p9 p10 p11 p12 p13 p14 pf RU LU XU KU
    try clear gi gfi
    try clear gj gfj
    try clear gk gfk
    generalize u.drew = u0 at *
    first | refine tq0 0 rfl ?_ | refine tq1 0 rfl ?_
    try go_frame
    first | refine tq0 1 rfl ?_ | refine tq1 1 rfl ?_
    try go_frame
    first | refine tq0 2 rfl ?_ | refine tq1 2 rfl ?_
    try go_frame
    first | refine tq0 3 rfl ?_ | refine tq1 3 rfl ?_
    try go_frame
    first | refine tq0 4 rfl ?_ | refine tq1 4 rfl ?_
    try go_frame
    first | refine tq0 5 rfl ?_ | refine tq1 5 rfl ?_
    try go_frame
    first | refine tq0 6 rfl ?_ | refine tq1 6 rfl ?_
    try go_frame
    first | refine tq0 7 rfl ?_ | refine tq1 7 rfl ?_
    try go_frame
    first | refine tq0 8 rfl ?_ | refine tq1 8 rfl ?_
    try go_frame
    first | refine tq0 9 rfl ?_ | refine tq1 9 rfl ?_
    try go_frame
    first | refine tq0 10 rfl ?_ | refine tq1 10 rfl ?_
    try go_frame
    first | refine tq0 12 rfl ?_ | refine tq1 12 rfl ?_
    try go_frame
    first | refine tq0 13 rfl ?_ | refine tq1 13 rfl ?_
    try go_frame
    first | refine tq0 14 rfl ?_ | refine tq1 14 rfl ?_
    try go_frame
    first | refine tq0 15 rfl ?_ | refine tq1 15 rfl ?_
    try go_frame
    first | refine tq0 16 rfl ?_ | refine tq1 16 rfl ?_
    try go_frame
    first | refine tq0 17 rfl ?_ | refine tq1 17 rfl ?_
    try go_frame
    first | refine tq0 20 rfl ?_ | refine tq1 20 rfl ?_
    try go_frame
    first | refine tq0 21 rfl ?_ | refine tq1 21 rfl ?_
    try go_frame
    refine wpAnyH_ready (rs := [11, 18]) (by kernel_rfl) (by simp) ?_
    refine AllReadyH.cons (o := ⟨_, _, _, _, _, _⟩) rfl (fun K hK => ?_) (AllReadyH.cons (o := ⟨_, _, _, _, _, _⟩) rfl (fun K hK => ?_) AllReadyH.nil)
    · have gj := RD.out.reg hj
      go_simp
      refine hK.out _ _ ?_ (fun hHeld => ?_)
      · exact hHeld
      clear hK K gj
      try go_frame
      refine wpAnyH_ready (rs := [18]) (by kernel_rfl) (by simp) ?_
      refine AllReadyH.cons (o := ⟨_, _, _, _, _, _⟩) rfl (fun K hK => ?_) AllReadyH.nil
      have gk := RD.out.reg hk
      go_simp
      refine hK.out _ _ ?_ (fun hHeld => ?_)
      · exact hHeld
      clear hK K gk
      try go_frame
      refine wpAnyH_ready (rs := [19]) (by kernel_rfl) (by simp) ?_
      refine AllReadyH.cons (o := ⟨_, _, _, _, _, _⟩) rfl (fun K hK => ?_) AllReadyH.nil
      go_simp
      go_at_call 111
      refine (HC.out _).mono ?_
      rintro e w1 ⟨rfl, hw1⟩
      subst w1
      refine hK.out _ _ ?_ (fun hHeld => ?_)
      · exact hHeld
      clear hK K
      try go_frame
      first | refine tq0 22 rfl ?_ | refine tq1 22 rfl ?_
      try go_frame
      have gi := RD.out.reg hi
      have gfi := RD.out.fz i
      refine wpAnyH_ready (rs := [23]) (by kernel_rfl) (by simp) ?_
      refine AllReadyH.cons (o := ⟨_, _, _, _, _, _⟩) rfl (fun K hK => ?_) AllReadyH.nil
      go_simp
      have XS := Lib.hid ((Below.heap_setCell u0 ⟨P, i, none⟩ (.int .i64 (twoV op (r1.g j) (r1.g k))) xb P2.out).trans XD.out)
      refine hK.out _ _ ?_ (fun hHeld => ?_)
      · exact ⟨(four_cells XS.out).1, (four_cells XS.out).2.1, (four_cells XS.out).2.2.1, (four_cells XS.out).2.2.2⟩
      clear hK K
      try go_frame
      refine wpAnyH_done (by kernel_rfl) ?_ _
      go_wp2_with fail
      go_end0
      exact ⟨rfl, ⟨vs, RD.out.setReg hi _⟩, LD.out.setCell (p := ⟨P, i, none⟩) RD.out.lo _, KD.out.trans (keep_set RD.out.box (by decide) _ _)⟩
    · have gk := RD.out.reg hk
      go_simp
      refine hK.out _ _ ?_ (fun hHeld => ?_)
      · exact hHeld
      clear hK K gk
      try go_frame
      refine wpAnyH_ready (rs := [11]) (by kernel_rfl) (by simp) ?_
      refine AllReadyH.cons (o := ⟨_, _, _, _, _, _⟩) rfl (fun K hK => ?_) AllReadyH.nil
      have gj := RD.out.reg hj
      go_simp
      refine hK.out _ _ ?_ (fun hHeld => ?_)
      · exact hHeld
      clear hK K gj
      try go_frame
      refine wpAnyH_ready (rs := [19]) (by kernel_rfl) (by simp) ?_
      refine AllReadyH.cons (o := ⟨_, _, _, _, _, _⟩) rfl (fun K hK => ?_) AllReadyH.nil
      go_simp
      go_at_call 111
      refine (HC.out _).mono ?_
      rintro e w1 ⟨rfl, hw1⟩
      subst w1
      refine hK.out _ _ ?_ (fun hHeld => ?_)
      · exact hHeld
      clear hK K
      try go_frame
      first | refine tq0 22 rfl ?_ | refine tq1 22 rfl ?_
      try go_frame
      have gi := RD.out.reg hi
      have gfi := RD.out.fz i
      refine wpAnyH_ready (rs := [23]) (by kernel_rfl) (by simp) ?_
      refine AllReadyH.cons (o := ⟨_, _, _, _, _, _⟩) rfl (fun K hK => ?_) AllReadyH.nil
      go_simp
      have XS := Lib.hid ((Below.heap_setCell u0 ⟨P, i, none⟩ (.int .i64 (twoV op (r1.g j) (r1.g k))) xb P2.out).trans XD.out)
      refine hK.out _ _ ?_ (fun hHeld => ?_)
      · exact ⟨(four_cells XS.out).1, (four_cells XS.out).2.1, (four_cells XS.out).2.2.1, (four_cells XS.out).2.2.2⟩
      clear hK K
      try go_frame
      refine wpAnyH_done (by kernel_rfl) ?_ _
      go_wp2_with fail
      go_end0
      exact ⟨rfl, ⟨vs, RD.out.setReg hi _⟩, LD.out.setCell (p := ⟨P, i, none⟩) RD.out.lo _, KD.out.trans (keep_set RD.out.box (by decide) _ _)⟩
set_option maxHeartbeats 1600000 in
theorem vstep_twobad (op : Int) (i : Nat) (hi : i < 8) (j : Nat) (hj : j < 8) (k : Nat) (hk : k < 8) (B O pl cp : Nat) (w : World) (hr : VmAt base P bd da lps vw vs r w) (hr1 : r1 = { r with n := r.n + 1, pc := r.pc + 1 }) (hbase : base ≤ w.heap.size) (hB : B < base) (hn : r.n < 120) (hpc : r.pc < pl) (hpl : pl ≤ 48)
    (c0 : w.cell? ⟨B, O + r.pc * 4, none⟩ = some (.int .i64 op)) (c1 : w.cell? ⟨B, O + r.pc * 4 + 1, none⟩ = some (.int .i64 (i : Int))) (c2 : w.cell? ⟨B, O + r.pc * 4 + 2, none⟩ = some (.int .i64 (j : Int))) (c3 : w.cell? ⟨B, O + r.pc * 4 + 3, none⟩ = some (.int .i64 (k : Int))) (h3 : 3 ≤ op) (h8 : op ≤ 8) (hgj : r1.g j ≤ 9223372036854775807 ∧ -9223372036854775808 ≤ r1.g j) (hf : twoF op (r1.g k) ≠ 0) :
    Calls Tryz.prog 105 #[.pointer (some ⟨P, 0, none⟩), .slice (some ⟨B, O, none⟩) pl cp] w fun e w' => e = .panicked [{ v := .iface 153 (.int .i64 2), recovered := false }] ∧ VmAt base P bd da lps vw vs r1 w' ∧ Below base w w' ∧ Keep7 w w' := by
  have HM := Lib.hid (must_ok 1)
  have HBASE := Lib.hid hbase
  have HC := Lib.hid (calc_bad op (r1.g j) (r1.g k) hf)
  have h38 := Lib.hid (And.intro h3 h8)
  have h9 : op = 6 ∨ op = 7 := by
    refine Classical.byContradiction fun h => ?_
    unfold twoF at hf
    rw [if_neg fun hh => h hh.1] at hf
    exact hf rfl
  clear h3 h8 hgj hf
  have dn : decide ((r.n : Int) < 120) = true := by rw [decide_eq_true_eq]; omega
  have bpc : ((r.pc : Nat) : Int) < (pl : Int) := by omega
  have lpc : (0 : Int) ≤ ((r.pc : Nat) : Int) := by omega
  have tpc : ((r.pc : Nat) : Int).toNat = r.pc := by omega
  have R1 : Hid (VmAt base P bd da lps vw vs { r with n := r.n + 1 } (w.setCell ⟨P, 13, none⟩ (.int .i64 ((r.n : Int) + 1)))) := hr.setN (r.n + 1)
  have L1 := Lib.hid ((Below.refl base w).setCell (p := ⟨P, 13, none⟩) hr.lo (.int .i64 ((r.n : Int) + 1)))
  have K1 : Hid (Keep7 w (w.setCell ⟨P, 13, none⟩ (.int .i64 ((r.n : Int) + 1)))) := keep_set hr.box (by decide) _ _
  have c0 := (L1.out.cell (p := ⟨B, O + r.pc * 4, none⟩) hB).trans c0
  have c1 := (L1.out.cell (p := ⟨B, O + r.pc * 4 + 1, none⟩) hB).trans c1
  have c2 := (L1.out.cell (p := ⟨B, O + r.pc * 4 + 2, none⟩) hB).trans c2
  have c3 := (L1.out.cell (p := ⟨B, O + r.pc * 4 + 3, none⟩) hB).trans c3
  have hL := Lib.hid hr.lo
  obtain ⟨p8, p9, p10, p11, p12, p13, p14, pf⟩ := hr.cells
  clear hr
  go_enter Tryz.func105, Tryz.ntmps105
  go_upto_region 2 with (go_at_call 110; refine (HM.out _).mono ?_; rintro e w1 ⟨rfl, hw1⟩; subst w1)
  generalize w.setCell ⟨P, 13, none⟩ (.int .i64 ((r.n : Int) + 1)) = u1 at *
  clear p8 p9 p10 p11 p12 p13 p14 pf dn
  obtain ⟨p8, p9, p10, p11, p12, p13, p14, pf⟩ := R1.out.cells
  have R2 := Lib.hid (R1.out.below (balloc u1 (.cells #[.int .i64 op, .int .i64 (i : Int), .int .i64 (j : Int), .int .i64 (k : Int)] 99)))
  have L2 := Lib.hid (L1.out.trans ((balloc u1 (.cells #[.int .i64 op, .int .i64 (i : Int), .int .i64 (j : Int), .int .i64 (k : Int)] 99)).mono (Nat.le_trans HBASE.out L1.out.size)))
  have X2 := Lib.hid (heap_alloc_new u1 (.cells #[.int .i64 op, .int .i64 (i : Int), .int .i64 (j : Int), .int .i64 (k : Int)] 99))
  have K2 : Hid (Keep7 w (u1.alloc (.cells #[.int .i64 op, .int .i64 (i : Int), .int .i64 (j : Int), .int .i64 (k : Int)] 99))) := K1.out.trans (keep_below (balloc u1 (.cells #[.int .i64 op, .int .i64 (i : Int), .int .i64 (j : Int), .int .i64 (k : Int)] 99)))
  have P2 : Hid (u1.heap.size ≠ P) := by show _ ≠ _; have := lt_of_block R1.out.box; omega
  go_upto_region 3 with fail
  clear p8 p9 p10 p11 p12 p13 p14 pf c0 c1 c2 c3 R1 L1 K1
  generalize u1.alloc (.cells #[.int .i64 op, .int .i64 (i : Int), .int .i64 (j : Int), .int .i64 (k : Int)] 99) = u2 at *
  generalize u1.heap.size = xb at *
  obtain ⟨p8, p9, p10, p11, p12, p13, p14, pf⟩ := R2.out.cells
  have RU : Hid (VmAt base P bd da lps vw vs r1 (u2.setCell ⟨P, 12, none⟩ (.int .i64 ((r.pc : Int) + 1)))) := by rw [hr1]; exact R2.out.setPc (r.pc + 1)
  have LU := Lib.hid (L2.out.setCell (p := ⟨P, 12, none⟩) hL.out (.int .i64 ((r.pc : Int) + 1)))
  have KU : Hid (Keep7 w (u2.setCell ⟨P, 12, none⟩ (.int .i64 ((r.pc : Int) + 1)))) := K2.out.trans (keep_set R2.out.box (by decide) _ _)
  have XU := Lib.hid ((Below.heap_setCell u2 ⟨P, 12, none⟩ (.int .i64 ((r.pc : Int) + 1)) _ P2.out).trans X2.out)
  go_upto_region 4 with fail
  clear p8 p9 p10 p11 p12 p13 p14 pf R2 L2 X2 K2 bpc lpc tpc
  generalize u2.setCell ⟨P, 12, none⟩ (.int .i64 ((r.pc : Int) + 1)) = u at *
  clear hr1
  have HPL := Lib.hid hpl
  clear hn hpc hpl hB
  obtain ⟨p8, p9, p10, p11, p12, p13, p14, pf⟩ := RU.out.cells
  obtain ⟨x0, x1, x2, x3⟩ := four_cells XU.out
  have gi := RU.out.reg hi
  have gfi := RU.out.fz i
  have bi : ((i : Nat) : Int) < 8 := by omega
  have li : (0 : Int) ≤ ((i : Nat) : Int) := by omega
  have ti : ((i : Nat) : Int).toNat = i := by omega
  have gj := RU.out.reg hj
  have gfj := RU.out.fz j
  have bj : ((j : Nat) : Int) < 8 := by omega
  have lj : (0 : Int) ≤ ((j : Nat) : Int) := by omega
  have tj : ((j : Nat) : Int).toNat = j := by omega
  have gk := RU.out.reg hk
  have gfk := RU.out.fz k
  have bk : ((k : Nat) : Int) < 8 := by omega
  have lk : (0 : Int) ≤ ((k : Nat) : Int) := by omega
  have tk : ((k : Nat) : Int).toNat = k := by omega
  have o0 : (op == 0) = false := by have := h38.out; simp; omega
  have o1 : (op == 1) = false := by have := h38.out; simp; omega
  have o2 : (op == 2) = false := by have := h38.out; simp; omega
  rcases h9 with h | h
  all_goals
    have o3 : (op == 3) = _ := congrArg (fun z : Int => z == 3) h
    have o4 : (op == 4) = _ := congrArg (fun z : Int => z == 4) h
    have o5 : (op == 5) = _ := congrArg (fun z : Int => z == 5) h
    have o6 : (op == 6) = _ := congrArg (fun z : Int => z == 6) h
    have o7 : (op == 7) = _ := congrArg (fun z : Int => z == 7) h
    have o8 : (op == 8) = _ := congrArg (fun z : Int => z == 8) h
    simp only [Int.reduceBEq] at o3 o4 o5 o6 o7 o8
    clear h
    have RD := Lib.hid RU.out.drew
    have LD := Lib.hid LU.out.drew
    have KD : Hid (Keep7 w u.drew) := KU.out.drew
    have XD : Hid (u.drew.heap[xb]? = some (.cells #[.int .i64 op, .int .i64 (i : Int), .int .i64 (j : Int), .int .i64 (k : Int)] 99 (0, 0))) := XU.out
    go_wp2_with fail
    refine wp_region_held_drew (S := (fun w' => w'.cell? ⟨xb, 0, none⟩ = some (.int .i64 op) ∧ w'.cell? ⟨xb, 1, none⟩ = some (.int .i64 (i : Int)) ∧ w'.cell? ⟨xb, 2, none⟩ = some (.int .i64 (j : Int)) ∧ w'.cell? ⟨xb, 3, none⟩ = some (.int .i64 (k : Int)))) (by kernel_rfl) ?_ (fun hHeld => ?_)
    · exact ⟨(four_cells XD.out).1, (four_cells XD.out).2.1, (four_cells XD.out).2.2.1, (four_cells XD.out).2.2.2⟩
    change wpAnyH _ _ _ _ _ _ _ _ (World.drew u)
    clear p8 p9 p10 p11 p12 p13 p14 pf RU LU XU KU
    try clear gi gfi
    try clear gj gfj
    try clear gk gfk
    generalize u.drew = u0 at *
    first | refine tq0 0 rfl ?_ | refine tq1 0 rfl ?_
    try go_frame
    first | refine tq0 1 rfl ?_ | refine tq1 1 rfl ?_
    try go_frame
    first | refine tq0 2 rfl ?_ | refine tq1 2 rfl ?_
    try go_frame
    first | refine tq0 3 rfl ?_ | refine tq1 3 rfl ?_
    try go_frame
    first | refine tq0 4 rfl ?_ | refine tq1 4 rfl ?_
    try go_frame
    first | refine tq0 5 rfl ?_ | refine tq1 5 rfl ?_
    try go_frame
    first | refine tq0 6 rfl ?_ | refine tq1 6 rfl ?_
    try go_frame
    first | refine tq0 7 rfl ?_ | refine tq1 7 rfl ?_
    try go_frame
    first | refine tq0 8 rfl ?_ | refine tq1 8 rfl ?_
    try go_frame
    first | refine tq0 9 rfl ?_ | refine tq1 9 rfl ?_
    try go_frame
    first | refine tq0 10 rfl ?_ | refine tq1 10 rfl ?_
    try go_frame
    first | refine tq0 12 rfl ?_ | refine tq1 12 rfl ?_
    try go_frame
    first | refine tq0 13 rfl ?_ | refine tq1 13 rfl ?_
    try go_frame
    first | refine tq0 14 rfl ?_ | refine tq1 14 rfl ?_
    try go_frame
    first | refine tq0 15 rfl ?_ | refine tq1 15 rfl ?_
    try go_frame
    first | refine tq0 16 rfl ?_ | refine tq1 16 rfl ?_
    try go_frame
    first | refine tq0 17 rfl ?_ | refine tq1 17 rfl ?_
    try go_frame
    first | refine tq0 20 rfl ?_ | refine tq1 20 rfl ?_
    try go_frame
    first | refine tq0 21 rfl ?_ | refine tq1 21 rfl ?_
    try go_frame
    refine wpAnyH_ready (rs := [11, 18]) (by kernel_rfl) (by simp) ?_
    refine AllReadyH.cons (o := ⟨_, _, _, _, _, _⟩) rfl (fun K hK => ?_) (AllReadyH.cons (o := ⟨_, _, _, _, _, _⟩) rfl (fun K hK => ?_) AllReadyH.nil)
    · have gj := RD.out.reg hj
      go_simp
      refine hK.out _ _ ?_ (fun hHeld => ?_)
      · exact hHeld
      clear hK K gj
      try go_frame
      refine wpAnyH_ready (rs := [18]) (by kernel_rfl) (by simp) ?_
      refine AllReadyH.cons (o := ⟨_, _, _, _, _, _⟩) rfl (fun K hK => ?_) AllReadyH.nil
      have gk := RD.out.reg hk
      go_simp
      refine hK.out _ _ ?_ (fun hHeld => ?_)
      · exact hHeld
      clear hK K gk
      try go_frame
      refine wpAnyH_ready (rs := [19]) (by kernel_rfl) (by simp) ?_
      refine AllReadyH.cons (o := ⟨_, _, _, _, _, _⟩) rfl (fun K hK => ?_) AllReadyH.nil
      go_simp
      go_at_call 111
      refine (HC.out _).mono ?_
      rintro e w1 ⟨rfl, hw1⟩
      subst w1
      exact ⟨rfl, rfl, RD.out, LD.out, KD.out⟩
    · have gk := RD.out.reg hk
      go_simp
      refine hK.out _ _ ?_ (fun hHeld => ?_)
      · exact hHeld
      clear hK K gk
      try go_frame
      refine wpAnyH_ready (rs := [11]) (by kernel_rfl) (by simp) ?_
      refine AllReadyH.cons (o := ⟨_, _, _, _, _, _⟩) rfl (fun K hK => ?_) AllReadyH.nil
      have gj := RD.out.reg hj
      go_simp
      refine hK.out _ _ ?_ (fun hHeld => ?_)
      · exact hHeld
      clear hK K gj
      try go_frame
      refine wpAnyH_ready (rs := [19]) (by kernel_rfl) (by simp) ?_
      refine AllReadyH.cons (o := ⟨_, _, _, _, _, _⟩) rfl (fun K hK => ?_) AllReadyH.nil
      go_simp
      go_at_call 111
      refine (HC.out _).mono ?_
      rintro e w1 ⟨rfl, hw1⟩
      subst w1
      exact ⟨rfl, rfl, RD.out, LD.out, KD.out⟩
end

end Go.Proofs.YthkfaeplmmlnlaaGreat
