/- The contracts of the program's step, for each kind of instruction. -/
import Derived.Test.YthkfaeplmmlnlaaGreatRZ21
import Derived.Test.YthkfaeplmmlnlaaGreatRZ0
import Derived.Test.YthkfaeplmmlnlaaGreatRZ3
namespace Go.Proofs.YthkfaeplmmlnlaaGreat
open Go.RowKit Go.Deep
set_option linter.unusedVariables false
set_option maxRecDepth 100000

section
variable {base P bd da : Nat} {lps : Int} {vw vs : Value} {r r1 : Mch}
set_option maxHeartbeats 1600000 in
theorem vstep_halt (a : Int) (b : Int) (c : Int) (B O pl cp : Nat) (w : World) (hr : VmAt base P bd da lps vw vs r w) (hr1 : r1 = { r with n := r.n + 1, pc := r.pc + 1 }) (hbase : base ≤ w.heap.size) (hB : B < base) (hn : r.n < 120) (hpc : r.pc < pl) (hpl : pl ≤ 48)
    (c0 : w.cell? ⟨B, O + r.pc * 4, none⟩ = some (.int .i64 0)) (c1 : w.cell? ⟨B, O + r.pc * 4 + 1, none⟩ = some (.int .i64 a)) (c2 : w.cell? ⟨B, O + r.pc * 4 + 2, none⟩ = some (.int .i64 b)) (c3 : w.cell? ⟨B, O + r.pc * 4 + 3, none⟩ = some (.int .i64 c)) :
    Calls Tryz.prog 105 #[.pointer (some ⟨P, 0, none⟩), .slice (some ⟨B, O, none⟩) pl cp] w fun e w' => e = .returned (.tuple #[]) ∧ (∃ vs', VmAt base P bd da lps vw vs' { r1 with pc := pl } w') ∧ Below base w w' ∧ Keep7 w w' := by
  have HM := Lib.hid (must_ok 1)
  have HBASE := Lib.hid hbase
  have dn : decide ((r.n : Int) < 120) = true := by rw [decide_eq_true_eq]; omega
  have bpc : ((r.pc : Nat) : Int) < (pl : Int) := by omega
  have lpc : (0 : Int) ≤ ((r.pc : Nat) : Int) := by omega
  have tpc : ((r.pc : Nat) : Int).toNat = r.pc := by omega
  have R1 : Hid (VmAt base P bd da lps vw vs { r with n := r.n + 1 } (w.setCell ⟨P, 13, none⟩ (.int .i64 ((r.n : Int) + 1)))) := hr.setN (r.n + 1)
  have L1 := Lib.hid ((Below.refl base w).setCell (p := ⟨P, 13, none⟩) hr.lo (.int .i64 ((r.n : Int) + 1)))
  have K1 : Hid (Keep7 w (w.setCell ⟨P, 13, none⟩ (.int .i64 ((r.n : Int) + 1)))) := keep_set hr.box (by decide) _ _
  have c0 := (L1.out.cell (p := ⟨B, O + r.pc * 4, none⟩) hB).trans c0
  have c1 := (L1.out.cell (p := ⟨B, O + r.pc * 4 + 1, none⟩) hB).trans c1
  have c2 := (L1.out.cell (p := ⟨B, O + r.pc * 4 + 2, none⟩) hB).trans c2
  have c3 := (L1.out.cell (p := ⟨B, O + r.pc * 4 + 3, none⟩) hB).trans c3
  have hL := Lib.hid hr.lo
  obtain ⟨p8, p9, p10, p11, p12, p13, p14, pf⟩ := hr.cells
  clear hr
  go_enter Tryz.func105, Tryz.ntmps105
  go_upto_region 2 with (go_at_call 110; refine (HM.out _).mono ?_; rintro e w1 ⟨rfl, hw1⟩; subst w1)
  generalize w.setCell ⟨P, 13, none⟩ (.int .i64 ((r.n : Int) + 1)) = u1 at *
  clear p8 p9 p10 p11 p12 p13 p14 pf dn
  obtain ⟨p8, p9, p10, p11, p12, p13, p14, pf⟩ := R1.out.cells
  have R2 := Lib.hid (R1.out.below (balloc u1 (.cells #[.int .i64 0, .int .i64 a, .int .i64 b, .int .i64 c] 99)))
  have L2 := Lib.hid (L1.out.trans ((balloc u1 (.cells #[.int .i64 0, .int .i64 a, .int .i64 b, .int .i64 c] 99)).mono (Nat.le_trans HBASE.out L1.out.size)))
  have X2 := Lib.hid (heap_alloc_new u1 (.cells #[.int .i64 0, .int .i64 a, .int .i64 b, .int .i64 c] 99))
  have K2 : Hid (Keep7 w (u1.alloc (.cells #[.int .i64 0, .int .i64 a, .int .i64 b, .int .i64 c] 99))) := K1.out.trans (keep_below (balloc u1 (.cells #[.int .i64 0, .int .i64 a, .int .i64 b, .int .i64 c] 99)))
  have P2 : Hid (u1.heap.size ≠ P) := by show _ ≠ _; have := lt_of_block R1.out.box; omega
  go_upto_region 3 with fail
  clear p8 p9 p10 p11 p12 p13 p14 pf c0 c1 c2 c3 R1 L1 K1
  generalize u1.alloc (.cells #[.int .i64 0, .int .i64 a, .int .i64 b, .int .i64 c] 99) = u2 at *
  generalize u1.heap.size = xb at *
  obtain ⟨p8, p9, p10, p11, p12, p13, p14, pf⟩ := R2.out.cells
  have RU : Hid (VmAt base P bd da lps vw vs r1 (u2.setCell ⟨P, 12, none⟩ (.int .i64 ((r.pc : Int) + 1)))) := by rw [hr1]; exact R2.out.setPc (r.pc + 1)
  have LU := Lib.hid (L2.out.setCell (p := ⟨P, 12, none⟩) hL.out (.int .i64 ((r.pc : Int) + 1)))
  have KU : Hid (Keep7 w (u2.setCell ⟨P, 12, none⟩ (.int .i64 ((r.pc : Int) + 1)))) := K2.out.trans (keep_set R2.out.box (by decide) _ _)
  have XU := Lib.hid ((Below.heap_setCell u2 ⟨P, 12, none⟩ (.int .i64 ((r.pc : Int) + 1)) _ P2.out).trans X2.out)
  go_upto_region 4 with fail
  clear p8 p9 p10 p11 p12 p13 p14 pf R2 L2 X2 K2 bpc lpc tpc
  generalize u2.setCell ⟨P, 12, none⟩ (.int .i64 ((r.pc : Int) + 1)) = u at *
  clear hr1
  have HPL := Lib.hid hpl
  clear hn hpc hpl hB
  obtain ⟨p8, p9, p10, p11, p12, p13, p14, pf⟩ := RU.out.cells
  obtain ⟨x0, x1, x2, x3⟩ := four_cells XU.out
  have hpl2 := HPL.out
  go_wp2_with fail
  go_end0
  exact ⟨rfl, ⟨vs, RU.out.setPc pl⟩, LU.out.setCell (p := ⟨P, 12, none⟩) RU.out.lo _, KU.out.trans (keep_set RU.out.box (by decide) _ _)⟩
set_option maxHeartbeats 1600000 in
theorem vstep_set (i : Nat) (hi : i < 8) (b : Int) (c : Int) (B O pl cp : Nat) (w : World) (hr : VmAt base P bd da lps vw vs r w) (hr1 : r1 = { r with n := r.n + 1, pc := r.pc + 1 }) (hbase : base ≤ w.heap.size) (hB : B < base) (hn : r.n < 120) (hpc : r.pc < pl) (hpl : pl ≤ 48)
    (c0 : w.cell? ⟨B, O + r.pc * 4, none⟩ = some (.int .i64 1)) (c1 : w.cell? ⟨B, O + r.pc * 4 + 1, none⟩ = some (.int .i64 (i : Int))) (c2 : w.cell? ⟨B, O + r.pc * 4 + 2, none⟩ = some (.int .i64 b)) (c3 : w.cell? ⟨B, O + r.pc * 4 + 3, none⟩ = some (.int .i64 c)) :
    Calls Tryz.prog 105 #[.pointer (some ⟨P, 0, none⟩), .slice (some ⟨B, O, none⟩) pl cp] w fun e w' => e = .returned (.tuple #[]) ∧ (∃ vs', VmAt base P bd da lps vw vs' { r1 with g := upd r1.g i b } w') ∧ Below base w w' ∧ Keep7 w w' := by
  have HM := Lib.hid (must_ok 1)
  have HBASE := Lib.hid hbase
  have dn : decide ((r.n : Int) < 120) = true := by rw [decide_eq_true_eq]; omega
  have bpc : ((r.pc : Nat) : Int) < (pl : Int) := by omega
  have lpc : (0 : Int) ≤ ((r.pc : Nat) : Int) := by omega
  have tpc : ((r.pc : Nat) : Int).toNat = r.pc := by omega
  have R1 : Hid (VmAt base P bd da lps vw vs { r with n := r.n + 1 } (w.setCell ⟨P, 13, none⟩ (.int .i64 ((r.n : Int) + 1)))) := hr.setN (r.n + 1)
  have L1 := Lib.hid ((Below.refl base w).setCell (p := ⟨P, 13, none⟩) hr.lo (.int .i64 ((r.n : Int) + 1)))
  have K1 : Hid (Keep7 w (w.setCell ⟨P, 13, none⟩ (.int .i64 ((r.n : Int) + 1)))) := keep_set hr.box (by decide) _ _
  have c0 := (L1.out.cell (p := ⟨B, O + r.pc * 4, none⟩) hB).trans c0
  have c1 := (L1.out.cell (p := ⟨B, O + r.pc * 4 + 1, none⟩) hB).trans c1
  have c2 := (L1.out.cell (p := ⟨B, O + r.pc * 4 + 2, none⟩) hB).trans c2
  have c3 := (L1.out.cell (p := ⟨B, O + r.pc * 4 + 3, none⟩) hB).trans c3
  have hL := Lib.hid hr.lo
  obtain ⟨p8, p9, p10, p11, p12, p13, p14, pf⟩ := hr.cells
  clear hr
  go_enter Tryz.func105, Tryz.ntmps105
  go_upto_region 2 with (go_at_call 110; refine (HM.out _).mono ?_; rintro e w1 ⟨rfl, hw1⟩; subst w1)
  generalize w.setCell ⟨P, 13, none⟩ (.int .i64 ((r.n : Int) + 1)) = u1 at *
  clear p8 p9 p10 p11 p12 p13 p14 pf dn
  obtain ⟨p8, p9, p10, p11, p12, p13, p14, pf⟩ := R1.out.cells
  have R2 := Lib.hid (R1.out.below (balloc u1 (.cells #[.int .i64 1, .int .i64 (i : Int), .int .i64 b, .int .i64 c] 99)))
  have L2 := Lib.hid (L1.out.trans ((balloc u1 (.cells #[.int .i64 1, .int .i64 (i : Int), .int .i64 b, .int .i64 c] 99)).mono (Nat.le_trans HBASE.out L1.out.size)))
  have X2 := Lib.hid (heap_alloc_new u1 (.cells #[.int .i64 1, .int .i64 (i : Int), .int .i64 b, .int .i64 c] 99))
  have K2 : Hid (Keep7 w (u1.alloc (.cells #[.int .i64 1, .int .i64 (i : Int), .int .i64 b, .int .i64 c] 99))) := K1.out.trans (keep_below (balloc u1 (.cells #[.int .i64 1, .int .i64 (i : Int), .int .i64 b, .int .i64 c] 99)))
  have P2 : Hid (u1.heap.size ≠ P) := by show _ ≠ _; have := lt_of_block R1.out.box; omega
  go_upto_region 3 with fail
  clear p8 p9 p10 p11 p12 p13 p14 pf c0 c1 c2 c3 R1 L1 K1
  generalize u1.alloc (.cells #[.int .i64 1, .int .i64 (i : Int), .int .i64 b, .int .i64 c] 99) = u2 at *
  generalize u1.heap.size = xb at *
  obtain ⟨p8, p9, p10, p11, p12, p13, p14, pf⟩ := R2.out.cells
  have RU : Hid (VmAt base P bd da lps vw vs r1 (u2.setCell ⟨P, 12, none⟩ (.int .i64 ((r.pc : Int) + 1)))) := by rw [hr1]; exact R2.out.setPc (r.pc + 1)
  have LU := Lib.hid (L2.out.setCell (p := ⟨P, 12, none⟩) hL.out (.int .i64 ((r.pc : Int) + 1)))
  have KU : Hid (Keep7 w (u2.setCell ⟨P, 12, none⟩ (.int .i64 ((r.pc : Int) + 1)))) := K2.out.trans (keep_set R2.out.box (by decide) _ _)
  have XU := Lib.hid ((Below.heap_setCell u2 ⟨P, 12, none⟩ (.int .i64 ((r.pc : Int) + 1)) _ P2.out).trans X2.out)
  go_upto_region 4 with fail
  clear p8 p9 p10 p11 p12 p13 p14 pf R2 L2 X2 K2 bpc lpc tpc
  generalize u2.setCell ⟨P, 12, none⟩ (.int .i64 ((r.pc : Int) + 1)) = u at *
  clear hr1
  have HPL := Lib.hid hpl
  clear hn hpc hpl hB
  obtain ⟨p8, p9, p10, p11, p12, p13, p14, pf⟩ := RU.out.cells
  obtain ⟨x0, x1, x2, x3⟩ := four_cells XU.out
  have gi := RU.out.reg hi
  have gfi := RU.out.fz i
  have bi : ((i : Nat) : Int) < 8 := by omega
  have li : (0 : Int) ≤ ((i : Nat) : Int) := by omega
  have ti : ((i : Nat) : Int).toNat = i := by omega
  go_wp2_with fail
  go_region
  go_wp2_with fail
  go_end0
  exact ⟨rfl, ⟨vs, (RU.out.setReg hi b).drew⟩, (LU.out.setCell (p := ⟨P, i, none⟩) RU.out.lo _).drew, (KU.out.trans (keep_set RU.out.box (by decide) _ _)).drew⟩
set_option maxHeartbeats 1600000 in
theorem vstep_move (i : Nat) (hi : i < 8) (j : Nat) (hj : j < 8) (c : Int) (B O pl cp : Nat) (w : World) (hr : VmAt base P bd da lps vw vs r w) (hr1 : r1 = { r with n := r.n + 1, pc := r.pc + 1 }) (hbase : base ≤ w.heap.size) (hB : B < base) (hn : r.n < 120) (hpc : r.pc < pl) (hpl : pl ≤ 48)
    (c0 : w.cell? ⟨B, O + r.pc * 4, none⟩ = some (.int .i64 2)) (c1 : w.cell? ⟨B, O + r.pc * 4 + 1, none⟩ = some (.int .i64 (i : Int))) (c2 : w.cell? ⟨B, O + r.pc * 4 + 2, none⟩ = some (.int .i64 (j : Int))) (c3 : w.cell? ⟨B, O + r.pc * 4 + 3, none⟩ = some (.int .i64 c)) :
    Calls Tryz.prog 105 #[.pointer (some ⟨P, 0, none⟩), .slice (some ⟨B, O, none⟩) pl cp] w fun e w' => e = .returned (.tuple #[]) ∧ (∃ vs', VmAt base P bd da lps vw vs' { r1 with g := upd r1.g i (r1.g j) } w') ∧ Below base w w' ∧ Keep7 w w' := by
  have HM := Lib.hid (must_ok 1)
  have HBASE := Lib.hid hbase
  have dn : decide ((r.n : Int) < 120) = true := by rw [decide_eq_true_eq]; omega
  have bpc : ((r.pc : Nat) : Int) < (pl : Int) := by omega
  have lpc : (0 : Int) ≤ ((r.pc : Nat) : Int) := by omega
  have tpc : ((r.pc : Nat) : Int).toNat = r.pc := by omega
  have R1 : Hid (VmAt base P bd da lps vw vs { r with n := r.n + 1 } (w.setCell ⟨P, 13, none⟩ (.int .i64 ((r.n : Int) + 1)))) := hr.setN (r.n + 1)
  have L1 := Lib.hid ((Below.refl base w).setCell (p := ⟨P, 13, none⟩) hr.lo (.int .i64 ((r.n : Int) + 1)))
  have K1 : Hid (Keep7 w (w.setCell ⟨P, 13, none⟩ (.int .i64 ((r.n : Int) + 1)))) := keep_set hr.box (by decide) _ _
  have c0 := (L1.out.cell (p := ⟨B, O + r.pc * 4, none⟩) hB).trans c0
  have c1 := (L1.out.cell (p := ⟨B, O + r.pc * 4 + 1, none⟩) hB).trans c1
  have c2 := (L1.out.cell (p := ⟨B, O + r.pc * 4 + 2, none⟩) hB).trans c2
  have c3 := (L1.out.cell (p := ⟨B, O + r.pc * 4 + 3, none⟩) hB).trans c3
  have hL := Lib.hid hr.lo
  obtain ⟨p8, p9, p10, p11, p12, p13, p14, pf⟩ := hr.cells
  clear hr
  go_enter Tryz.func105, Tryz.ntmps105
  go_upto_region 2 with (go_at_call 110; refine (HM.out _).mono ?_; rintro e w1 ⟨rfl, hw1⟩; subst w1)
  generalize w.setCell ⟨P, 13, none⟩ (.int .i64 ((r.n : Int) + 1)) = u1 at *
  clear p8 p9 p10 p11 p12 p13 p14 pf dn
  obtain ⟨p8, p9, p10, p11, p12, p13, p14, pf⟩ := R1.out.cells
  have R2 := Lib.hid (R1.out.below (balloc u1 (.cells #[.int .i64 2, .int .i64 (i : Int), .int .i64 (j : Int), .int .i64 c] 99)))
  have L2 := Lib.hid (L1.out.trans ((balloc u1 (.cells #[.int .i64 2, .int .i64 (i : Int), .int .i64 (j : Int), .int .i64 c] 99)).mono (Nat.le_trans HBASE.out L1.out.size)))
  have X2 := Lib.hid (heap_alloc_new u1 (.cells #[.int .i64 2, .int .i64 (i : Int), .int .i64 (j : Int), .int .i64 c] 99))
  have K2 : Hid (Keep7 w (u1.alloc (.cells #[.int .i64 2, .int .i64 (i : Int), .int .i64 (j : Int), .int .i64 c] 99))) := K1.out.trans (keep_below (balloc u1 (.cells #[.int .i64 2, .int .i64 (i : Int), .int .i64 (j : Int), .int .i64 c] 99)))
  have P2 : Hid (u1.heap.size ≠ P) := by show _ ≠ _; have := lt_of_block R1.out.box; omega
  go_upto_region 3 with fail
  clear p8 p9 p10 p11 p12 p13 p14 pf c0 c1 c2 c3 R1 L1 K1
  generalize u1.alloc (.cells #[.int .i64 2, .int .i64 (i : Int), .int .i64 (j : Int), .int .i64 c] 99) = u2 at *
  generalize u1.heap.size = xb at *
  obtain ⟨p8, p9, p10, p11, p12, p13, p14, pf⟩ := R2.out.cells
  have RU : Hid (VmAt base P bd da lps vw vs r1 (u2.setCell ⟨P, 12, none⟩ (.int .i64 ((r.pc : Int) + 1)))) := by rw [hr1]; exact R2.out.setPc (r.pc + 1)
  have LU := Lib.hid (L2.out.setCell (p := ⟨P, 12, none⟩) hL.out (.int .i64 ((r.pc : Int) + 1)))
  have KU : Hid (Keep7 w (u2.setCell ⟨P, 12, none⟩ (.int .i64 ((r.pc : Int) + 1)))) := K2.out.trans (keep_set R2.out.box (by decide) _ _)
  have XU := Lib.hid ((Below.heap_setCell u2 ⟨P, 12, none⟩ (.int .i64 ((r.pc : Int) + 1)) _ P2.out).trans X2.out)
  go_upto_region 4 with fail
  clear p8 p9 p10 p11 p12 p13 p14 pf R2 L2 X2 K2 bpc lpc tpc
  generalize u2.setCell ⟨P, 12, none⟩ (.int .i64 ((r.pc : Int) + 1)) = u at *
  clear hr1
  have HPL := Lib.hid hpl
  clear hn hpc hpl hB
  obtain ⟨p8, p9, p10, p11, p12, p13, p14, pf⟩ := RU.out.cells
  obtain ⟨x0, x1, x2, x3⟩ := four_cells XU.out
  have gi := RU.out.reg hi
  have gfi := RU.out.fz i
  have bi : ((i : Nat) : Int) < 8 := by omega
  have li : (0 : Int) ≤ ((i : Nat) : Int) := by omega
  have ti : ((i : Nat) : Int).toNat = i := by omega
  have gj := RU.out.reg hj
  have gfj := RU.out.fz j
  have bj : ((j : Nat) : Int) < 8 := by omega
  have lj : (0 : Int) ≤ ((j : Nat) : Int) := by omega
  have tj : ((j : Nat) : Int).toNat = j := by omega
  go_wp2_with fail
  go_region
  go_wp2_with fail
  go_end0
  exact ⟨rfl, ⟨vs, (RU.out.setReg hi _).drew⟩, (LU.out.setCell (p := ⟨P, i, none⟩) RU.out.lo _).drew, (KU.out.trans (keep_set RU.out.box (by decide) _ _)).drew⟩
set_option maxHeartbeats 1600000 in
theorem vstep_jump (p : Nat) (b : Int) (c : Int) (B O pl cp : Nat) (w : World) (hr : VmAt base P bd da lps vw vs r w) (hr1 : r1 = { r with n := r.n + 1, pc := r.pc + 1 }) (hbase : base ≤ w.heap.size) (hB : B < base) (hn : r.n < 120) (hpc : r.pc < pl) (hpl : pl ≤ 48)
    (c0 : w.cell? ⟨B, O + r.pc * 4, none⟩ = some (.int .i64 9)) (c1 : w.cell? ⟨B, O + r.pc * 4 + 1, none⟩ = some (.int .i64 (p : Int))) (c2 : w.cell? ⟨B, O + r.pc * 4 + 2, none⟩ = some (.int .i64 b)) (c3 : w.cell? ⟨B, O + r.pc * 4 + 3, none⟩ = some (.int .i64 c)) :
    Calls Tryz.prog 105 #[.pointer (some ⟨P, 0, none⟩), .slice (some ⟨B, O, none⟩) pl cp] w fun e w' => e = .returned (.tuple #[]) ∧ (∃ vs', VmAt base P bd da lps vw vs' { r1 with pc := p } w') ∧ Below base w w' ∧ Keep7 w w' := by
  have HM := Lib.hid (must_ok 1)
  have HBASE := Lib.hid hbase
  have dn : decide ((r.n : Int) < 120) = true := by rw [decide_eq_true_eq]; omega
  have bpc : ((r.pc : Nat) : Int) < (pl : Int) := by omega
  have lpc : (0 : Int) ≤ ((r.pc : Nat) : Int) := by omega
  have tpc : ((r.pc : Nat) : Int).toNat = r.pc := by omega
  have R1 : Hid (VmAt base P bd da lps vw vs { r with n := r.n + 1 } (w.setCell ⟨P, 13, none⟩ (.int .i64 ((r.n : Int) + 1)))) := hr.setN (r.n + 1)
  have L1 := Lib.hid ((Below.refl base w).setCell (p := ⟨P, 13, none⟩) hr.lo (.int .i64 ((r.n : Int) + 1)))
  have K1 : Hid (Keep7 w (w.setCell ⟨P, 13, none⟩ (.int .i64 ((r.n : Int) + 1)))) := keep_set hr.box (by decide) _ _
  have c0 := (L1.out.cell (p := ⟨B, O + r.pc * 4, none⟩) hB).trans c0
  have c1 := (L1.out.cell (p := ⟨B, O + r.pc * 4 + 1, none⟩) hB).trans c1
  have c2 := (L1.out.cell (p := ⟨B, O + r.pc * 4 + 2, none⟩) hB).trans c2
  have c3 := (L1.out.cell (p := ⟨B, O + r.pc * 4 + 3, none⟩) hB).trans c3
  have hL := Lib.hid hr.lo
  obtain ⟨p8, p9, p10, p11, p12, p13, p14, pf⟩ := hr.cells
  clear hr
  go_enter Tryz.func105, Tryz.ntmps105
  go_upto_region 2 with (go_at_call 110; refine (HM.out _).mono ?_; rintro e w1 ⟨rfl, hw1⟩; subst w1)
  generalize w.setCell ⟨P, 13, none⟩ (.int .i64 ((r.n : Int) + 1)) = u1 at *
  clear p8 p9 p10 p11 p12 p13 p14 pf dn
  obtain ⟨p8, p9, p10, p11, p12, p13, p14, pf⟩ := R1.out.cells
  have R2 := Lib.hid (R1.out.below (balloc u1 (.cells #[.int .i64 9, .int .i64 (p : Int), .int .i64 b, .int .i64 c] 99)))
  have L2 := Lib.hid (L1.out.trans ((balloc u1 (.cells #[.int .i64 9, .int .i64 (p : Int), .int .i64 b, .int .i64 c] 99)).mono (Nat.le_trans HBASE.out L1.out.size)))
  have X2 := Lib.hid (heap_alloc_new u1 (.cells #[.int .i64 9, .int .i64 (p : Int), .int .i64 b, .int .i64 c] 99))
  have K2 : Hid (Keep7 w (u1.alloc (.cells #[.int .i64 9, .int .i64 (p : Int), .int .i64 b, .int .i64 c] 99))) := K1.out.trans (keep_below (balloc u1 (.cells #[.int .i64 9, .int .i64 (p : Int), .int .i64 b, .int .i64 c] 99)))
  have P2 : Hid (u1.heap.size ≠ P) := by show _ ≠ _; have := lt_of_block R1.out.box; omega
  go_upto_region 3 with fail
  clear p8 p9 p10 p11 p12 p13 p14 pf c0 c1 c2 c3 R1 L1 K1
  generalize u1.alloc (.cells #[.int .i64 9, .int .i64 (p : Int), .int .i64 b, .int .i64 c] 99) = u2 at *
  generalize u1.heap.size = xb at *
  obtain ⟨p8, p9, p10, p11, p12, p13, p14, pf⟩ := R2.out.cells
  have RU : Hid (VmAt base P bd da lps vw vs r1 (u2.setCell ⟨P, 12, none⟩ (.int .i64 ((r.pc : Int) + 1)))) := by rw [hr1]; exact R2.out.setPc (r.pc + 1)
  have LU := Lib.hid (L2.out.setCell (p := ⟨P, 12, none⟩) hL.out (.int .i64 ((r.pc : Int) + 1)))
  have KU : Hid (Keep7 w (u2.setCell ⟨P, 12, none⟩ (.int .i64 ((r.pc : Int) + 1)))) := K2.out.trans (keep_set R2.out.box (by decide) _ _)
  have XU := Lib.hid ((Below.heap_setCell u2 ⟨P, 12, none⟩ (.int .i64 ((r.pc : Int) + 1)) _ P2.out).trans X2.out)
  go_upto_region 4 with fail
  clear p8 p9 p10 p11 p12 p13 p14 pf R2 L2 X2 K2 bpc lpc tpc
  generalize u2.setCell ⟨P, 12, none⟩ (.int .i64 ((r.pc : Int) + 1)) = u at *
  clear hr1
  have HPL := Lib.hid hpl
  clear hn hpc hpl hB
  obtain ⟨p8, p9, p10, p11, p12, p13, p14, pf⟩ := RU.out.cells
  obtain ⟨x0, x1, x2, x3⟩ := four_cells XU.out
  go_wp2_with fail
  go_end0
  exact ⟨rfl, ⟨vs, RU.out.setPc p⟩, LU.out.setCell (p := ⟨P, 12, none⟩) RU.out.lo _, KU.out.trans (keep_set RU.out.box (by decide) _ _)⟩
set_option maxHeartbeats 1600000 in
theorem vstep_zero (i : Nat) (hi : i < 8) (p : Nat) (c : Int) (B O pl cp : Nat) (w : World) (hr : VmAt base P bd da lps vw vs r w) (hr1 : r1 = { r with n := r.n + 1, pc := r.pc + 1 }) (hbase : base ≤ w.heap.size) (hB : B < base) (hn : r.n < 120) (hpc : r.pc < pl) (hpl : pl ≤ 48)
    (c0 : w.cell? ⟨B, O + r.pc * 4, none⟩ = some (.int .i64 10)) (c1 : w.cell? ⟨B, O + r.pc * 4 + 1, none⟩ = some (.int .i64 (i : Int))) (c2 : w.cell? ⟨B, O + r.pc * 4 + 2, none⟩ = some (.int .i64 (p : Int))) (c3 : w.cell? ⟨B, O + r.pc * 4 + 3, none⟩ = some (.int .i64 c)) (h0 : r1.g i = 0) :
    Calls Tryz.prog 105 #[.pointer (some ⟨P, 0, none⟩), .slice (some ⟨B, O, none⟩) pl cp] w fun e w' => e = .returned (.tuple #[]) ∧ (∃ vs', VmAt base P bd da lps vw vs' { r1 with pc := p } w') ∧ Below base w w' ∧ Keep7 w w' := by
  have HM := Lib.hid (must_ok 1)
  have HBASE := Lib.hid hbase
  have d0 : (r1.g i == 0) = true := by simp [h0]
  clear h0
  have dn : decide ((r.n : Int) < 120) = true := by rw [decide_eq_true_eq]; omega
  have bpc : ((r.pc : Nat) : Int) < (pl : Int) := by omega
  have lpc : (0 : Int) ≤ ((r.pc : Nat) : Int) := by omega
  have tpc : ((r.pc : Nat) : Int).toNat = r.pc := by omega
  have R1 : Hid (VmAt base P bd da lps vw vs { r with n := r.n + 1 } (w.setCell ⟨P, 13, none⟩ (.int .i64 ((r.n : Int) + 1)))) := hr.setN (r.n + 1)
  have L1 := Lib.hid ((Below.refl base w).setCell (p := ⟨P, 13, none⟩) hr.lo (.int .i64 ((r.n : Int) + 1)))
  have K1 : Hid (Keep7 w (w.setCell ⟨P, 13, none⟩ (.int .i64 ((r.n : Int) + 1)))) := keep_set hr.box (by decide) _ _
  have c0 := (L1.out.cell (p := ⟨B, O + r.pc * 4, none⟩) hB).trans c0
  have c1 := (L1.out.cell (p := ⟨B, O + r.pc * 4 + 1, none⟩) hB).trans c1
  have c2 := (L1.out.cell (p := ⟨B, O + r.pc * 4 + 2, none⟩) hB).trans c2
  have c3 := (L1.out.cell (p := ⟨B, O + r.pc * 4 + 3, none⟩) hB).trans c3
  have hL := Lib.hid hr.lo
  obtain ⟨p8, p9, p10, p11, p12, p13, p14, pf⟩ := hr.cells
  clear hr
  go_enter Tryz.func105, Tryz.ntmps105
  go_upto_region 2 with (go_at_call 110; refine (HM.out _).mono ?_; rintro e w1 ⟨rfl, hw1⟩; subst w1)
  generalize w.setCell ⟨P, 13, none⟩ (.int .i64 ((r.n : Int) + 1)) = u1 at *
  clear p8 p9 p10 p11 p12 p13 p14 pf dn
  obtain ⟨p8, p9, p10, p11, p12, p13, p14, pf⟩ := R1.out.cells
  have R2 := Lib.hid (R1.out.below (balloc u1 (.cells #[.int .i64 10, .int .i64 (i : Int), .int .i64 (p : Int), .int .i64 c] 99)))
  have L2 := Lib.hid (L1.out.trans ((balloc u1 (.cells #[.int .i64 10, .int .i64 (i : Int), .int .i64 (p : Int), .int .i64 c] 99)).mono (Nat.le_trans HBASE.out L1.out.size)))
  have X2 := Lib.hid (heap_alloc_new u1 (.cells #[.int .i64 10, .int .i64 (i : Int), .int .i64 (p : Int), .int .i64 c] 99))
  have K2 : Hid (Keep7 w (u1.alloc (.cells #[.int .i64 10, .int .i64 (i : Int), .int .i64 (p : Int), .int .i64 c] 99))) := K1.out.trans (keep_below (balloc u1 (.cells #[.int .i64 10, .int .i64 (i : Int), .int .i64 (p : Int), .int .i64 c] 99)))
  have P2 : Hid (u1.heap.size ≠ P) := by show _ ≠ _; have := lt_of_block R1.out.box; omega
  go_upto_region 3 with fail
  clear p8 p9 p10 p11 p12 p13 p14 pf c0 c1 c2 c3 R1 L1 K1
  generalize u1.alloc (.cells #[.int .i64 10, .int .i64 (i : Int), .int .i64 (p : Int), .int .i64 c] 99) = u2 at *
  generalize u1.heap.size = xb at *
  obtain ⟨p8, p9, p10, p11, p12, p13, p14, pf⟩ := R2.out.cells
  have RU : Hid (VmAt base P bd da lps vw vs r1 (u2.setCell ⟨P, 12, none⟩ (.int .i64 ((r.pc : Int) + 1)))) := by rw [hr1]; exact R2.out.setPc (r.pc + 1)
  have LU := Lib.hid (L2.out.setCell (p := ⟨P, 12, none⟩) hL.out (.int .i64 ((r.pc : Int) + 1)))
  have KU : Hid (Keep7 w (u2.setCell ⟨P, 12, none⟩ (.int .i64 ((r.pc : Int) + 1)))) := K2.out.trans (keep_set R2.out.box (by decide) _ _)
  have XU := Lib.hid ((Below.heap_setCell u2 ⟨P, 12, none⟩ (.int .i64 ((r.pc : Int) + 1)) _ P2.out).trans X2.out)
  go_upto_region 4 with fail
  clear p8 p9 p10 p11 p12 p13 p14 pf R2 L2 X2 K2 bpc lpc tpc
  generalize u2.setCell ⟨P, 12, none⟩ (.int .i64 ((r.pc : Int) + 1)) = u at *
  clear hr1
  have HPL := Lib.hid hpl
  clear hn hpc hpl hB
  obtain ⟨p8, p9, p10, p11, p12, p13, p14, pf⟩ := RU.out.cells
  obtain ⟨x0, x1, x2, x3⟩ := four_cells XU.out
  have gi := RU.out.reg hi
  have gfi := RU.out.fz i
  have bi : ((i : Nat) : Int) < 8 := by omega
  have li : (0 : Int) ≤ ((i : Nat) : Int) := by omega
  have ti : ((i : Nat) : Int).toNat = i := by omega
  go_wp2_with fail
  go_region
  go_wp2_with fail
  go_end0
  exact ⟨rfl, ⟨vs, RU.out.drew.setPc p⟩, LU.out.drew.setCell (p := ⟨P, 12, none⟩) RU.out.lo _, KU.out.drew.trans (keep_set RU.out.drew.box (by decide) _ _)⟩
set_option maxHeartbeats 1600000 in
theorem vstep_nonzero (i : Nat) (hi : i < 8) (p : Nat) (c : Int) (B O pl cp : Nat) (w : World) (hr : VmAt base P bd da lps vw vs r w) (hr1 : r1 = { r with n := r.n + 1, pc := r.pc + 1 }) (hbase : base ≤ w.heap.size) (hB : B < base) (hn : r.n < 120) (hpc : r.pc < pl) (hpl : pl ≤ 48)
    (c0 : w.cell? ⟨B, O + r.pc * 4, none⟩ = some (.int .i64 10)) (c1 : w.cell? ⟨B, O + r.pc * 4 + 1, none⟩ = some (.int .i64 (i : Int))) (c2 : w.cell? ⟨B, O + r.pc * 4 + 2, none⟩ = some (.int .i64 (p : Int))) (c3 : w.cell? ⟨B, O + r.pc * 4 + 3, none⟩ = some (.int .i64 c)) (h0 : r1.g i ≠ 0) :
    Calls Tryz.prog 105 #[.pointer (some ⟨P, 0, none⟩), .slice (some ⟨B, O, none⟩) pl cp] w fun e w' => e = .returned (.tuple #[]) ∧ (∃ vs', VmAt base P bd da lps vw vs' r1 w') ∧ Below base w w' ∧ Keep7 w w' := by
  have HM := Lib.hid (must_ok 1)
  have HBASE := Lib.hid hbase
  have d0 : (r1.g i == 0) = false := by simp [h0]
  clear h0
  have dn : decide ((r.n : Int) < 120) = true := by rw [decide_eq_true_eq]; omega
  have bpc : ((r.pc : Nat) : Int) < (pl : Int) := by omega
  have lpc : (0 : Int) ≤ ((r.pc : Nat) : Int) := by omega
  have tpc : ((r.pc : Nat) : Int).toNat = r.pc := by omega
  have R1 : Hid (VmAt base P bd da lps vw vs { r with n := r.n + 1 } (w.setCell ⟨P, 13, none⟩ (.int .i64 ((r.n : Int) + 1)))) := hr.setN (r.n + 1)
  have L1 := Lib.hid ((Below.refl base w).setCell (p := ⟨P, 13, none⟩) hr.lo (.int .i64 ((r.n : Int) + 1)))
  have K1 : Hid (Keep7 w (w.setCell ⟨P, 13, none⟩ (.int .i64 ((r.n : Int) + 1)))) := keep_set hr.box (by decide) _ _
  have c0 := (L1.out.cell (p := ⟨B, O + r.pc * 4, none⟩) hB).trans c0
  have c1 := (L1.out.cell (p := ⟨B, O + r.pc * 4 + 1, none⟩) hB).trans c1
  have c2 := (L1.out.cell (p := ⟨B, O + r.pc * 4 + 2, none⟩) hB).trans c2
  have c3 := (L1.out.cell (p := ⟨B, O + r.pc * 4 + 3, none⟩) hB).trans c3
  have hL := Lib.hid hr.lo
  obtain ⟨p8, p9, p10, p11, p12, p13, p14, pf⟩ := hr.cells
  clear hr
  go_enter Tryz.func105, Tryz.ntmps105
  go_upto_region 2 with (go_at_call 110; refine (HM.out _).mono ?_; rintro e w1 ⟨rfl, hw1⟩; subst w1)
  generalize w.setCell ⟨P, 13, none⟩ (.int .i64 ((r.n : Int) + 1)) = u1 at *
  clear p8 p9 p10 p11 p12 p13 p14 pf dn
  obtain ⟨p8, p9, p10, p11, p12, p13, p14, pf⟩ := R1.out.cells
  have R2 := Lib.hid (R1.out.below (balloc u1 (.cells #[.int .i64 10, .int .i64 (i : Int), .int .i64 (p : Int), .int .i64 c] 99)))
  have L2 := Lib.hid (L1.out.trans ((balloc u1 (.cells #[.int .i64 10, .int .i64 (i : Int), .int .i64 (p : Int), .int .i64 c] 99)).mono (Nat.le_trans HBASE.out L1.out.size)))
  have X2 := Lib.hid (heap_alloc_new u1 (.cells #[.int .i64 10, .int .i64 (i : Int), .int .i64 (p : Int), .int .i64 c] 99))
  have K2 : Hid (Keep7 w (u1.alloc (.cells #[.int .i64 10, .int .i64 (i : Int), .int .i64 (p : Int), .int .i64 c] 99))) := K1.out.trans (keep_below (balloc u1 (.cells #[.int .i64 10, .int .i64 (i : Int), .int .i64 (p : Int), .int .i64 c] 99)))
  have P2 : Hid (u1.heap.size ≠ P) := by show _ ≠ _; have := lt_of_block R1.out.box; omega
  go_upto_region 3 with fail
  clear p8 p9 p10 p11 p12 p13 p14 pf c0 c1 c2 c3 R1 L1 K1
  generalize u1.alloc (.cells #[.int .i64 10, .int .i64 (i : Int), .int .i64 (p : Int), .int .i64 c] 99) = u2 at *
  generalize u1.heap.size = xb at *
  obtain ⟨p8, p9, p10, p11, p12, p13, p14, pf⟩ := R2.out.cells
  have RU : Hid (VmAt base P bd da lps vw vs r1 (u2.setCell ⟨P, 12, none⟩ (.int .i64 ((r.pc : Int) + 1)))) := by rw [hr1]; exact R2.out.setPc (r.pc + 1)
  have LU := Lib.hid (L2.out.setCell (p := ⟨P, 12, none⟩) hL.out (.int .i64 ((r.pc : Int) + 1)))
  have KU : Hid (Keep7 w (u2.setCell ⟨P, 12, none⟩ (.int .i64 ((r.pc : Int) + 1)))) := K2.out.trans (keep_set R2.out.box (by decide) _ _)
  have XU := Lib.hid ((Below.heap_setCell u2 ⟨P, 12, none⟩ (.int .i64 ((r.pc : Int) + 1)) _ P2.out).trans X2.out)
  go_upto_region 4 with fail
  clear p8 p9 p10 p11 p12 p13 p14 pf R2 L2 X2 K2 bpc lpc tpc
  generalize u2.setCell ⟨P, 12, none⟩ (.int .i64 ((r.pc : Int) + 1)) = u at *
  clear hr1
  have HPL := Lib.hid hpl
  clear hn hpc hpl hB
  obtain ⟨p8, p9, p10, p11, p12, p13, p14, pf⟩ := RU.out.cells
  obtain ⟨x0, x1, x2, x3⟩ := four_cells XU.out
  have gi := RU.out.reg hi
  have gfi := RU.out.fz i
  have bi : ((i : Nat) : Int) < 8 := by omega
  have li : (0 : Int) ≤ ((i : Nat) : Int) := by omega
  have ti : ((i : Nat) : Int).toNat = i := by omega
  go_wp2_with fail
  go_region
  go_wp2_with fail
  go_end0
  exact ⟨rfl, ⟨vs, RU.out.drew⟩, LU.out.drew, KU.out.drew⟩
set_option maxHeartbeats 1600000 in
theorem vstep_rollbad (i : Nat) (hi : i < 8) (j : Nat) (hj : j < 8) (c : Int) (B O pl cp : Nat) (w : World) (hr : VmAt base P bd da lps vw vs r w) (hr1 : r1 = { r with n := r.n + 1, pc := r.pc + 1 }) (hbase : base ≤ w.heap.size) (hB : B < base) (hn : r.n < 120) (hpc : r.pc < pl) (hpl : pl ≤ 48)
    (c0 : w.cell? ⟨B, O + r.pc * 4, none⟩ = some (.int .i64 11)) (c1 : w.cell? ⟨B, O + r.pc * 4 + 1, none⟩ = some (.int .i64 (i : Int))) (c2 : w.cell? ⟨B, O + r.pc * 4 + 2, none⟩ = some (.int .i64 (j : Int))) (c3 : w.cell? ⟨B, O + r.pc * 4 + 3, none⟩ = some (.int .i64 c)) (hf : r1.g j < 1) :
    Calls Tryz.prog 105 #[.pointer (some ⟨P, 0, none⟩), .slice (some ⟨B, O, none⟩) pl cp] w fun e w' => e = .panicked [{ v := .iface 153 (.int .i64 4), recovered := false }] ∧ VmAt base P bd da lps vw vs r1 w' ∧ Below base w w' ∧ Keep7 w w' := by
  have HM := Lib.hid (must_ok 1)
  have HBASE := Lib.hid hbase
  have dn : decide ((r.n : Int) < 120) = true := by rw [decide_eq_true_eq]; omega
  have bpc : ((r.pc : Nat) : Int) < (pl : Int) := by omega
  have lpc : (0 : Int) ≤ ((r.pc : Nat) : Int) := by omega
  have tpc : ((r.pc : Nat) : Int).toNat = r.pc := by omega
  have R1 : Hid (VmAt base P bd da lps vw vs { r with n := r.n + 1 } (w.setCell ⟨P, 13, none⟩ (.int .i64 ((r.n : Int) + 1)))) := hr.setN (r.n + 1)
  have L1 := Lib.hid ((Below.refl base w).setCell (p := ⟨P, 13, none⟩) hr.lo (.int .i64 ((r.n : Int) + 1)))
  have K1 : Hid (Keep7 w (w.setCell ⟨P, 13, none⟩ (.int .i64 ((r.n : Int) + 1)))) := keep_set hr.box (by decide) _ _
  have c0 := (L1.out.cell (p := ⟨B, O + r.pc * 4, none⟩) hB).trans c0
  have c1 := (L1.out.cell (p := ⟨B, O + r.pc * 4 + 1, none⟩) hB).trans c1
  have c2 := (L1.out.cell (p := ⟨B, O + r.pc * 4 + 2, none⟩) hB).trans c2
  have c3 := (L1.out.cell (p := ⟨B, O + r.pc * 4 + 3, none⟩) hB).trans c3
  have hL := Lib.hid hr.lo
  obtain ⟨p8, p9, p10, p11, p12, p13, p14, pf⟩ := hr.cells
  clear hr
  go_enter Tryz.func105, Tryz.ntmps105
  go_upto_region 2 with (go_at_call 110; refine (HM.out _).mono ?_; rintro e w1 ⟨rfl, hw1⟩; subst w1)
  generalize w.setCell ⟨P, 13, none⟩ (.int .i64 ((r.n : Int) + 1)) = u1 at *
  clear p8 p9 p10 p11 p12 p13 p14 pf dn
  obtain ⟨p8, p9, p10, p11, p12, p13, p14, pf⟩ := R1.out.cells
  have R2 := Lib.hid (R1.out.below (balloc u1 (.cells #[.int .i64 11, .int .i64 (i : Int), .int .i64 (j : Int), .int .i64 c] 99)))
  have L2 := Lib.hid (L1.out.trans ((balloc u1 (.cells #[.int .i64 11, .int .i64 (i : Int), .int .i64 (j : Int), .int .i64 c] 99)).mono (Nat.le_trans HBASE.out L1.out.size)))
  have X2 := Lib.hid (heap_alloc_new u1 (.cells #[.int .i64 11, .int .i64 (i : Int), .int .i64 (j : Int), .int .i64 c] 99))
  have K2 : Hid (Keep7 w (u1.alloc (.cells #[.int .i64 11, .int .i64 (i : Int), .int .i64 (j : Int), .int .i64 c] 99))) := K1.out.trans (keep_below (balloc u1 (.cells #[.int .i64 11, .int .i64 (i : Int), .int .i64 (j : Int), .int .i64 c] 99)))
  have P2 : Hid (u1.heap.size ≠ P) := by show _ ≠ _; have := lt_of_block R1.out.box; omega
  go_upto_region 3 with fail
  clear p8 p9 p10 p11 p12 p13 p14 pf c0 c1 c2 c3 R1 L1 K1
  generalize u1.alloc (.cells #[.int .i64 11, .int .i64 (i : Int), .int .i64 (j : Int), .int .i64 c] 99) = u2 at *
  generalize u1.heap.size = xb at *
  obtain ⟨p8, p9, p10, p11, p12, p13, p14, pf⟩ := R2.out.cells
  have RU : Hid (VmAt base P bd da lps vw vs r1 (u2.setCell ⟨P, 12, none⟩ (.int .i64 ((r.pc : Int) + 1)))) := by rw [hr1]; exact R2.out.setPc (r.pc + 1)
  have LU := Lib.hid (L2.out.setCell (p := ⟨P, 12, none⟩) hL.out (.int .i64 ((r.pc : Int) + 1)))
  have KU : Hid (Keep7 w (u2.setCell ⟨P, 12, none⟩ (.int .i64 ((r.pc : Int) + 1)))) := K2.out.trans (keep_set R2.out.box (by decide) _ _)
  have XU := Lib.hid ((Below.heap_setCell u2 ⟨P, 12, none⟩ (.int .i64 ((r.pc : Int) + 1)) _ P2.out).trans X2.out)
  go_upto_region 4 with fail
  clear p8 p9 p10 p11 p12 p13 p14 pf R2 L2 X2 K2 bpc lpc tpc
  generalize u2.setCell ⟨P, 12, none⟩ (.int .i64 ((r.pc : Int) + 1)) = u at *
  clear hr1
  have HPL := Lib.hid hpl
  clear hn hpc hpl hB
  obtain ⟨p8, p9, p10, p11, p12, p13, p14, pf⟩ := RU.out.cells
  obtain ⟨x0, x1, x2, x3⟩ := four_cells XU.out
  have gi := RU.out.reg hi
  have gfi := RU.out.fz i
  have bi : ((i : Nat) : Int) < 8 := by omega
  have li : (0 : Int) ≤ ((i : Nat) : Int) := by omega
  have ti : ((i : Nat) : Int).toNat = i := by omega
  have gj := RU.out.reg hj
  have gfj := RU.out.fz j
  have bj : ((j : Nat) : Int) < 8 := by omega
  have lj : (0 : Int) ≤ ((j : Nat) : Int) := by omega
  have tj : ((j : Nat) : Int).toNat = j := by omega
  have RD := Lib.hid RU.out.drew
  have LD := Lib.hid LU.out.drew
  have KD : Hid (Keep7 w u.drew) := KU.out.drew
  have XD : Hid (u.drew.heap[xb]? = some (.cells #[.int .i64 11, .int .i64 (i : Int), .int .i64 (j : Int), .int .i64 c] 99 (0, 0))) := XU.out
  go_wp2_with fail
  refine wp_region_held_drew (S := (fun w' => w'.cell? ⟨xb, 0, none⟩ = some (.int .i64 11) ∧ w'.cell? ⟨xb, 1, none⟩ = some (.int .i64 (i : Int)) ∧ w'.cell? ⟨xb, 2, none⟩ = some (.int .i64 (j : Int)) ∧ w'.cell? ⟨xb, 3, none⟩ = some (.int .i64 c))) (by kernel_rfl) ?_ (fun hHeld => ?_)
  · exact ⟨(four_cells XD.out).1, (four_cells XD.out).2.1, (four_cells XD.out).2.2.1, (four_cells XD.out).2.2.2⟩
  change wpAnyH _ _ _ _ _ _ _ _ (World.drew u)
  clear p8 p9 p10 p11 p12 p13 p14 pf RU LU XU KU
  try clear gi gfi
  try clear gj gfj
  try clear gk gfk
  generalize u.drew = u0 at *
  first | refine tq0 0 rfl ?_ | refine tq1 0 rfl ?_
  try go_frame
  first | refine tq0 1 rfl ?_ | refine tq1 1 rfl ?_
  try go_frame
  first | refine tq0 2 rfl ?_ | refine tq1 2 rfl ?_
  try go_frame
  first | refine tq0 3 rfl ?_ | refine tq1 3 rfl ?_
  try go_frame
  first | refine tq0 4 rfl ?_ | refine tq1 4 rfl ?_
  try go_frame
  first | refine tq0 5 rfl ?_ | refine tq1 5 rfl ?_
  try go_frame
  first | refine tq0 6 rfl ?_ | refine tq1 6 rfl ?_
  try go_frame
  first | refine tq0 7 rfl ?_ | refine tq1 7 rfl ?_
  try go_frame
  first | refine tq0 8 rfl ?_ | refine tq1 8 rfl ?_
  try go_frame
  first | refine tq0 9 rfl ?_ | refine tq1 9 rfl ?_
  try go_frame
  first | refine tq0 12 rfl ?_ | refine tq1 12 rfl ?_
  try go_frame
  first | refine tq0 13 rfl ?_ | refine tq1 13 rfl ?_
  try go_frame
  refine wpAnyH_ready (rs := [10]) (by kernel_rfl) (by simp) ?_
  refine AllReadyH.cons (o := ⟨_, _, _, _, _, _⟩) rfl (fun K hK => ?_) AllReadyH.nil
  have gj := RD.out.reg hj
  go_simp
  refine hK.out _ _ ?_ (fun hHeld => ?_)
  · exact hHeld
  clear hK K gj
  try go_frame
  refine wpAnyH_ready (rs := [11]) (by kernel_rfl) (by simp) ?_
  refine AllReadyH.cons (o := ⟨_, _, _, _, _, _⟩) rfl (fun K hK => ?_) AllReadyH.nil
  go_simp
  go_at_call 112
  refine (roll7_low _ hf _ RD.out).mono ?_
  rintro e w1 ⟨rfl, hw1⟩
  subst w1
  exact ⟨rfl, rfl, RD.out, LD.out, KD.out⟩
set_option maxHeartbeats 1600000 in
theorem vstep_roll (i : Nat) (hi : i < 8) (j : Nat) (hj : j < 8) (c : Int) (B O pl cp : Nat) (w : World) (hr : VmAt base P bd da lps vw vs r w) (hr1 : r1 = { r with n := r.n + 1, pc := r.pc + 1 }) (hbase : base ≤ w.heap.size) (hB : B < base) (hn : r.n < 120) (hpc : r.pc < pl) (hpl : pl ≤ 48)
    (c0 : w.cell? ⟨B, O + r.pc * 4, none⟩ = some (.int .i64 11)) (c1 : w.cell? ⟨B, O + r.pc * 4 + 1, none⟩ = some (.int .i64 (i : Int))) (c2 : w.cell? ⟨B, O + r.pc * 4 + 2, none⟩ = some (.int .i64 (j : Int))) (c3 : w.cell? ⟨B, O + r.pc * 4 + 3, none⟩ = some (.int .i64 c)) (hf : 1 ≤ r1.g j) (hf2 : r1.g j ≤ 9223372036854775807) :
    Calls Tryz.prog 105 #[.pointer (some ⟨P, 0, none⟩), .slice (some ⟨B, O, none⟩) pl cp] w fun e w' => e = .returned (.tuple #[]) ∧ (∃ vs', VmAt base P bd da lps vw vs' { r1 with g := upd r1.g i (belowN (behindN da r1.dice) (r1.g j)), dice := wrap64 (r1.dice + 1) } w') ∧ Below base w w' ∧ Keep7 w w' := by
  have HM := Lib.hid (must_ok 1)
  have HBASE := Lib.hid hbase
  have HF := Lib.hid hf
  have HF2 := Lib.hid hf2
  clear hf hf2
  have dn : decide ((r.n : Int) < 120) = true := by rw [decide_eq_true_eq]; omega
  have bpc : ((r.pc : Nat) : Int) < (pl : Int) := by omega
  have lpc : (0 : Int) ≤ ((r.pc : Nat) : Int) := by omega
  have tpc : ((r.pc : Nat) : Int).toNat = r.pc := by omega
  have R1 : Hid (VmAt base P bd da lps vw vs { r with n := r.n + 1 } (w.setCell ⟨P, 13, none⟩ (.int .i64 ((r.n : Int) + 1)))) := hr.setN (r.n + 1)
  have L1 := Lib.hid ((Below.refl base w).setCell (p := ⟨P, 13, none⟩) hr.lo (.int .i64 ((r.n : Int) + 1)))
  have K1 : Hid (Keep7 w (w.setCell ⟨P, 13, none⟩ (.int .i64 ((r.n : Int) + 1)))) := keep_set hr.box (by decide) _ _
  have c0 := (L1.out.cell (p := ⟨B, O + r.pc * 4, none⟩) hB).trans c0
  have c1 := (L1.out.cell (p := ⟨B, O + r.pc * 4 + 1, none⟩) hB).trans c1
  have c2 := (L1.out.cell (p := ⟨B, O + r.pc * 4 + 2, none⟩) hB).trans c2
  have c3 := (L1.out.cell (p := ⟨B, O + r.pc * 4 + 3, none⟩) hB).trans c3
  have hL := Lib.hid hr.lo
  obtain ⟨p8, p9, p10, p11, p12, p13, p14, pf⟩ := hr.cells
  clear hr
  go_enter Tryz.func105, Tryz.ntmps105
  go_upto_region 2 with (go_at_call 110; refine (HM.out _).mono ?_; rintro e w1 ⟨rfl, hw1⟩; subst w1)
  generalize w.setCell ⟨P, 13, none⟩ (.int .i64 ((r.n : Int) + 1)) = u1 at *
  clear p8 p9 p10 p11 p12 p13 p14 pf dn
  obtain ⟨p8, p9, p10, p11, p12, p13, p14, pf⟩ := R1.out.cells
  have R2 := Lib.hid (R1.out.below (balloc u1 (.cells #[.int .i64 11, .int .i64 (i : Int), .int .i64 (j : Int), .int .i64 c] 99)))
  have L2 := Lib.hid (L1.out.trans ((balloc u1 (.cells #[.int .i64 11, .int .i64 (i : Int), .int .i64 (j : Int), .int .i64 c] 99)).mono (Nat.le_trans HBASE.out L1.out.size)))
  have X2 := Lib.hid (heap_alloc_new u1 (.cells #[.int .i64 11, .int .i64 (i : Int), .int .i64 (j : Int), .int .i64 c] 99))
  have K2 : Hid (Keep7 w (u1.alloc (.cells #[.int .i64 11, .int .i64 (i : Int), .int .i64 (j : Int), .int .i64 c] 99))) := K1.out.trans (keep_below (balloc u1 (.cells #[.int .i64 11, .int .i64 (i : Int), .int .i64 (j : Int), .int .i64 c] 99)))
  have P2 : Hid (u1.heap.size ≠ P) := by show _ ≠ _; have := lt_of_block R1.out.box; omega
  go_upto_region 3 with fail
  clear p8 p9 p10 p11 p12 p13 p14 pf c0 c1 c2 c3 R1 L1 K1
  generalize u1.alloc (.cells #[.int .i64 11, .int .i64 (i : Int), .int .i64 (j : Int), .int .i64 c] 99) = u2 at *
  generalize u1.heap.size = xb at *
  obtain ⟨p8, p9, p10, p11, p12, p13, p14, pf⟩ := R2.out.cells
  have RU : Hid (VmAt base P bd da lps vw vs r1 (u2.setCell ⟨P, 12, none⟩ (.int .i64 ((r.pc : Int) + 1)))) := by rw [hr1]; exact R2.out.setPc (r.pc + 1)
  have LU := Lib.hid (L2.out.setCell (p := ⟨P, 12, none⟩) hL.out (.int .i64 ((r.pc : Int) + 1)))
  have KU : Hid (Keep7 w (u2.setCell ⟨P, 12, none⟩ (.int .i64 ((r.pc : Int) + 1)))) := K2.out.trans (keep_set R2.out.box (by decide) _ _)
  have XU := Lib.hid ((Below.heap_setCell u2 ⟨P, 12, none⟩ (.int .i64 ((r.pc : Int) + 1)) _ P2.out).trans X2.out)
  go_upto_region 4 with fail
  clear p8 p9 p10 p11 p12 p13 p14 pf R2 L2 X2 K2 bpc lpc tpc
  generalize u2.setCell ⟨P, 12, none⟩ (.int .i64 ((r.pc : Int) + 1)) = u at *
  clear hr1
  have HPL := Lib.hid hpl
  clear hn hpc hpl hB
  obtain ⟨p8, p9, p10, p11, p12, p13, p14, pf⟩ := RU.out.cells
  obtain ⟨x0, x1, x2, x3⟩ := four_cells XU.out
  have gi := RU.out.reg hi
  have gfi := RU.out.fz i
  have bi : ((i : Nat) : Int) < 8 := by omega
  have li : (0 : Int) ≤ ((i : Nat) : Int) := by omega
  have ti : ((i : Nat) : Int).toNat = i := by omega
  have gj := RU.out.reg hj
  have gfj := RU.out.fz j
  have bj : ((j : Nat) : Int) < 8 := by omega
  have lj : (0 : Int) ≤ ((j : Nat) : Int) := by omega
  have tj : ((j : Nat) : Int).toNat = j := by omega
  have RD := Lib.hid RU.out.drew
  have LD := Lib.hid LU.out.drew
  have KD : Hid (Keep7 w u.drew) := KU.out.drew
  have XD : Hid (u.drew.heap[xb]? = some (.cells #[.int .i64 11, .int .i64 (i : Int), .int .i64 (j : Int), .int .i64 c] 99 (0, 0))) := XU.out
  go_wp2_with fail
  refine wp_region_held_drew (S := (fun w' => w'.cell? ⟨xb, 0, none⟩ = some (.int .i64 11) ∧ w'.cell? ⟨xb, 1, none⟩ = some (.int .i64 (i : Int)) ∧ w'.cell? ⟨xb, 2, none⟩ = some (.int .i64 (j : Int)) ∧ w'.cell? ⟨xb, 3, none⟩ = some (.int .i64 c))) (by kernel_rfl) ?_ (fun hHeld => ?_)
  · exact ⟨(four_cells XD.out).1, (four_cells XD.out).2.1, (four_cells XD.out).2.2.1, (four_cells XD.out).2.2.2⟩
  change wpAnyH _ _ _ _ _ _ _ _ (World.drew u)
  clear p8 p9 p10 p11 p12 p13 p14 pf RU LU XU KU
  try clear gi gfi
  try clear gj gfj
  try clear gk gfk
  generalize u.drew = u0 at *
  first | refine tq0 0 rfl ?_ | refine tq1 0 rfl ?_
  try go_frame
  first | refine tq0 1 rfl ?_ | refine tq1 1 rfl ?_
  try go_frame
  first | refine tq0 2 rfl ?_ | refine tq1 2 rfl ?_
  try go_frame
  first | refine tq0 3 rfl ?_ | refine tq1 3 rfl ?_
  try go_frame
  first | refine tq0 4 rfl ?_ | refine tq1 4 rfl ?_
  try go_frame
  first | refine tq0 5 rfl ?_ | refine tq1 5 rfl ?_
  try go_frame
  first | refine tq0 6 rfl ?_ | refine tq1 6 rfl ?_
  try go_frame
  first | refine tq0 7 rfl ?_ | refine tq1 7 rfl ?_
  try go_frame
  first | refine tq0 8 rfl ?_ | refine tq1 8 rfl ?_
  try go_frame
  first | refine tq0 9 rfl ?_ | refine tq1 9 rfl ?_
  try go_frame
  first | refine tq0 12 rfl ?_ | refine tq1 12 rfl ?_
  try go_frame
  first | refine tq0 13 rfl ?_ | refine tq1 13 rfl ?_
  try go_frame
  refine wpAnyH_ready (rs := [10]) (by kernel_rfl) (by simp) ?_
  refine AllReadyH.cons (o := ⟨_, _, _, _, _, _⟩) rfl (fun K hK => ?_) AllReadyH.nil
  have gj := RD.out.reg hj
  go_simp
  refine hK.out _ _ ?_ (fun hHeld => ?_)
  · exact hHeld
  clear hK K gj
  try go_frame
  refine wpAnyH_ready (rs := [11]) (by kernel_rfl) (by simp) ?_
  refine AllReadyH.cons (o := ⟨_, _, _, _, _, _⟩) rfl (fun K hK => ?_) AllReadyH.nil
  go_simp
  go_at_call 112
  refine (roll7_pos _ HF.out HF2.out _ RD.out).mono ?_
  rintro e w1 ⟨rfl, hw1⟩
  subst w1
  have RE := Lib.hid (RD.out.setDice (wrap64 (r1.dice + 1)))
  have LE := Lib.hid (LD.out.setCell (p := ⟨bd, 1, none⟩) RD.out.lo2 (.int .i64 (wrap64 (r1.dice + 1))))
  have KE : Hid (Keep7 w (u0.setCell ⟨bd, 1, none⟩ (.int .i64 (wrap64 (r1.dice + 1))))) := KD.out.trans (keep_set RD.out.dice (by decide) _ _)
  have XE := Lib.hid ((Below.heap_setCell u0 ⟨bd, 1, none⟩ (.int .i64 (wrap64 (r1.dice + 1))) xb (RD.out.notD XD.out (by decide))).trans XD.out)
  refine hK.out _ _ ?_ (fun hHeld => ?_)
  · exact ⟨(four_cells XE.out).1, (four_cells XE.out).2.1, (four_cells XE.out).2.2.1, (four_cells XE.out).2.2.2⟩
  clear hK K
  try go_frame
  generalize u0.setCell ⟨bd, 1, none⟩ (.int .i64 (wrap64 (r1.dice + 1))) = u3 at *
  first | refine tq0 14 rfl ?_ | refine tq1 14 rfl ?_
  try go_frame
  have gi := RE.out.reg hi
  have gfi := RE.out.fz i
  refine wpAnyH_ready (rs := [15]) (by kernel_rfl) (by simp) ?_
  refine AllReadyH.cons (o := ⟨_, _, _, _, _, _⟩) rfl (fun K hK => ?_) AllReadyH.nil
  go_simp
  have XS := Lib.hid ((Below.heap_setCell u3 ⟨P, i, none⟩ (.int .i64 (belowN (behindN da r1.dice) (r1.g j))) xb P2.out).trans XE.out)
  refine hK.out _ _ ?_ (fun hHeld => ?_)
  · exact ⟨(four_cells XS.out).1, (four_cells XS.out).2.1, (four_cells XS.out).2.2.1, (four_cells XS.out).2.2.2⟩
  clear hK K
  try go_frame
  refine wpAnyH_done (by kernel_rfl) ?_ _
  go_wp2_with fail
  go_end0
  exact ⟨rfl, ⟨vs, RE.out.setReg hi _⟩, LE.out.setCell (p := ⟨P, i, none⟩) RE.out.lo _, KE.out.trans (keep_set RE.out.box (by decide) _ _)⟩
end

end Go.Proofs.YthkfaeplmmlnlaaGreat
