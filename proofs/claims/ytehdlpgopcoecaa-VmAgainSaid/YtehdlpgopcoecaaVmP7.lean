/- The program's step, whole: what does not go wrong, what does, and what would need more steps than there may be. -/
import Derived.Test.YtehdlpgopcoecaaVmP3
import Derived.Test.YtehdlpgopcoecaaVmP4
import Derived.Test.YtehdlpgopcoecaaVmP5
import Derived.Test.YtehdlpgopcoecaaVmP6
import Derived.Test.YtehdlpgopcoecaaVmAll
namespace Go.Proofs.Ytehdlpgopcoecaa
open Go.RowKit
set_option linter.unusedVariables false
set_option maxRecDepth 100000

section
variable {base P bd da : Nat} {lps : Int} {vw vs : Value} {r r1 : Mch}
theorem ins_kinds {x : I4} {len : Int} (hx : insB x len = true) (h0 : x.op ≠ 0) : x.op = 1 ∨ x.op = 2 ∨ (3 ≤ x.op ∧ x.op ≤ 8) ∨ x.op = 9 ∨ x.op = 10 ∨ x.op = 11 ∨ x.op = 12 ∨ x.op = 13 ∨ x.op = 14 := by
  obtain ⟨op, a, b, c⟩ := x
  unfold insB at hx
  simp only at hx h0 ⊢
  refine Classical.byContradiction fun hc => ?_
  have : kindI op = 6 := by unfold kindI; rw [if_neg (by omega), if_neg (by omega), if_neg (by omega), if_neg (by omega), if_neg (by omega), if_neg (by omega)]
  rw [this] at hx
  simp [kindB] at hx
theorem reg7 {n : Int} (h : regB n = true) : ∃ i : Nat, n = (i : Int) ∧ i < 8 := by
  obtain ⟨h1, h2⟩ := reg_bd h
  exact ⟨n.toNat, by omega, by omega⟩
theorem plc7 {n len : Int} (h : plcB n len = true) : ∃ i : Nat, n = (i : Int) := ⟨n.toNat, by have := plc_bd h; omega⟩
theorem oneF_two (op : Int) (i j k : Nat) (h3 : 3 ≤ op) (h8 : op ≤ 8) (lps : Int) (r : Mch) : oneF ⟨op, i, j, k⟩ lps r = twoF op (r.g k) := by
  unfold oneF twoF
  simp only [Int.toNat_natCast]
  rw [if_neg (by omega), if_neg (by omega), if_neg (by omega), if_neg (by omega)]
  by_cases h : op = 6 ∨ op = 7
  · rw [if_pos h]
    by_cases h2 : r.g k = 0
    · rw [if_pos h2, if_pos ⟨h, h2⟩]
    · rw [if_neg h2, if_neg fun h => h2 h.2]
  · rw [if_neg h, if_neg fun h2 => h h2.1]
theorem oneR_two (op : Int) (i j k : Nat) (h3 : 3 ≤ op) (h8 : op ≤ 8) (seed me : Int) (r : Mch) : oneR ⟨op, i, j, k⟩ seed me r = { r with g := upd r.g i (twoV op (r.g j) (r.g k)) } := by
  unfold oneR
  simp only [Int.toNat_natCast]
  rw [if_neg (by omega), if_neg (by omega), if_neg (by omega), if_neg (by omega), if_neg (by omega), if_neg (by omega), if_neg (by omega), if_neg (by omega)]

/-- what does not go wrong -/
theorem vstep_ok (x : I4) (seed me : Int) (hda : da = wordN seed me) (B O pl cp : Nat) (w : World) (hr : VmAt base P bd da lps vw vs r w) (hr1 : r1 = { r with n := r.n + 1, pc := r.pc + 1 }) (hbase : base ≤ w.heap.size) (hB : B < base) (hn : r.n < 120) (hpc : r.pc < pl) (hpl : pl ≤ 48)
    (c0 : w.cell? ⟨B, O + r.pc * 4, none⟩ = some (.int .i64 x.op)) (c1 : w.cell? ⟨B, O + r.pc * 4 + 1, none⟩ = some (.int .i64 x.a)) (c2 : w.cell? ⟨B, O + r.pc * 4 + 2, none⟩ = some (.int .i64 x.b)) (c3 : w.cell? ⟨B, O + r.pc * 4 + 3, none⟩ = some (.int .i64 x.c))
    (hx : insB x (pl : Int) = true) (h0 : x.op ≠ 0) (hbd : Bd r1) (hf : oneF x lps r1 = 0) :
    Calls Try.prog 34 #[.pointer (some ⟨P, 0, none⟩), .slice (some ⟨B, O, none⟩) pl cp] w fun e w' => e = .returned (.tuple #[]) ∧ (∃ vs', VmAt base P bd da lps vw vs' (oneR x seed me r1) w') ∧ Below base w w' ∧ Keep7 w w' := by
  have hop := ins_kinds hx h0
  obtain ⟨op, a, b, c⟩ := x
  unfold insB at hx
  simp only at hx h0 hop c0 c1 c2 c3
  rcases hop with rfl | rfl | ⟨h3, h8⟩ | rfl | rfl | rfl | rfl | rfl | rfl
  · simp [kindI, kindB] at hx
    obtain ⟨i, rfl, hi⟩ := reg7 hx
    refine (vstep_set i hi b c B O pl cp w hr hr1 hbase hB hn hpc hpl c0 c1 c2 c3).mono fun e w' ⟨h1, ⟨vs', h2⟩, h3⟩ => ⟨h1, ⟨vs', ?_⟩, h3⟩
    simpa [oneR] using h2
  · simp [kindI, kindB] at hx
    obtain ⟨i, rfl, hi⟩ := reg7 hx.1
    obtain ⟨j, rfl, hj⟩ := reg7 hx.2
    refine (vstep_move i hi j hj c B O pl cp w hr hr1 hbase hB hn hpc hpl c0 c1 c2 c3).mono fun e w' ⟨h1, ⟨vs', h2⟩, h3⟩ => ⟨h1, ⟨vs', ?_⟩, h3⟩
    simpa [oneR] using h2
  · have hk : kindI op = 5 := by unfold kindI; rw [if_neg (by omega), if_neg (by omega), if_neg (by omega), if_neg (by omega), if_neg (by omega), if_pos (by omega)]
    rw [hk] at hx
    simp [kindB] at hx
    obtain ⟨i, rfl, hi⟩ := reg7 hx.1.1
    obtain ⟨j, rfl, hj⟩ := reg7 hx.1.2
    obtain ⟨k, rfl, hk⟩ := reg7 hx.2
    rw [oneF_two op i j k h3 h8] at hf
    rw [oneR_two op i j k h3 h8]
    exact vstep_two op i hi j hj k hk B O pl cp w hr hr1 hbase hB hn hpc hpl c0 c1 c2 c3 h3 h8 ⟨(hbd.g j).2, (hbd.g j).1⟩ hf
  · simp [kindI, kindB] at hx
    obtain ⟨p, rfl⟩ := plc7 hx
    refine (vstep_jump p b c B O pl cp w hr hr1 hbase hB hn hpc hpl c0 c1 c2 c3).mono fun e w' ⟨h1, ⟨vs', h2⟩, h3⟩ => ⟨h1, ⟨vs', ?_⟩, h3⟩
    simpa [oneR] using h2
  · simp [kindI, kindB] at hx
    obtain ⟨i, rfl, hi⟩ := reg7 hx.1
    obtain ⟨p, rfl⟩ := plc7 hx.2
    by_cases hz : r1.g i = 0
    · refine (vstep_zero i hi p c B O pl cp w hr hr1 hbase hB hn hpc hpl c0 c1 c2 c3 hz).mono fun e w' ⟨h1, ⟨vs', h2⟩, h3⟩ => ⟨h1, ⟨vs', ?_⟩, h3⟩
      simpa [oneR, hz] using h2
    · refine (vstep_nonzero i hi p c B O pl cp w hr hr1 hbase hB hn hpc hpl c0 c1 c2 c3 hz).mono fun e w' ⟨h1, ⟨vs', h2⟩, h3⟩ => ⟨h1, ⟨vs', ?_⟩, h3⟩
      simpa [oneR, hz] using h2
  · simp [kindI, kindB] at hx
    obtain ⟨i, rfl, hi⟩ := reg7 hx.1
    obtain ⟨j, rfl, hj⟩ := reg7 hx.2
    have hz : ¬ r1.g j < 1 := fun h => by simp [oneF, h] at hf
    refine (vstep_roll i hi j hj c B O pl cp w hr hr1 hbase hB hn hpc hpl c0 c1 c2 c3 (by omega) (hbd.g j).2).mono fun e w' ⟨h1, ⟨vs', h2⟩, h3⟩ => ⟨h1, ⟨vs', ?_⟩, h3⟩
    rw [hda, rollN_behind] at h2
    rw [hda]
    simpa [oneR] using h2
  · simp [kindI, kindB] at hx
    obtain ⟨i, rfl, hi⟩ := reg7 hx.1.1
    obtain ⟨j, rfl, hj⟩ := reg7 hx.1.2
    obtain ⟨k, rfl, hk⟩ := reg7 hx.2
    have hz : ¬ (r1.g i < 0 ∨ lps ≤ r1.g i) := fun h => by simp [oneF, h] at hf
    have h4 : ¬ 4 ≤ r1.ns := fun h => by simp [oneF, hz, h] at hf
    refine (vstep_send i hi j hj k hk B O pl cp w hr hr1 hbase hB hn hpc hpl c0 c1 c2 c3 (by omega) (by omega) (by omega)).mono fun e w' ⟨h1, ⟨vs', h2⟩, h3⟩ => ⟨h1, ⟨vs', ?_⟩, h3⟩
    simpa [oneR] using h2
  · simp [kindI, kindB] at hx
    obtain ⟨i, rfl, hi⟩ := reg7 hx.1
    obtain ⟨j, rfl, hj⟩ := reg7 hx.2
    have hz : ¬ (r1.g j < 0 ∨ (r1.nw : Int) ≤ r1.g j) := fun h => by simp [oneF, h] at hf
    refine (vstep_load i hi j hj c B O pl cp w hr hr1 hbase hB hn hpc hpl c0 c1 c2 c3 (r1.g j).toNat (by omega) (by omega)).mono fun e w' ⟨h1, ⟨vs', h2⟩, h3⟩ => ⟨h1, ⟨vs', ?_⟩, h3⟩
    simpa [oneR] using h2
  · simp [kindI, kindB] at hx
    obtain ⟨i, rfl, hi⟩ := reg7 hx.1
    obtain ⟨j, rfl, hj⟩ := reg7 hx.2
    have hz : ¬ (r1.g i < 0 ∨ (r1.nw : Int) ≤ r1.g i) := fun h => by simp [oneF, h] at hf
    refine (vstep_store i hi j hj c B O pl cp w hr hr1 hbase hB hn hpc hpl c0 c1 c2 c3 (r1.g i).toNat (by omega) (by omega)).mono fun e w' ⟨h1, ⟨vs', h2⟩, h3⟩ => ⟨h1, ⟨vs', ?_⟩, h3⟩
    simpa [oneR] using h2
/-- what goes wrong -/
theorem vstep_bad (x : I4) (B O pl cp : Nat) (w : World) (hr : VmAt base P bd da lps vw vs r w) (hr1 : r1 = { r with n := r.n + 1, pc := r.pc + 1 }) (hbase : base ≤ w.heap.size) (hB : B < base) (hn : r.n < 120) (hpc : r.pc < pl) (hpl : pl ≤ 48)
    (c0 : w.cell? ⟨B, O + r.pc * 4, none⟩ = some (.int .i64 x.op)) (c1 : w.cell? ⟨B, O + r.pc * 4 + 1, none⟩ = some (.int .i64 x.a)) (c2 : w.cell? ⟨B, O + r.pc * 4 + 2, none⟩ = some (.int .i64 x.b)) (c3 : w.cell? ⟨B, O + r.pc * 4 + 3, none⟩ = some (.int .i64 x.c))
    (hx : insB x (pl : Int) = true) (h0 : x.op ≠ 0) (hbd : Bd r1) (hf : oneF x lps r1 ≠ 0) :
    Calls Try.prog 34 #[.pointer (some ⟨P, 0, none⟩), .slice (some ⟨B, O, none⟩) pl cp] w fun e w' => e = .panicked [{ v := .iface 55 (.int .i64 (oneF x lps r1)), recovered := false }] ∧ VmAt base P bd da lps vw vs r1 w' ∧ Below base w w' ∧ Keep7 w w' := by
  have hop := ins_kinds hx h0
  obtain ⟨op, a, b, c⟩ := x
  unfold insB at hx
  simp only at hx h0 hop c0 c1 c2 c3
  rcases hop with rfl | rfl | ⟨h3, h8⟩ | rfl | rfl | rfl | rfl | rfl | rfl
  · exact absurd rfl hf
  · exact absurd rfl hf
  · have hk : kindI op = 5 := by unfold kindI; rw [if_neg (by omega), if_neg (by omega), if_neg (by omega), if_neg (by omega), if_neg (by omega), if_pos (by omega)]
    rw [hk] at hx
    simp [kindB] at hx
    obtain ⟨i, rfl, hi⟩ := reg7 hx.1.1
    obtain ⟨j, rfl, hj⟩ := reg7 hx.1.2
    obtain ⟨k, rfl, hk⟩ := reg7 hx.2
    rw [oneF_two op i j k h3 h8] at hf ⊢
    have e2 : twoF op (r1.g k) = 2 := by
      unfold twoF at hf ⊢
      split
      · rfl
      · rename_i h
        rw [if_neg h] at hf
        exact absurd rfl hf
    have := vstep_twobad op i hi j hj k hk B O pl cp w hr hr1 hbase hB hn hpc hpl c0 c1 c2 c3 h3 h8 ⟨(hbd.g j).2, (hbd.g j).1⟩ hf
    rw [e2]
    exact this
  · exact absurd rfl hf
  · exact absurd rfl hf
  · simp [kindI, kindB] at hx
    obtain ⟨i, rfl, hi⟩ := reg7 hx.1
    obtain ⟨j, rfl, hj⟩ := reg7 hx.2
    have hz : r1.g j < 1 := Classical.byContradiction fun h => by simp [oneF, h] at hf
    have e1 : oneF ⟨11, i, j, c⟩ lps r1 = 4 := by simp [oneF, hz]
    rw [e1]
    exact vstep_rollbad i hi j hj c B O pl cp w hr hr1 hbase hB hn hpc hpl c0 c1 c2 c3 hz
  · simp [kindI, kindB] at hx
    obtain ⟨i, rfl, hi⟩ := reg7 hx.1.1
    obtain ⟨j, rfl, hj⟩ := reg7 hx.1.2
    obtain ⟨k, rfl, hk⟩ := reg7 hx.2
    by_cases hl : r1.g i < 0
    · have e1 : oneF ⟨12, i, j, k⟩ lps r1 = 6 := by simp [oneF, hl]
      rw [e1]
      exact vstep_sendlow i hi j hj k hk B O pl cp w hr hr1 hbase hB hn hpc hpl c0 c1 c2 c3 hl
    · by_cases hh : lps ≤ r1.g i
      · have e1 : oneF ⟨12, i, j, k⟩ lps r1 = 6 := by simp [oneF, hh]
        rw [e1]
        exact vstep_sendfar i hi j hj k hk B O pl cp w hr hr1 hbase hB hn hpc hpl c0 c1 c2 c3 (by omega) hh
      · have hz : ¬ (r1.g i < 0 ∨ lps ≤ r1.g i) := by omega
        have h4 : 4 ≤ r1.ns := Classical.byContradiction fun h => by simp [oneF, hz, h] at hf
        have e1 : oneF ⟨12, i, j, k⟩ lps r1 = 5 := by simp [oneF, hz, h4]
        rw [e1]
        exact vstep_sendfull i hi j hj k hk B O pl cp w hr hr1 hbase hB hn hpc hpl c0 c1 c2 c3 (by omega) (by omega) h4
  · simp [kindI, kindB] at hx
    obtain ⟨i, rfl, hi⟩ := reg7 hx.1
    obtain ⟨j, rfl, hj⟩ := reg7 hx.2
    by_cases hl : r1.g j < 0
    · have e1 : oneF ⟨13, i, j, c⟩ lps r1 = 3 := by simp [oneF, hl]
      rw [e1]
      exact vstep_loadlow i hi j hj c B O pl cp w hr hr1 hbase hB hn hpc hpl c0 c1 c2 c3 hl
    · have hh : (r1.nw : Int) ≤ r1.g j := Classical.byContradiction fun h => by simp [oneF, hl, h] at hf
      have e1 : oneF ⟨13, i, j, c⟩ lps r1 = 3 := by simp [oneF, hh]
      rw [e1]
      exact vstep_loadhigh i hi j hj c B O pl cp w hr hr1 hbase hB hn hpc hpl c0 c1 c2 c3 (by omega) hh
  · simp [kindI, kindB] at hx
    obtain ⟨i, rfl, hi⟩ := reg7 hx.1
    obtain ⟨j, rfl, hj⟩ := reg7 hx.2
    by_cases hl : r1.g i < 0
    · have e1 : oneF ⟨14, i, j, c⟩ lps r1 = 3 := by simp [oneF, hl]
      rw [e1]
      exact vstep_storelow i hi j hj c B O pl cp w hr hr1 hbase hB hn hpc hpl c0 c1 c2 c3 hl
    · have hh : (r1.nw : Int) ≤ r1.g i := Classical.byContradiction fun h => by simp [oneF, hl, h] at hf
      have e1 : oneF ⟨14, i, j, c⟩ lps r1 = 3 := by simp [oneF, hh]
      rw [e1]
      exact vstep_storehigh i hi j hj c B O pl cp w hr hr1 hbase hB hn hpc hpl c0 c1 c2 c3 (by omega) hh
/-- what would need more steps than there may be -/
theorem vstep_fuel (ap : Option Addr) (pl cp : Nat) (w : World) (hr : VmAt base P bd da lps vw vs r w) (hn : 120 ≤ r.n) :
    Calls Try.prog 34 #[.pointer (some ⟨P, 0, none⟩), .slice ap pl cp] w fun e w' => e = .panicked [{ v := .iface 55 (.int .i64 1), recovered := false }] ∧ w' = w := by
  have HM := Lib.hid (must_bad 1)
  have dn : decide ((r.n : Int) < 120) = false := by rw [decide_eq_false_iff_not]; omega
  obtain ⟨p8, p9, p10, p11, p12, p13, p14, pf⟩ := hr.cells
  clear hr hn
  go_enter Try.func34, Try.ntmps34
  go_wp2_with (go_at_call 40; refine (HM.out _).mono ?_; rintro e w1 ⟨rfl, hw1⟩; subst w1)
  exact ⟨rfl, rfl, rfl⟩
end

end Go.Proofs.Ytehdlpgopcoecaa
