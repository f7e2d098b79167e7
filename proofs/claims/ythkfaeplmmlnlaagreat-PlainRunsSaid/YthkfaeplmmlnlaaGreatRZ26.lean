/- The program's step, whole: what does not go wrong, what does, and what would need more steps than there may be. The program's through: a run to its end, or to the step that goes wrong. The contract of model.Ins. -/
import Derived.Defers
import Derived.Recover
import Derived.Test.YthkfaeplmmlnlaaGreatRVmP3
import Derived.Test.YthkfaeplmmlnlaaGreatRVmP4
import Derived.Test.YthkfaeplmmlnlaaGreatRVmP5
import Derived.Test.YthkfaeplmmlnlaaGreatRVmP6
import Derived.Test.YthkfaeplmmlnlaaGreatRZ4
import Derived.Test.YthkfaeplmmlnlaaGreatRVmOf
import Derived.Test.YthkfaeplmmlnlaaGreatRZ14
namespace Go.Proofs.YthkfaeplmmlnlaaGreat
open Go.RowKit
set_option linter.unusedVariables false
set_option maxRecDepth 100000

section
variable {base P bd da : Nat} {lps : Int} {vw vs : Value} {r r1 : Mch}
theorem ins_kinds {x : I4} {len : Int} (hx : insB x len = true) (h0 : x.op ≠ 0) : x.op = 1 ∨ x.op = 2 ∨ (3 ≤ x.op ∧ x.op ≤ 8) ∨ x.op = 9 ∨ x.op = 10 ∨ x.op = 11 ∨ x.op = 12 ∨ x.op = 13 ∨ x.op = 14 := by
  obtain ⟨op, a, b, c⟩ := x
  unfold insB at hx
  simp only at hx h0 ⊢
  refine Classical.byContradiction fun hc => ?_
  have : kindI op = 6 := by unfold kindI; rw [if_neg (by omega), if_neg (by omega), if_neg (by omega), if_neg (by omega), if_neg (by omega), if_neg (by omega)]
  rw [this] at hx
  simp [kindB] at hx
theorem reg7 {n : Int} (h : regB n = true) : ∃ i : Nat, n = (i : Int) ∧ i < 8 := by
  obtain ⟨h1, h2⟩ := reg_bd h
  exact ⟨n.toNat, by omega, by omega⟩
theorem plc7 {n len : Int} (h : plcB n len = true) : ∃ i : Nat, n = (i : Int) := ⟨n.toNat, by have := plc_bd h; omega⟩
theorem oneF_two (op : Int) (i j k : Nat) (h3 : 3 ≤ op) (h8 : op ≤ 8) (lps : Int) (r : Mch) : oneF ⟨op, i, j, k⟩ lps r = twoF op (r.g k) := by
  unfold oneF twoF
  simp only [Int.toNat_natCast]
  rw [if_neg (by omega), if_neg (by omega), if_neg (by omega), if_neg (by omega)]
  by_cases h : op = 6 ∨ op = 7
  · rw [if_pos h]
    by_cases h2 : r.g k = 0
    · rw [if_pos h2, if_pos ⟨h, h2⟩]
    · rw [if_neg h2, if_neg fun h => h2 h.2]
  · rw [if_neg h, if_neg fun h2 => h h2.1]
theorem oneR_two (op : Int) (i j k : Nat) (h3 : 3 ≤ op) (h8 : op ≤ 8) (seed me : Int) (r : Mch) : oneR ⟨op, i, j, k⟩ seed me r = { r with g := upd r.g i (twoV op (r.g j) (r.g k)) } := by
  unfold oneR
  simp only [Int.toNat_natCast]
  rw [if_neg (by omega), if_neg (by omega), if_neg (by omega), if_neg (by omega), if_neg (by omega), if_neg (by omega), if_neg (by omega), if_neg (by omega)]

/-- what does not go wrong -/
theorem vstep_ok (x : I4) (seed me : Int) (hda : da = wordN seed me) (B O pl cp : Nat) (w : World) (hr : VmAt base P bd da lps vw vs r w) (hr1 : r1 = { r with n := r.n + 1, pc := r.pc + 1 }) (hbase : base ≤ w.heap.size) (hB : B < base) (hn : r.n < 120) (hpc : r.pc < pl) (hpl : pl ≤ 48)
    (c0 : w.cell? ⟨B, O + r.pc * 4, none⟩ = some (.int .i64 x.op)) (c1 : w.cell? ⟨B, O + r.pc * 4 + 1, none⟩ = some (.int .i64 x.a)) (c2 : w.cell? ⟨B, O + r.pc * 4 + 2, none⟩ = some (.int .i64 x.b)) (c3 : w.cell? ⟨B, O + r.pc * 4 + 3, none⟩ = some (.int .i64 x.c))
    (hx : insB x (pl : Int) = true) (h0 : x.op ≠ 0) (hbd : Bd r1) (hf : oneF x lps r1 = 0) :
    Calls Tryz.prog 105 #[.pointer (some ⟨P, 0, none⟩), .slice (some ⟨B, O, none⟩) pl cp] w fun e w' => e = .returned (.tuple #[]) ∧ (∃ vs', VmAt base P bd da lps vw vs' (oneR x seed me r1) w') ∧ Below base w w' ∧ Keep7 w w' := by
  have hop := ins_kinds hx h0
  obtain ⟨op, a, b, c⟩ := x
  unfold insB at hx
  simp only at hx h0 hop c0 c1 c2 c3
  rcases hop with rfl | rfl | ⟨h3, h8⟩ | rfl | rfl | rfl | rfl | rfl | rfl
  · simp [kindI, kindB] at hx
    obtain ⟨i, rfl, hi⟩ := reg7 hx
    refine (vstep_set i hi b c B O pl cp w hr hr1 hbase hB hn hpc hpl c0 c1 c2 c3).mono fun e w' ⟨h1, ⟨vs', h2⟩, h3⟩ => ⟨h1, ⟨vs', ?_⟩, h3⟩
    simpa [oneR] using h2
  · simp [kindI, kindB] at hx
    obtain ⟨i, rfl, hi⟩ := reg7 hx.1
    obtain ⟨j, rfl, hj⟩ := reg7 hx.2
    refine (vstep_move i hi j hj c B O pl cp w hr hr1 hbase hB hn hpc hpl c0 c1 c2 c3).mono fun e w' ⟨h1, ⟨vs', h2⟩, h3⟩ => ⟨h1, ⟨vs', ?_⟩, h3⟩
    simpa [oneR] using h2
  · have hk : kindI op = 5 := by unfold kindI; rw [if_neg (by omega), if_neg (by omega), if_neg (by omega), if_neg (by omega), if_neg (by omega), if_pos (by omega)]
    rw [hk] at hx
    simp [kindB] at hx
    obtain ⟨i, rfl, hi⟩ := reg7 hx.1.1
    obtain ⟨j, rfl, hj⟩ := reg7 hx.1.2
    obtain ⟨k, rfl, hk⟩ := reg7 hx.2
    rw [oneF_two op i j k h3 h8] at hf
    rw [oneR_two op i j k h3 h8]
    exact vstep_two op i hi j hj k hk B O pl cp w hr hr1 hbase hB hn hpc hpl c0 c1 c2 c3 h3 h8 ⟨(hbd.g j).2, (hbd.g j).1⟩ hf
  · simp [kindI, kindB] at hx
    obtain ⟨p, rfl⟩ := plc7 hx
    refine (vstep_jump p b c B O pl cp w hr hr1 hbase hB hn hpc hpl c0 c1 c2 c3).mono fun e w' ⟨h1, ⟨vs', h2⟩, h3⟩ => ⟨h1, ⟨vs', ?_⟩, h3⟩
    simpa [oneR] using h2
  · simp [kindI, kindB] at hx
    obtain ⟨i, rfl, hi⟩ := reg7 hx.1
    obtain ⟨p, rfl⟩ := plc7 hx.2
    by_cases hz : r1.g i = 0
    · refine (vstep_zero i hi p c B O pl cp w hr hr1 hbase hB hn hpc hpl c0 c1 c2 c3 hz).mono fun e w' ⟨h1, ⟨vs', h2⟩, h3⟩ => ⟨h1, ⟨vs', ?_⟩, h3⟩
      simpa [oneR, hz] using h2
    · refine (vstep_nonzero i hi p c B O pl cp w hr hr1 hbase hB hn hpc hpl c0 c1 c2 c3 hz).mono fun e w' ⟨h1, ⟨vs', h2⟩, h3⟩ => ⟨h1, ⟨vs', ?_⟩, h3⟩
      simpa [oneR, hz] using h2
  · simp [kindI, kindB] at hx
    obtain ⟨i, rfl, hi⟩ := reg7 hx.1
    obtain ⟨j, rfl, hj⟩ := reg7 hx.2
    have hz : ¬ r1.g j < 1 := fun h => by simp [oneF, h] at hf
    refine (vstep_roll i hi j hj c B O pl cp w hr hr1 hbase hB hn hpc hpl c0 c1 c2 c3 (by omega) (hbd.g j).2).mono fun e w' ⟨h1, ⟨vs', h2⟩, h3⟩ => ⟨h1, ⟨vs', ?_⟩, h3⟩
    rw [hda, rollN_behind] at h2
    rw [hda]
    simpa [oneR] using h2
  · simp [kindI, kindB] at hx
    obtain ⟨i, rfl, hi⟩ := reg7 hx.1.1
    obtain ⟨j, rfl, hj⟩ := reg7 hx.1.2
    obtain ⟨k, rfl, hk⟩ := reg7 hx.2
    have hz : ¬ (r1.g i < 0 ∨ lps ≤ r1.g i) := fun h => by simp [oneF, h] at hf
    have h4 : ¬ 4 ≤ r1.ns := fun h => by simp [oneF, hz, h] at hf
    refine (vstep_send i hi j hj k hk B O pl cp w hr hr1 hbase hB hn hpc hpl c0 c1 c2 c3 (by omega) (by omega) (by omega)).mono fun e w' ⟨h1, ⟨vs', h2⟩, h3⟩ => ⟨h1, ⟨vs', ?_⟩, h3⟩
    simpa [oneR] using h2
  · simp [kindI, kindB] at hx
    obtain ⟨i, rfl, hi⟩ := reg7 hx.1
    obtain ⟨j, rfl, hj⟩ := reg7 hx.2
    have hz : ¬ (r1.g j < 0 ∨ (r1.nw : Int) ≤ r1.g j) := fun h => by simp [oneF, h] at hf
    refine (vstep_load i hi j hj c B O pl cp w hr hr1 hbase hB hn hpc hpl c0 c1 c2 c3 (r1.g j).toNat (by omega) (by omega)).mono fun e w' ⟨h1, ⟨vs', h2⟩, h3⟩ => ⟨h1, ⟨vs', ?_⟩, h3⟩
    simpa [oneR] using h2
  · simp [kindI, kindB] at hx
    obtain ⟨i, rfl, hi⟩ := reg7 hx.1
    obtain ⟨j, rfl, hj⟩ := reg7 hx.2
    have hz : ¬ (r1.g i < 0 ∨ (r1.nw : Int) ≤ r1.g i) := fun h => by simp [oneF, h] at hf
    refine (vstep_store i hi j hj c B O pl cp w hr hr1 hbase hB hn hpc hpl c0 c1 c2 c3 (r1.g i).toNat (by omega) (by omega)).mono fun e w' ⟨h1, ⟨vs', h2⟩, h3⟩ => ⟨h1, ⟨vs', ?_⟩, h3⟩
    simpa [oneR] using h2
/-- what goes wrong -/
theorem vstep_bad (x : I4) (B O pl cp : Nat) (w : World) (hr : VmAt base P bd da lps vw vs r w) (hr1 : r1 = { r with n := r.n + 1, pc := r.pc + 1 }) (hbase : base ≤ w.heap.size) (hB : B < base) (hn : r.n < 120) (hpc : r.pc < pl) (hpl : pl ≤ 48)
    (c0 : w.cell? ⟨B, O + r.pc * 4, none⟩ = some (.int .i64 x.op)) (c1 : w.cell? ⟨B, O + r.pc * 4 + 1, none⟩ = some (.int .i64 x.a)) (c2 : w.cell? ⟨B, O + r.pc * 4 + 2, none⟩ = some (.int .i64 x.b)) (c3 : w.cell? ⟨B, O + r.pc * 4 + 3, none⟩ = some (.int .i64 x.c))
    (hx : insB x (pl : Int) = true) (h0 : x.op ≠ 0) (hbd : Bd r1) (hf : oneF x lps r1 ≠ 0) :
    Calls Tryz.prog 105 #[.pointer (some ⟨P, 0, none⟩), .slice (some ⟨B, O, none⟩) pl cp] w fun e w' => e = .panicked [{ v := .iface 153 (.int .i64 (oneF x lps r1)), recovered := false }] ∧ VmAt base P bd da lps vw vs r1 w' ∧ Below base w w' ∧ Keep7 w w' := by
  have hop := ins_kinds hx h0
  obtain ⟨op, a, b, c⟩ := x
  unfold insB at hx
  simp only at hx h0 hop c0 c1 c2 c3
  rcases hop with rfl | rfl | ⟨h3, h8⟩ | rfl | rfl | rfl | rfl | rfl | rfl
  · exact absurd rfl hf
  · exact absurd rfl hf
  · have hk : kindI op = 5 := by unfold kindI; rw [if_neg (by omega), if_neg (by omega), if_neg (by omega), if_neg (by omega), if_neg (by omega), if_pos (by omega)]
    rw [hk] at hx
    simp [kindB] at hx
    obtain ⟨i, rfl, hi⟩ := reg7 hx.1.1
    obtain ⟨j, rfl, hj⟩ := reg7 hx.1.2
    obtain ⟨k, rfl, hk⟩ := reg7 hx.2
    rw [oneF_two op i j k h3 h8] at hf ⊢
    have e2 : twoF op (r1.g k) = 2 := by
      unfold twoF at hf ⊢
      split
      · rfl
      · rename_i h
        rw [if_neg h] at hf
        exact absurd rfl hf
    have := vstep_twobad op i hi j hj k hk B O pl cp w hr hr1 hbase hB hn hpc hpl c0 c1 c2 c3 h3 h8 ⟨(hbd.g j).2, (hbd.g j).1⟩ hf
    rw [e2]
    exact this
  · exact absurd rfl hf
  · exact absurd rfl hf
  · simp [kindI, kindB] at hx
    obtain ⟨i, rfl, hi⟩ := reg7 hx.1
    obtain ⟨j, rfl, hj⟩ := reg7 hx.2
    have hz : r1.g j < 1 := Classical.byContradiction fun h => by simp [oneF, h] at hf
    have e1 : oneF ⟨11, i, j, c⟩ lps r1 = 4 := by simp [oneF, hz]
    rw [e1]
    exact vstep_rollbad i hi j hj c B O pl cp w hr hr1 hbase hB hn hpc hpl c0 c1 c2 c3 hz
  · simp [kindI, kindB] at hx
    obtain ⟨i, rfl, hi⟩ := reg7 hx.1.1
    obtain ⟨j, rfl, hj⟩ := reg7 hx.1.2
    obtain ⟨k, rfl, hk⟩ := reg7 hx.2
    by_cases hl : r1.g i < 0
    · have e1 : oneF ⟨12, i, j, k⟩ lps r1 = 6 := by simp [oneF, hl]
      rw [e1]
      exact vstep_sendlow i hi j hj k hk B O pl cp w hr hr1 hbase hB hn hpc hpl c0 c1 c2 c3 hl
    · by_cases hh : lps ≤ r1.g i
      · have e1 : oneF ⟨12, i, j, k⟩ lps r1 = 6 := by simp [oneF, hh]
        rw [e1]
        exact vstep_sendfar i hi j hj k hk B O pl cp w hr hr1 hbase hB hn hpc hpl c0 c1 c2 c3 (by omega) hh
      · have hz : ¬ (r1.g i < 0 ∨ lps ≤ r1.g i) := by omega
        have h4 : 4 ≤ r1.ns := Classical.byContradiction fun h => by simp [oneF, hz, h] at hf
        have e1 : oneF ⟨12, i, j, k⟩ lps r1 = 5 := by simp [oneF, hz, h4]
        rw [e1]
        exact vstep_sendfull i hi j hj k hk B O pl cp w hr hr1 hbase hB hn hpc hpl c0 c1 c2 c3 (by omega) (by omega) h4
  · simp [kindI, kindB] at hx
    obtain ⟨i, rfl, hi⟩ := reg7 hx.1
    obtain ⟨j, rfl, hj⟩ := reg7 hx.2
    by_cases hl : r1.g j < 0
    · have e1 : oneF ⟨13, i, j, c⟩ lps r1 = 3 := by simp [oneF, hl]
      rw [e1]
      exact vstep_loadlow i hi j hj c B O pl cp w hr hr1 hbase hB hn hpc hpl c0 c1 c2 c3 hl
    · have hh : (r1.nw : Int) ≤ r1.g j := Classical.byContradiction fun h => by simp [oneF, hl, h] at hf
      have e1 : oneF ⟨13, i, j, c⟩ lps r1 = 3 := by simp [oneF, hh]
      rw [e1]
      exact vstep_loadhigh i hi j hj c B O pl cp w hr hr1 hbase hB hn hpc hpl c0 c1 c2 c3 (by omega) hh
  · simp [kindI, kindB] at hx
    obtain ⟨i, rfl, hi⟩ := reg7 hx.1
    obtain ⟨j, rfl, hj⟩ := reg7 hx.2
    by_cases hl : r1.g i < 0
    · have e1 : oneF ⟨14, i, j, c⟩ lps r1 = 3 := by simp [oneF, hl]
      rw [e1]
      exact vstep_storelow i hi j hj c B O pl cp w hr hr1 hbase hB hn hpc hpl c0 c1 c2 c3 hl
    · have hh : (r1.nw : Int) ≤ r1.g i := Classical.byContradiction fun h => by simp [oneF, hl, h] at hf
      have e1 : oneF ⟨14, i, j, c⟩ lps r1 = 3 := by simp [oneF, hh]
      rw [e1]
      exact vstep_storehigh i hi j hj c B O pl cp w hr hr1 hbase hB hn hpc hpl c0 c1 c2 c3 (by omega) hh
/-- what would need more steps than there may be -/
theorem vstep_fuel (ap : Option Addr) (pl cp : Nat) (w : World) (hr : VmAt base P bd da lps vw vs r w) (hn : 120 ≤ r.n) :
    Calls Tryz.prog 105 #[.pointer (some ⟨P, 0, none⟩), .slice ap pl cp] w fun e w' => e = .panicked [{ v := .iface 153 (.int .i64 1), recovered := false }] ∧ w' = w := by
  have HM := Lib.hid (must_bad 1)
  have dn : decide ((r.n : Int) < 120) = false := by rw [decide_eq_false_iff_not]; omega
  obtain ⟨p8, p9, p10, p11, p12, p13, p14, pf⟩ := hr.cells
  clear hr hn
  go_enter Tryz.func105, Tryz.ntmps105
  go_wp2_with (go_at_call 110; refine (HM.out _).mono ?_; rintro e w1 ⟨rfl, hw1⟩; subst w1)
  exact ⟨rfl, rfl, rfl⟩
end

end Go.Proofs.YthkfaeplmmlnlaaGreat
namespace Go.Proofs.YthkfaeplmmlnlaaGreat
open Go.RowKit
set_option linter.unusedVariables false
set_option maxRecDepth 100000

/-- what went wrong is caught, and told -/
theorem catch7 (p : Addr) (P : Nat) (m n : Int) (older : List PanicEntry) (w : World) (hc : w.cell? p = some (.pointer (some ⟨P, 0, none⟩))) (hf : w.cell? ⟨P, 14, none⟩ = some (.int .i64 m)) (hz : w.frozen? ⟨P, 14, none⟩ = false) :
    CallsD Tryz.prog 104 #[.pointer (some p)] (.panicking ({ v := .iface 153 (.int .i64 n), recovered := false } :: older)) w fun e u' w' =>
      e = .returned (.tuple #[]) ∧ u' = .panicking ({ v := .iface 153 (.int .i64 n), recovered := true } :: older) ∧ w' = w.setCell ⟨P, 14, none⟩ (.int .i64 n) := by
  refine callsD_of_wpS Tryz.func104 rfl fun c₀ cs hu => ?_
  apply wpS_seq
  apply wpS_region
  simp [wpOpsS, go_sem, recoverD, hu, Tryz.ntmps104, Exit.thenS]
  have hta : ∀ (n : Int) (w : World), (Instr.typeAssert (.iface 153 (.int .i64 n)) 20 153 true).run Tryz.prog w = .ok (.tuple #[.int .i64 n, .bool true]) w := fun n w => by kernel_rfl
  refine wpS_of_wp ?_
  change Code.wp _ _ _ { tmps := #[.pointer (some p), undef, undef, undef, .iface 153 (.int .i64 n), undef, undef, undef, undef, undef, undef, undef, undef, undef], defers := [] } w
  go_wp2_with fail
  simp [bodyPostS, results, Tryz.results104]
/-- nothing went wrong -/
theorem idle7 (p : Addr) (w : World) :
    CallsD Tryz.prog 104 #[.pointer (some p)] .returning w fun e u' w' => e = .returned (.tuple #[]) ∧ u' = .returning ∧ w' = w := by
  refine callsD_of_wpS Tryz.func104 rfl fun c₀ cs hu => ?_
  apply wpS_seq
  apply wpS_region
  simp [wpOpsS, go_sem, recoverD, hu, Tryz.ntmps104, Exit.thenS]
  refine wpS_of_wp ?_
  change Code.wp _ _ _ { tmps := #[.pointer (some p), undef, undef, undef, .nilIface, undef, undef, undef, undef, undef, undef, undef, undef, undef], defers := [] } w
  go_wp2_with fail
  cases c₀
  simp_all [bodyPostS, results, Tryz.results104]

section
variable {base P bd da : Nat} {lps : Int} {vw vs : Value}
/-- a run to its end -/
def ThroughPost (base P bd da : Nat) (lps : Int) (vw : Value) (M : Mch) (w : World) (e : Ending) (w' : World) : Prop :=
  e = .returned (.tuple #[]) ∧ (∃ vs' q, VmAt base P bd da lps vw vs' { M with pc := q } w') ∧ Below base w w'
set_option maxHeartbeats 3200000 in
theorem through7_any (pr : Nat → I4) (pl : Nat) (seed me : Int) (hda : da = wordN seed me) (B O cp : Nat) (r0 : Mch) (w : World) (hr : VmAt base P bd da lps vw vs r0 w) (hbase : base ≤ w.heap.size) (hpl : pl ≤ 48) (hpos : 0 < pl) (hins : ∀ k, k < pl → insB (pr k) pl = true)
    (hat : At 4 (gI pr) pl B O w) (hB : B < base) (hbd : Bd r0) (hb : ∀ k, r64v (pr k).b) (hn : r0.n = 0) :
    Calls Tryz.prog 96 #[.pointer (some ⟨P, 0, none⟩), .slice (some ⟨B, O, none⟩) pl cp] w (ThroughPost base P bd da lps vw (runM pr pl lps seed me 120 r0) w) := by
  have hmf : ∀ (fn : Fn) (first cap : Array Value) (w : World), (Instr.makeFunc fn first cap).run Tryz.prog w = .ok (.func fn first cap) w := fun _ _ _ _ => rfl
  obtain ⟨M, hM⟩ : ∃ M, runM pr pl lps seed me 120 r0 = M := ⟨_, rfl⟩
  rw [hM]
  have HAT := Lib.hid hat
  have HIN := Lib.hid hins
  have HBB := Lib.hid hb
  have HBD := Lib.hid hbd
  have R1 := Lib.hid (hr.below (balloc w (.cells #[.pointer (some ⟨P, 0, none⟩)] 140)))
  have L1 := Lib.hid ((balloc w (.cells #[.pointer (some ⟨P, 0, none⟩)] 140)).mono hbase)
  have X1 := Lib.hid (heap_alloc_new w (.cells #[.pointer (some ⟨P, 0, none⟩)] 140))
  have HBASE := Lib.hid hbase
  have hMh := Lib.hid hM
  have HDA := Lib.hid hda
  have hnh := Lib.hid hn
  clear hr hat hins hb hbd hM hn hbase hda
  go_enter_defers Tryz.func96, Tryz.ntmps96
  go_upto_region 1 with fail
  generalize w.alloc (.cells #[.pointer (some ⟨P, 0, none⟩)] 140) = u at *
  generalize w.heap.size = xb at *
  go_wp2_with fail
  go_loopg [] 120 (fun k wr => ∃ r vs q, VmAt base P bd da lps vw vs r wr ∧ Below base w wr ∧ wr.heap[xb]? = some (.cells #[.pointer (some ⟨P, 0, none⟩)] 140 (0, 0)) ∧ (r.pc < pl → r.n + k = 120) ∧ runM pr pl lps seed me k r = { M with pc := q } ∧ Bd r)
  case atStart => exact ⟨r0, vs, M.pc, R1.out, L1.out, X1.out, fun _ => by have := hnh.out; omega, by rw [hMh.out], HBD.out⟩
  case round =>
    clear R1 L1 X1
    obtain ⟨r, vs, q, hr, hl, hx, hk, he, hbd⟩ := hrel
    have RU := Lib.hid hr
    have LU := Lib.hid hl
    have XU := Lib.hid hx
    have HE := Lib.hid he
    have HB2 := Lib.hid hbd
    have HK := Lib.hid hk
    have xb0 : wr.cell? ⟨xb, 0, none⟩ = some (.pointer (some ⟨P, 0, none⟩)) := by rw [Lib.cell_of_heap hx]; rfl
    obtain ⟨p8, p9, p10, p11, p12, p13, p14, pf⟩ := hr.cells
    have SZ : Hid (base ≤ wr.heap.size) := by show _ ≤ _; have := lt_of_block hx; have := HBASE.out; omega
    clear hr hl hx he hbd hk
    by_cases hpc : r.pc < pl
    · have d1 : decide ((r.pc : Int) < (pl : Int)) = true := by rw [decide_eq_true_eq]; omega
      have HPC := Lib.hid hpc
      clear hpc
      have C := Lib.hid (HAT.out)
      have A : Hid (At 4 (gI pr) pl B O wr) := ⟨by have := SZ.out; omega, fun i hi j hj => by rw [LU.out.cell (p := ⟨B, O + i * 4 + j, none⟩) hB]; exact HAT.out.2 i hi j hj⟩
      cases gk with
      | zero =>
        have HF := Lib.hid (vstep_fuel (some ⟨B, O, none⟩) pl cp wr RU.out (by have := HK.out HPC.out; omega))
        go_wp2_with (go_at_call 105; refine HF.out.mono ?_; rintro e w1 ⟨rfl, hw1⟩; subst w1)
        refine leaves_cons (f := 104) (args := #[.pointer (some ⟨xb, 0, none⟩)]) (by simp) (by simp [go_sem]) ?_
        refine (catch7 ⟨xb, 0, none⟩ P _ 1 [] _ xb0 p14 (pf 14)).mono ?_
        rintro e u' w'' ⟨rfl, rfl, rfl⟩
        have R9 := RU.out.setF 1
        have E9 : ({ r with f := 1 } : Mch) = { M with pc := q } := by rw [← HE.out, runM_fuel HPC.out]
        rw [E9] at R9
        have L9 := LU.out.setCell (p := ⟨P, 14, none⟩) RU.out.lo (.int .i64 1)
        simp [Leaves, settle, results, Tryz.results96, go_sem]
        exact ⟨rfl, ⟨_, _, R9⟩, L9⟩
      | succ k =>
        have hn : r.n < 120 := by have := HK.out HPC.out; omega
        have c0 : wr.cell? ⟨B, O + r.pc * 4, none⟩ = some (.int .i64 (pr r.pc).op) := A.out.2 r.pc HPC.out 0 (by omega)
        have c1 : wr.cell? ⟨B, O + r.pc * 4 + 1, none⟩ = some (.int .i64 (pr r.pc).a) := A.out.2 r.pc HPC.out 1 (by omega)
        have c2 : wr.cell? ⟨B, O + r.pc * 4 + 2, none⟩ = some (.int .i64 (pr r.pc).b) := A.out.2 r.pc HPC.out 2 (by omega)
        have c3 : wr.cell? ⟨B, O + r.pc * 4 + 3, none⟩ = some (.int .i64 (pr r.pc).c) := A.out.2 r.pc HPC.out 3 (by omega)
        by_cases h0 : (pr r.pc).op = 0
        · rw [h0] at c0
          have HS := Lib.hid (vstep_halt (r1 := { r with n := r.n + 1, pc := r.pc + 1 }) _ _ _ B O pl cp wr RU.out rfl SZ.out hB hn HPC.out hpl c0 c1 c2 c3)
          have e0 := Lib.hid ((runM_halt (lps := lps) (seed := seed) (me := me) (k := k) HPC.out h0).symm.trans HE.out)
          clear c0 c1 c2 c3 h0 hn
          go_wp2_with (go_at_call 105; refine HS.out.mono ?_; rintro e w1 ⟨rfl, ⟨vs1, hv⟩, hb1, hk1⟩; have R9 := Lib.hid hv; have L9 := Lib.hid (LU.out.trans hb1); have X9 := Lib.hid (hk1 xb _ _ XU.out); clear hv hb1 hk1)
          go_roundg k
          case measure => omega
          case rel => exact ⟨_, vs1, pl, R9.out, L9.out, X9.out, fun h => absurd h (Nat.lt_irrefl _), (runM_end (r := { r with n := r.n + 1, pc := pl }) (Nat.le_refl pl)).trans (congrArg (fun z : Mch => ({ z with pc := pl } : Mch)) e0.out), ⟨HB2.out.g, HB2.out.w⟩⟩
        · by_cases hf : oneF (pr r.pc) lps { r with n := r.n + 1, pc := r.pc + 1 } = 0
          · have HS := Lib.hid (vstep_ok (r1 := { r with n := r.n + 1, pc := r.pc + 1 }) (pr r.pc) seed me HDA.out B O pl cp wr RU.out rfl SZ.out hB hn HPC.out hpl c0 c1 c2 c3 (HIN.out r.pc HPC.out) h0 ⟨HB2.out.g, HB2.out.w⟩ hf)
            have e0 := Lib.hid ((runM_on (lps := lps) (seed := seed) (me := me) (k := k) HPC.out h0 hf).symm.trans HE.out)
            clear c0 c1 c2 c3 h0 hn hf
            go_wp2_with (go_at_call 105; refine HS.out.mono ?_; rintro e w1 ⟨rfl, ⟨vs1, hv⟩, hb1, hk1⟩; have R9 := Lib.hid hv; have L9 := Lib.hid (LU.out.trans hb1); have X9 := Lib.hid (hk1 xb _ _ XU.out); clear hv hb1 hk1)
            go_roundg k
            case measure => omega
            case rel => exact ⟨_, vs1, q, R9.out, L9.out, X9.out, fun _ => by rw [oneR_n]; have := HK.out HPC.out; show r.n + 1 + k = 120; omega, e0.out, oneR_bd (HBB.out _) ⟨HB2.out.g, HB2.out.w⟩⟩
          · have HS := Lib.hid (vstep_bad (r1 := { r with n := r.n + 1, pc := r.pc + 1 }) (pr r.pc) B O pl cp wr RU.out rfl SZ.out hB hn HPC.out hpl c0 c1 c2 c3 (HIN.out r.pc HPC.out) h0 ⟨HB2.out.g, HB2.out.w⟩ hf)
            have e0 := Lib.hid ((runM_bad (lps := lps) (seed := seed) (me := me) (k := k) HPC.out h0 hf).symm.trans HE.out)
            clear c0 c1 c2 c3 h0 hn hf
            generalize oneF (pr r.pc) lps { r with n := r.n + 1, pc := r.pc + 1 } = fv at *
            go_wp2_with (go_at_call 105; refine HS.out.mono ?_; rintro e w1 ⟨rfl, hv, hb1, hk1⟩; have R9 := Lib.hid hv; have L9 := Lib.hid (LU.out.trans hb1); have X9 := Lib.hid (hk1 xb _ _ XU.out); clear hv hb1 hk1)
            have xb9 : w1.cell? ⟨xb, 0, none⟩ = some (.pointer (some ⟨P, 0, none⟩)) := by rw [Lib.cell_of_heap X9.out]; rfl
            refine leaves_cons (f := 104) (args := #[.pointer (some ⟨xb, 0, none⟩)]) (by simp) (by simp [go_sem]) ?_
            refine (catch7 ⟨xb, 0, none⟩ P _ fv [] _ xb9 R9.out.cells.2.2.2.2.2.2.1 (R9.out.fz 14)).mono ?_
            rintro e u' w'' ⟨rfl, rfl, rfl⟩
            have R8 := R9.out.setF fv
            have E9 : ({ r with n := r.n + 1, pc := r.pc + 1, f := fv } : Mch) = { M with pc := q } := e0.out
            rw [E9] at R8
            have L8 := L9.out.setCell (p := ⟨P, 14, none⟩) R9.out.lo (.int .i64 fv)
            simp [Leaves, settle, results, Tryz.results96, go_sem]
            exact ⟨rfl, ⟨_, _, R8⟩, L8⟩
    · have d1 : decide ((r.pc : Int) < (pl : Int)) = false := by rw [decide_eq_false_iff_not]; omega
      have HPC := Lib.hid (Nat.le_of_not_lt hpc)
      have d2 : decide (r.pc < pl) = false := by simp [hpc]
      clear hpc
      go_wp2_with fail
      refine leaves_cons (f := 104) (args := #[.pointer (some ⟨xb, 0, none⟩)]) (by simp) (by simp [go_sem]) ?_
      refine (idle7 ⟨xb, 0, none⟩ _).mono ?_
      rintro e u' w'' ⟨rfl, rfl, rfl⟩
      have R9 := RU.out
      have E9 : r = { M with pc := q } := by rw [← HE.out, runM_end HPC.out]
      rw [E9] at R9
      have L9 := LU.out
      simp [Leaves, settle, results, Tryz.results96, go_sem]
      exact ⟨rfl, ⟨_, _, R9⟩, L9⟩
end

end Go.Proofs.YthkfaeplmmlnlaaGreat
namespace Go.Proofs.YthkfaeplmmlnlaaGreat
open Go.RowKit
set_option linter.unusedVariables false

set_option maxHeartbeats 1600000 in
theorem ins_any (x : I4) (len : Int) (w : World) :
    Calls Tryz.prog 102 #[.agg #[.int .i64 x.op, .int .i64 x.a, .int .i64 x.b, .int .i64 x.c], .int .i64 len] w fun e w' => e = .returned (.bool (insB x len)) ∧ Below w.heap.size w w' := by
  have HM := Lib.hid (mayBeIn_box len)
  have HI := Lib.hid (fun q w (h : BoxI len q w) => mayI_any x len q w h.1 h.2)
  have HX := Lib.hid (Box4.new x 99 w)
  have HA := Lib.hid (balloc w (.cells #[.int .i64 x.op, .int .i64 x.a, .int .i64 x.b, .int .i64 x.c] 99))
  generalize insB x len = r at *
  obtain ⟨op, a, b, c⟩ := x
  dsimp only at *
  obtain ⟨_, x0, x1, x2, x3⟩ := HX.out
  dsimp only [Nat.zero_add] at x0 x1 x2 x3
  go_enter Tryz.func102, Tryz.ntmps102
  go_wp2_with fail
  go_region_held3 (fun w' => w'.cell? ⟨w.heap.size, 0, none⟩ = some (.int .i64 op) ∧ w'.cell? ⟨w.heap.size, 1, none⟩ = some (.int .i64 a) ∧ w'.cell? ⟨w.heap.size, 2, none⟩ = some (.int .i64 b) ∧ w'.cell? ⟨w.heap.size, 3, none⟩ = some (.int .i64 c)) (go_keep) (first
    | (go_at_call 72; refine (HM.out _).mono ?_; rintro e w2 ⟨q, rfl, HQ, hb2⟩; have X1 := (HX.out.below (bdrew _)).below hb2; obtain ⟨_, p0, p1, p2, p3⟩ := X1; dsimp only [Nat.zero_add] at p0 p1 p2 p3; have HQ2 := Lib.hid HQ; have HB2 := Lib.hid hb2; clear HQ hb2)
    | (go_at_call 90; refine (HI.out _ _ HQ2.out).mono ?_; rintro e w3 ⟨rfl, hb3⟩; have X2 := ((HX.out.below (bdrew _)).below HB2.out).below hb3; obtain ⟨_, p0, p1, p2, p3⟩ := X2; dsimp only [Nat.zero_add] at p0 p1 p2 p3))
  go_wp2_with fail
  go_ret
  exact ⟨rfl, bthen (bthen (bthen HA.out (bdrew _)) HB2.out) hb3⟩

end Go.Proofs.YthkfaeplmmlnlaaGreat
