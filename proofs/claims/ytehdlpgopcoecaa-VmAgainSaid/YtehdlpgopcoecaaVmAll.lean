/- The contract of the document's one, whole. -/
import Derived.Test.YtehdlpgopcoecaaVmSend
namespace Go.Proofs.Ytehdlpgopcoecaa
open Go.RowKit
set_option linter.unusedVariables false
set_option maxRecDepth 100000

section
variable {base P bg : Nat} {vw vs : Value} {r : Mch}
set_option maxHeartbeats 1600000 in
theorem one7_send (i : Nat) (hi : i < 8) (j : Nat) (hj : j < 8) (k : Nat) (hk : k < 8) (vI : Value) (pay me lps seed dice : Int) (w : World) (hr : RunAt base P bg vw vs r w) (hbase : base ≤ w.heap.size) :
    Calls Try.prog 21 #[.pointer (some ⟨P, 0, none⟩), .agg #[.int .i64 12, .int .i64 (i : Int), .int .i64 (j : Int), .int .i64 (k : Int)], .agg #[vI, .int .i64 pay, .int .i64 me, .int .i64 lps, .int .i64 seed, .int .i64 dice]] w fun e w' =>
      e = .returned (.int .i64 (if r.g i < 0 ∨ lps ≤ r.g i then 6 else if 4 ≤ r.ns then 5 else 0)) ∧
      (∃ vs', RunAt base P bg vw vs' (if r.g i < 0 ∨ lps ≤ r.g i then r else if 4 ≤ r.ns then r else { r with ns := r.ns + 1, sn := fun q => if q = r.ns then ⟨r.g i, r.g j, r.g k⟩ else r.sn q }) w') ∧ Below base w w' := by
  have B0 := Lib.hid (bthen (balloc w (.cells #[.int .i64 12, .int .i64 (i : Int), .int .i64 (j : Int), .int .i64 (k : Int)] 45)) (balloc _ (.cells #[vI, .int .i64 pay, .int .i64 me, .int .i64 lps, .int .i64 seed, .int .i64 dice] 25)))
  have RU := Lib.hid (hr.below B0.out)
  have HU := Lib.hid (sends7_any 12 i hi j hj k hk lps _ RU.out (Nat.le_trans hbase B0.out.size))
  have HB := Lib.hid hbase
  have X1 : ((w.alloc (.cells #[.int .i64 12, .int .i64 (i : Int), .int .i64 (j : Int), .int .i64 (k : Int)] 45)).alloc (.cells #[vI, .int .i64 pay, .int .i64 me, .int .i64 lps, .int .i64 seed, .int .i64 dice] 25)).heap[w.heap.size]? = some (.cells #[.int .i64 12, .int .i64 (i : Int), .int .i64 (j : Int), .int .i64 (k : Int)] 45) := (Below.heap_alloc _ _ _ (by rw [World.size_alloc]; omega)).trans (heap_alloc_new w _)
  have X2 : ((w.alloc (.cells #[.int .i64 12, .int .i64 (i : Int), .int .i64 (j : Int), .int .i64 (k : Int)] 45)).alloc (.cells #[vI, .int .i64 pay, .int .i64 me, .int .i64 lps, .int .i64 seed, .int .i64 dice] 25)).heap[w.heap.size + 1]? = some (.cells #[vI, .int .i64 pay, .int .i64 me, .int .i64 lps, .int .i64 seed, .int .i64 dice] 25) := by
    have := heap_alloc_new (w.alloc (.cells #[.int .i64 12, .int .i64 (i : Int), .int .i64 (j : Int), .int .i64 (k : Int)] 45)) (.cells #[vI, .int .i64 pay, .int .i64 me, .int .i64 lps, .int .i64 seed, .int .i64 dice] 25)
    rwa [World.size_alloc] at this
  obtain ⟨x0, x1, x2, x3⟩ := four_cells X1
  obtain ⟨n0, n1, n2, n3, n4, n5⟩ := six_cells7 X2
  clear X1 X2 hr hbase
  generalize (if r.g i < 0 ∨ lps ≤ r.g i then (6 : Int) else if 4 ≤ r.ns then 5 else 0) = fv at HU ⊢
  generalize (if r.g i < 0 ∨ lps ≤ r.g i then r else if 4 ≤ r.ns then r else { r with ns := r.ns + 1, sn := fun q => if q = r.ns then ⟨r.g i, r.g j, r.g k⟩ else r.sn q }) = r2 at HU ⊢
  generalize hu : (w.alloc (.cells #[.int .i64 12, .int .i64 (i : Int), .int .i64 (j : Int), .int .i64 (k : Int)] 45)).alloc (.cells #[vI, .int .i64 pay, .int .i64 me, .int .i64 lps, .int .i64 seed, .int .i64 dice] 25) = u at RU B0 HU x0 x1 x2 x3 n0 n1 n2 n3 n4 n5
  go_enter Try.func21, Try.ntmps21
  go_upto_region 1 with fail
  try rw [hu]
  clear hu
  go_wp2_with (go_at_call 29; refine HU.out.mono ?_; rintro e w5 ⟨rfl, hrun, hb5⟩)
  go_ret
  exact ⟨rfl, hrun, (B0.out.mono HB.out).trans hb5⟩

/-- all numbers within their 64 bits -/
structure Bd (r : Mch) : Prop where
  g : ∀ i, r64v (r.g i)
  w : ∀ k, r64v (r.w k)
theorem wrap64_r64 (x : Int) : r64v (wrap64 x) := by unfold r64v wrap64; omega
theorem upd_r64 {g : Nat → Int} {i : Nat} {v : Int} (h : ∀ i, r64v (g i)) (hv : r64v v) : ∀ k, r64v (upd g i v k) := by
  intro k
  unfold upd
  split
  · exact hv
  · exact h k
theorem oneR_bd {x : I4} {seed me : Int} {r : Mch} (hb : r64v x.b) (h : Bd r) : Bd (oneR x seed me r) := by
  unfold oneR
  split
  · exact ⟨upd_r64 h.g hb, h.w⟩
  split
  · exact ⟨upd_r64 h.g (h.g _), h.w⟩
  split
  · exact ⟨h.g, h.w⟩
  split
  · split
    · exact ⟨h.g, h.w⟩
    · exact h
  split
  · refine ⟨upd_r64 h.g ?_, h.w⟩
    unfold belowN
    split
    · constructor <;> decide
    · have := Int.emod_lt_of_pos (rollN seed me r.dice : Int) (show 0 < r.g x.b.toNat by omega)
      have := Int.emod_nonneg (rollN seed me r.dice : Int) (show r.g x.b.toNat ≠ 0 by omega)
      have := (h.g x.b.toNat).2
      constructor <;> omega
  split
  · exact ⟨h.g, h.w⟩
  split
  · exact ⟨upd_r64 h.g (h.w _), h.w⟩
  split
  · exact ⟨h.g, upd_r64 h.w (h.g _)⟩
  · refine ⟨upd_r64 h.g ?_, h.w⟩
    unfold twoV quotQ quotR
    repeat' split
    all_goals first | exact wrap64_r64 _ | (constructor <;> decide)

/-- each instruction that may be, but the end -/
theorem one7_any (x : I4) (len : Int) (hx : insB x len = true) (h0 : x.op ≠ 0) (hbd : Bd r) (vI : Value) (pay me lps seed dice : Int) (w : World) (hr : RunAt base P bg vw vs r w) (hbase : base ≤ w.heap.size) :
    Calls Try.prog 21 #[.pointer (some ⟨P, 0, none⟩), .agg #[.int .i64 x.op, .int .i64 x.a, .int .i64 x.b, .int .i64 x.c], .agg #[vI, .int .i64 pay, .int .i64 me, .int .i64 lps, .int .i64 seed, .int .i64 dice]] w fun e w' =>
      e = .returned (.int .i64 (oneF x lps r)) ∧ (∃ vs', RunAt base P bg vw vs' (if oneF x lps r = 0 then oneR x seed me r else r) w') ∧ Below base w w' := by
  obtain ⟨op, a, b, c⟩ := x
  have reg : ∀ n, regB n = true → ∃ i : Nat, n = (i : Int) ∧ i < 8 := fun n h => by
    obtain ⟨h1, h2⟩ := reg_bd h
    exact ⟨n.toNat, by omega, by omega⟩
  have plc : ∀ n, plcB n len = true → ∃ i : Nat, n = (i : Int) := fun n h => ⟨n.toNat, by have := plc_bd h; omega⟩
  unfold insB at hx
  simp only at hx h0 ⊢
  have hop : op = 1 ∨ op = 2 ∨ (3 ≤ op ∧ op ≤ 8) ∨ op = 9 ∨ op = 10 ∨ op = 11 ∨ op = 12 ∨ op = 13 ∨ op = 14 := by
    refine Classical.byContradiction fun hc => ?_
    have : kindI op = 6 := by unfold kindI; rw [if_neg (by omega), if_neg (by omega), if_neg (by omega), if_neg (by omega), if_neg (by omega), if_neg (by omega)]
    rw [this] at hx
    simp [kindB] at hx
  rcases hop with rfl | rfl | ⟨h3, h8⟩ | rfl | rfl | rfl | rfl | rfl | rfl
  · simp [kindI, kindB] at hx
    obtain ⟨i, rfl, hi⟩ := reg a hx
    refine (one7_set i hi b c vI pay me lps seed dice w hr hbase).mono fun e w' ⟨h1, h2, h3⟩ => ⟨h1, ⟨vs, ?_⟩, h3⟩
    simpa [oneF, oneR] using h2
  · simp [kindI, kindB] at hx
    obtain ⟨i, rfl, hi⟩ := reg a hx.1
    obtain ⟨j, rfl, hj⟩ := reg b hx.2
    refine (one7_move i hi j hj c vI pay me lps seed dice w hr hbase).mono fun e w' ⟨h1, h2, h3⟩ => ⟨h1, ⟨vs, ?_⟩, h3⟩
    simpa [oneF, oneR] using h2
  · have hk : kindI op = 5 := by unfold kindI; rw [if_neg (by omega), if_neg (by omega), if_neg (by omega), if_neg (by omega), if_neg (by omega), if_pos (by omega)]
    rw [hk] at hx
    simp [kindB] at hx
    obtain ⟨i, rfl, hi⟩ := reg a hx.1.1
    obtain ⟨j, rfl, hj⟩ := reg b hx.1.2
    obtain ⟨k, rfl, hk⟩ := reg c hx.2
    have e1 : oneF ⟨op, i, j, k⟩ lps r = twoF op (r.g k) := by
      unfold oneF twoF
      simp only [Int.toNat_natCast]
      rw [if_neg (by omega), if_neg (by omega), if_neg (by omega), if_neg (by omega)]
      by_cases h : op = 6 ∨ op = 7
      · rw [if_pos h]
        by_cases h2 : r.g k = 0
        · rw [if_pos h2, if_pos ⟨h, h2⟩]
        · rw [if_neg h2, if_neg fun h => h2 h.2]
      · rw [if_neg h, if_neg fun h2 => h h2.1]
    have e2 : oneR ⟨op, i, j, k⟩ seed me r = { r with g := upd r.g i (twoV op (r.g j) (r.g k)) } := by
      unfold oneR
      simp only [Int.toNat_natCast]
      rw [if_neg (by omega), if_neg (by omega), if_neg (by omega), if_neg (by omega), if_neg (by omega), if_neg (by omega), if_neg (by omega), if_neg (by omega)]
    rw [e1, e2]
    exact (one7_two op i hi j hj k hk vI pay me lps seed dice w hr hbase h3 h8).mono fun e w' ⟨h1, h2, h3⟩ => ⟨h1, ⟨vs, h2⟩, h3⟩
  · simp [kindI, kindB] at hx
    obtain ⟨p, rfl⟩ := plc a hx
    refine (one7_jump p b c vI pay me lps seed dice w hr hbase).mono fun e w' ⟨h1, h2, h3⟩ => ⟨h1, ⟨vs, ?_⟩, h3⟩
    simpa [oneF, oneR] using h2
  · simp [kindI, kindB] at hx
    obtain ⟨i, rfl, hi⟩ := reg a hx.1
    obtain ⟨p, rfl⟩ := plc b hx.2
    refine (one7_zero i hi p c vI pay me lps seed dice w hr hbase).mono fun e w' ⟨h1, h2, h3⟩ => ⟨h1, ⟨vs, ?_⟩, h3⟩
    simpa [oneF, oneR] using h2
  · simp [kindI, kindB] at hx
    obtain ⟨i, rfl, hi⟩ := reg a hx.1
    obtain ⟨j, rfl, hj⟩ := reg b hx.2
    refine (one7_roll i hi j hj c vI pay me lps seed dice w hr hbase (hbd.g j).2).mono fun e w' ⟨h1, h2, h3⟩ => ⟨?_, ⟨vs, ?_⟩, h3⟩
    · simpa [oneF] using h1
    · by_cases h : r.g j < 1
      · simpa [oneF, oneR, h] using h2
      · simpa [oneF, oneR, h] using h2
  · simp [kindI, kindB] at hx
    obtain ⟨i, rfl, hi⟩ := reg a hx.1.1
    obtain ⟨j, rfl, hj⟩ := reg b hx.1.2
    obtain ⟨k, rfl, hk⟩ := reg c hx.2
    refine (one7_send i hi j hj k hk vI pay me lps seed dice w hr hbase).mono fun e w' ⟨h1, ⟨vs', h2⟩, h3⟩ => ⟨?_, ⟨vs', ?_⟩, h3⟩
    · simpa [oneF] using h1
    · by_cases h : r.g i < 0 ∨ lps ≤ r.g i
      · simpa [oneF, oneR, h] using h2
      · by_cases h4 : 4 ≤ r.ns
        · simpa [oneF, oneR, h, h4] using h2
        · simpa [oneF, oneR, h, h4] using h2
  · simp [kindI, kindB] at hx
    obtain ⟨i, rfl, hi⟩ := reg a hx.1
    obtain ⟨j, rfl, hj⟩ := reg b hx.2
    refine (one7_load i hi j hj c vI pay me lps seed dice w hr hbase).mono fun e w' ⟨h1, h2, h3⟩ => ⟨?_, ⟨vs, ?_⟩, h3⟩
    · simpa [oneF] using h1
    · by_cases h : r.g j < 0 ∨ (r.nw : Int) ≤ r.g j
      · simpa [oneF, oneR, h] using h2
      · simpa [oneF, oneR, h] using h2
  · simp [kindI, kindB] at hx
    obtain ⟨i, rfl, hi⟩ := reg a hx.1
    obtain ⟨j, rfl, hj⟩ := reg b hx.2
    refine (one7_store i hi j hj c vI pay me lps seed dice w hr hbase).mono fun e w' ⟨h1, h2, h3⟩ => ⟨?_, ⟨vs, ?_⟩, h3⟩
    · simpa [oneF] using h1
    · by_cases h : r.g i < 0 ∨ (r.nw : Int) ≤ r.g i
      · simpa [oneF, oneR, h] using h2
      · simpa [oneF, oneR, h] using h2
end

end Go.Proofs.Ytehdlpgopcoecaa
