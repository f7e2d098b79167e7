/- The contracts of the program's must, place, calculated, roll. The contracts of the program's send. -/
import Derived.Test.YthkfaeplmmlnlaaGreatRZ20
import Derived.Test.YthkfaeplmmlnlaaGreatRZ0
import Derived.Test.YthkfaeplmmlnlaaGreatRZ3
namespace Go.Proofs.YthkfaeplmmlnlaaGreat
open Go.RowKit
set_option linter.unusedVariables false
set_option maxRecDepth 100000

theorem must_ok (k : Int) (w : World) : Calls Tryz.prog 110 #[.bool true, .int .i64 k] w fun e w' => e = .returned (.tuple #[]) ∧ w' = w := by
  go_enter Tryz.func110, Tryz.ntmps110
  go_wp2_with fail
  go_end0
  exact ⟨rfl, rfl⟩
theorem must_bad (k : Int) (w : World) : Calls Tryz.prog 110 #[.bool false, .int .i64 k] w fun e w' => e = .panicked [{ v := .iface 153 (.int .i64 k), recovered := false }] ∧ w' = w := by
  go_enter Tryz.func110, Tryz.ntmps110
  go_wp2_with fail
  exact ⟨rfl, rfl, rfl⟩

section
variable {base P bd a : Nat} {lps : Int} {vw vs : Value} {r : Mch}
/-- a word's place -/
theorem place_ok (n : Int) (h0 : 0 ≤ n) (h1 : n < (r.nw : Int)) (w : World) (hr : VmAt base P bd a lps vw vs r w) :
    Calls Tryz.prog 114 #[.pointer (some ⟨P, 0, none⟩), .int .i64 n] w fun e w' => e = .returned (.int .i64 n) ∧ w' = w := by
  have HM := Lib.hid (must_ok 3)
  obtain ⟨aw, cw, rfl⟩ := hr.form
  obtain ⟨p8, p9, p10, p11, p12, p13, p14, pf⟩ := hr.cells
  have d0 : decide ((0 : Int) ≤ n) = true := by simp [h0]
  have d1 : decide (n < (r.nw : Int)) = true := by simp [h1]
  clear hr h0 h1
  go_enter Tryz.func114, Tryz.ntmps114
  go_wp2_with (go_at_call 110; refine (HM.out _).mono ?_; rintro e w1 ⟨rfl, rfl⟩)
  go_ret
  exact ⟨rfl, rfl⟩
theorem place_low (n : Int) (h0 : n < 0) (w : World) (hr : VmAt base P bd a lps vw vs r w) :
    Calls Tryz.prog 114 #[.pointer (some ⟨P, 0, none⟩), .int .i64 n] w fun e w' => e = .panicked [{ v := .iface 153 (.int .i64 3), recovered := false }] ∧ w' = w := by
  have HM := Lib.hid (must_bad 3)
  have d0 : decide ((0 : Int) ≤ n) = false := by rw [decide_eq_false_iff_not]; omega
  clear hr h0
  go_enter Tryz.func114, Tryz.ntmps114
  go_wp2_with (go_at_call 110; refine (HM.out _).mono ?_; rintro e w1 ⟨rfl, rfl⟩)
  exact ⟨rfl, rfl, rfl⟩
theorem place_high (n : Int) (h0 : 0 ≤ n) (h1 : (r.nw : Int) ≤ n) (w : World) (hr : VmAt base P bd a lps vw vs r w) :
    Calls Tryz.prog 114 #[.pointer (some ⟨P, 0, none⟩), .int .i64 n] w fun e w' => e = .panicked [{ v := .iface 153 (.int .i64 3), recovered := false }] ∧ w' = w := by
  have HM := Lib.hid (must_bad 3)
  obtain ⟨aw, cw, rfl⟩ := hr.form
  obtain ⟨p8, p9, p10, p11, p12, p13, p14, pf⟩ := hr.cells
  have d0 : decide ((0 : Int) ≤ n) = true := by simp [h0]
  have d1 : decide (n < (r.nw : Int)) = false := by rw [decide_eq_false_iff_not]; omega
  clear hr h0 h1
  go_enter Tryz.func114, Tryz.ntmps114
  go_wp2_with (go_at_call 110; refine (HM.out _).mono ?_; rintro e w1 ⟨rfl, rfl⟩)
  exact ⟨rfl, rfl, rfl⟩

/-- a roll -/
theorem roll7_low (n : Int) (hn : n < 1) (w : World) (hr : VmAt base P bd a lps vw vs r w) :
    Calls Tryz.prog 112 #[.pointer (some ⟨P, 0, none⟩), .int .i64 n] w fun e w' => e = .panicked [{ v := .iface 153 (.int .i64 4), recovered := false }] ∧ w' = w := by
  have HM := Lib.hid (must_bad 4)
  have HN := Lib.hid (next_low (some ⟨bd, 0, none⟩) n hn)
  obtain ⟨p8, p9, p10, p11, p12, p13, p14, pf⟩ := hr.cells
  clear hr hn
  go_enter Tryz.func112, Tryz.ntmps112
  go_wp2_with (first | (go_at_call 116; refine (HN.out _).mono ?_; rintro e w1 ⟨rfl, rfl⟩) | (go_at_call 110; refine (HM.out _).mono ?_; rintro e w1 ⟨rfl, rfl⟩))
  exact ⟨rfl, rfl, rfl⟩
theorem roll7_pos (n : Int) (h1 : 1 ≤ n) (hn : n ≤ 9223372036854775807) (w : World) (hr : VmAt base P bd a lps vw vs r w) :
    Calls Tryz.prog 112 #[.pointer (some ⟨P, 0, none⟩), .int .i64 n] w fun e w' => e = .returned (.int .i64 (belowN (behindN a r.dice) n)) ∧ w' = w.setCell ⟨bd, 1, none⟩ (.int .i64 (wrap64 (r.dice + 1))) := by
  have HM := Lib.hid (must_ok 4)
  have HN := Lib.hid (next_pos a r.dice n bd h1 hn w hr.dice)
  obtain ⟨p8, p9, p10, p11, p12, p13, p14, pf⟩ := hr.cells
  generalize belowN (behindN a r.dice) n = q at *
  clear hr h1 hn
  go_enter Tryz.func112, Tryz.ntmps112
  go_wp2_with (first | (go_at_call 116; refine HN.out.mono ?_; rintro e w1 ⟨rfl, rfl⟩) | (go_at_call 110; refine (HM.out _).mono ?_; rintro e w1 ⟨rfl, rfl⟩))
  go_ret
  exact ⟨rfl, rfl⟩
end

/-- what computes -/
theorem calc_ok (op b c : Int) (hb : r64v b) (h3 : 3 ≤ op) (h8 : op ≤ 8) (hf : twoF op c = 0) (w : World) :
    Calls Tryz.prog 111 #[.int .i64 op, .int .i64 b, .int .i64 c] w fun e w' => e = .returned (.int .i64 (twoV op b c)) ∧ w' = w := by
  have HM := Lib.hid (must_ok 2)
  have hop : op = 3 ∨ op = 4 ∨ op = 5 ∨ op = 6 ∨ op = 7 ∨ op = 8 := by omega
  clear h3 h8
  rcases hop with rfl | rfl | rfl | rfl | rfl | rfl
  · show Calls _ _ _ _ fun e w' => e = .returned (.int .i64 (wrap64 (b + c))) ∧ _
    clear hf
    go_enter Tryz.func111, Tryz.ntmps111
    go_wp2_with fail
    go_ret
    exact ⟨rfl, rfl⟩
  · show Calls _ _ _ _ fun e w' => e = .returned (.int .i64 (wrap64 (b - c))) ∧ _
    clear hf
    go_enter Tryz.func111, Tryz.ntmps111
    go_wp2_with fail
    go_ret
    exact ⟨rfl, rfl⟩
  · show Calls _ _ _ _ fun e w' => e = .returned (.int .i64 (wrap64 (b * c))) ∧ _
    clear hf
    go_enter Tryz.func111, Tryz.ntmps111
    go_wp2_with fail
    go_ret
    exact ⟨rfl, rfl⟩
  · have h0 : c ≠ 0 := by rintro rfl; exact absurd hf (by decide)
    have d0 : (c != 0) = true := by simp [h0]
    have e0 : (c == 0) = false := by simp [h0]
    show Calls _ _ _ _ fun e w' => e = .returned (.int .i64 (wrap64 (b.tdiv c))) ∧ _
    clear hf
    go_enter Tryz.func111, Tryz.ntmps111
    go_wp2_with (go_at_call 110; refine (HM.out _).mono ?_; rintro e w1 ⟨rfl, rfl⟩)
    go_ret
    exact ⟨rfl, rfl⟩
  · have h0 : c ≠ 0 := by rintro rfl; exact absurd hf (by decide)
    have d0 : (c != 0) = true := by simp [h0]
    have e0 : (c == 0) = false := by simp [h0]
    have e1 : twoV 7 b c = b.tmod c := by
      show wrap64 (b.tmod c) = _
      have h2 : -9223372036854775808 ≤ b.tmod c ∧ b.tmod c ≤ 9223372036854775807 := by
        obtain ⟨l, u⟩ := hb
        have : (b.tmod c).natAbs ≤ b.natAbs := by rw [Int.natAbs_tmod]; exact Nat.mod_le _ _
        have h2 : b ≤ 0 → b.tmod c ≤ 0 := fun hb => by
          have := Int.tmod_nonneg c (show 0 ≤ -b by omega)
          rw [Int.neg_tmod] at this
          omega
        omega
      unfold wrap64; omega
    rw [e1]
    clear hf e1
    go_enter Tryz.func111, Tryz.ntmps111
    go_wp2_with (go_at_call 110; refine (HM.out _).mono ?_; rintro e w1 ⟨rfl, rfl⟩)
    go_ret
    exact ⟨rfl, rfl⟩
  · by_cases h0 : b < c
    · have d0 : decide (b < c) = true := by simp [h0]
      have e2 : twoV 8 b c = 1 := by unfold twoV; simp [h0]
      rw [e2]
      clear e2 hf
      go_enter Tryz.func111, Tryz.ntmps111
      go_wp2_with fail
      go_ret
      exact ⟨rfl, rfl⟩
    · have d0 : decide (b < c) = false := by simp [h0]
      have e2 : twoV 8 b c = 0 := by unfold twoV; simp [h0]
      rw [e2]
      clear e2 hf
      go_enter Tryz.func111, Tryz.ntmps111
      go_wp2_with fail
      go_ret
      exact ⟨rfl, rfl⟩
theorem calc_bad (op b c : Int) (hf : twoF op c ≠ 0) (w : World) :
    Calls Tryz.prog 111 #[.int .i64 op, .int .i64 b, .int .i64 c] w fun e w' => e = .panicked [{ v := .iface 153 (.int .i64 2), recovered := false }] ∧ w' = w := by
  have HM := Lib.hid (must_bad 2)
  have h : (op = 6 ∨ op = 7) ∧ c = 0 := by
    refine Classical.byContradiction fun h => ?_
    unfold twoF at hf
    rw [if_neg h] at hf
    exact hf rfl
  clear hf
  obtain ⟨rfl | rfl, rfl⟩ := h
  all_goals
    go_enter Tryz.func111, Tryz.ntmps111
    go_wp2_with (go_at_call 110; refine (HM.out _).mono ?_; rintro e w1 ⟨rfl, rfl⟩)
    exact ⟨rfl, rfl, rfl⟩

end Go.Proofs.YthkfaeplmmlnlaaGreat
namespace Go.Proofs.YthkfaeplmmlnlaaGreat
open Go.RowKit Go.Deep
set_option linter.unusedVariables false
set_option maxRecDepth 100000

theorem three_cells7 {W : World} {B : Nat} {c0 c1 c2 : Value} {T : TypeId} (h : W.heap[B]? = some (.cells #[c0, c1, c2] T (0, 0))) :
    W.cell? ⟨B, 0, none⟩ = some c0 ∧ W.cell? ⟨B, 1, none⟩ = some c1 ∧ W.cell? ⟨B, 2, none⟩ = some c2 := by
  refine ⟨?_, ?_, ?_⟩ <;> (rw [Lib.cell_of_heap h]; rfl)
/-- an append turns no block that is not the row's -/
theorem grown_keep8 {w w4 : World} {q : Nat} {v : Value} {o : Obj} (hg : w.grownBy w4 v.ownBlock) (hq : w.heap[q]? = some o) (hne : v.ownBlock ≠ some q) : w4.heap[q]? = some o := by
  rw [hg.block q (lt_of_block hq) (fun he => hne he.symm)]
  exact hq
theorem VmAt.notP {base P bd a : Nat} {lps : Int} {vw vs : Value} {r : Mch} {u : World} (h : VmAt base P bd a lps vw vs r u) {q : Nat} {c : Array Value} {t : TypeId} {f : Nat × Nat} (hq : u.heap[q]? = some (.cells c t f)) (ht : t ≠ 155) : q ≠ P := by
  rintro rfl
  rw [h.box] at hq
  simp only [Option.some.injEq, Obj.cells.injEq] at hq
  exact ht hq.2.1.symm
theorem VmAt.notD {base P bd a : Nat} {lps : Int} {vw vs : Value} {r : Mch} {u : World} (h : VmAt base P bd a lps vw vs r u) {q : Nat} {c : Array Value} {t : TypeId} {f : Nat × Nat} (hq : u.heap[q]? = some (.cells c t f)) (ht : t ≠ 164) : q ≠ bd := by
  rintro rfl
  rw [h.dice] at hq
  simp only [Option.some.injEq, Obj.cells.injEq] at hq
  exact ht hq.2.1.symm
/-- what a send leaves as it was -/
def Kept (P : Nat) (w w' : World) : Prop := ∀ q c t f, w.heap[q]? = some (.cells c t f) → t ≠ 97 → q ≠ P → w'.heap[q]? = some (.cells c t f)
/-- the boxes that hold the machine's address stay -/
def Keep7 (w w' : World) : Prop := ∀ (q : Nat) c f, w.heap[q]? = some (.cells c 140 f) → w'.heap[q]? = some (.cells c 140 f)
theorem Keep7.trans {a b c : World} (h : Keep7 a b) (k : Keep7 b c) : Keep7 a c := fun q x f e => k q x f (h q x f e)
theorem keep_below {w w' : World} (h : Below w.heap.size w w') : Keep7 w w' := fun q c f e => (h.block q (lt_of_block e)).trans e
theorem Keep7.drew {w w' : World} (h : Keep7 w w') : Keep7 w w'.drew := h
theorem keep_set {w : World} {b : Nat} {c : Array Value} {T : TypeId} {fr : Nat × Nat} (h : w.heap[b]? = some (.cells c T fr)) (hT : T ≠ 140) (o : Nat) (v : Value) : Keep7 w (w.setCell ⟨b, o, none⟩ v) := fun q x f e => by
  refine (Below.heap_setCell w ⟨b, o, none⟩ v q ?_).trans e
  rintro rfl
  rw [h] at e
  simp only [Option.some.injEq, Obj.cells.injEq] at e
  exact hT e.2.1
theorem keep_words {base P bd a : Nat} {lps : Int} {vs : Value} {r : Mch} {w : World} {bw n cap : Nat} (h : VmAt base P bd a lps (.slice (some ⟨bw, 0, none⟩) n cap) vs r w) (o : Nat) (v : Value) : Keep7 w (w.setCell ⟨bw, o, none⟩ v) := fun q x f e => by
  refine (Below.heap_setCell w ⟨bw, o, none⟩ v q ?_).trans e
  rintro rfl
  exact own_not h.w e (by decide) rfl
theorem Kept.keep {base P bd a : Nat} {lps : Int} {vw vs : Value} {r : Mch} {w w' : World} (k : Kept P w w') (h : VmAt base P bd a lps vw vs r w) : Keep7 w w' := fun q c f e => k q c _ f e (by decide) (h.notP e (by decide))
section
variable {base P bd da : Nat} {lps : Int} {vw vs : Value} {r : Mch}
set_option maxHeartbeats 1600000 in
theorem send_low (x : Snt) (h0 : x.dst < 0) (w : World) (hr : VmAt base P bd da lps vw vs r w) (hbase : base ≤ w.heap.size) :
    Calls Tryz.prog 113 #[.pointer (some ⟨P, 0, none⟩), .agg #[.int .i64 x.dst, .int .i64 x.dl, .int .i64 x.pay]] w fun e w' => e = .panicked [{ v := .iface 153 (.int .i64 6), recovered := false }] ∧ VmAt base P bd da lps vw vs r w' ∧ Below base w w' ∧ Kept P w w' := by
  have X1 := Lib.hid (heap_alloc_new w (.cells #[.int .i64 x.dst, .int .i64 x.dl, .int .i64 x.pay] 97))
  have B1 := Lib.hid (balloc w (.cells #[.int .i64 x.dst, .int .i64 x.dl, .int .i64 x.pay] 97))
  have RU := Lib.hid (hr.below B1.out)
  have HB := Lib.hid hbase
  have hbx : Hid (vs.ownBlock ≠ some w.heap.size) := fun e => by have := (own_lt hr.s e).2; omega
  have hPx : Hid (P ≠ w.heap.size) := by show _ ≠ _; have := lt_of_block hr.box; omega
  have KU : Hid (Kept P w (w.alloc (.cells #[.int .i64 x.dst, .int .i64 x.dl, .int .i64 x.pay] 97))) := fun q c t f h _ _ => (Below.heap_alloc w (.cells #[.int .i64 x.dst, .int .i64 x.dl, .int .i64 x.pay] 97) q (lt_of_block h)).trans h
  obtain ⟨az, cz, rfl⟩ := hr.form2
  clear hr hbase
  have HM := Lib.hid (must_bad 6)
  have d0 : decide ((0 : Int) ≤ x.dst) = false := by rw [decide_eq_false_iff_not]; omega
  clear h0
  go_enter Tryz.func113, Tryz.ntmps113
  go_upto_region 1 with fail
  generalize w.alloc (.cells #[.int .i64 x.dst, .int .i64 x.dl, .int .i64 x.pay] 97) = u at *
  have RD := Lib.hid RU.out.drew
  have XD : Hid (u.drew.heap[w.heap.size]? = some (.cells #[.int .i64 x.dst, .int .i64 x.dl, .int .i64 x.pay] 97 (0, 0))) := X1.out
  have LD := Lib.hid B1.out.drew
  have KD : Hid (Kept P w u.drew) := KU.out
  have ss : (fun w' => w'.cell? ⟨w.heap.size, 0, none⟩ = some (.int .i64 x.dst) ∧ w'.cell? ⟨P, 10, none⟩ = some (.int .i64 lps)) u.drew := ⟨(three_cells7 XD.out).1, RD.out.cells.2.2.1⟩
  refine wp_region_held_drew (S := (fun w' => w'.cell? ⟨w.heap.size, 0, none⟩ = some (.int .i64 x.dst) ∧ w'.cell? ⟨P, 10, none⟩ = some (.int .i64 lps))) (by kernel_rfl) ?_ (fun hHeld => ?_)
  · exact ss
  change wpAnyH _ _ _ _ _ _ _ _ (World.drew u)
  clear ss RU B1 X1 KU
  generalize u.drew = u0 at *
  first | refine tq0 0 rfl ?_ | refine tq1 0 rfl ?_
  try go_frame
  first | refine tq0 1 rfl ?_ | refine tq1 1 rfl ?_
  try go_frame
  first | refine tq0 2 rfl ?_ | refine tq1 2 rfl ?_
  try go_frame
  first | refine tq0 3 rfl ?_ | refine tq1 3 rfl ?_
  try go_frame
  first | refine tq0 4 rfl ?_ | refine tq1 4 rfl ?_
  try go_frame
  first | refine tq0 5 rfl ?_ | refine tq1 5 rfl ?_
  try go_frame
  first | refine tq0 6 rfl ?_ | refine tq1 6 rfl ?_
  try go_frame
  first | refine tq0 7 rfl ?_ | refine tq1 7 rfl ?_
  try go_frame
  first | refine tq0 8 rfl ?_ | refine tq1 8 rfl ?_
  try go_frame
  first | refine tq0 9 rfl ?_ | refine tq1 9 rfl ?_
  try go_frame
  first | refine tq0 10 rfl ?_ | refine tq1 10 rfl ?_
  try go_frame
  first | refine tq0 11 rfl ?_ | refine tq1 11 rfl ?_
  try go_frame
  refine wpAnyH_ready (rs := [12]) (by kernel_rfl) (by simp) ?_
  refine AllReadyH.cons (o := ⟨_, _, _, _, _, _⟩) rfl (fun K hK => ?_) AllReadyH.nil
  go_simp
  go_at_call 110
  refine (HM.out _).mono ?_
  rintro e w1 ⟨rfl, hw1⟩
  subst w1
  exact ⟨rfl, rfl, RD.out, LD.out.mono HB.out, KD.out⟩
set_option maxHeartbeats 1600000 in
theorem send_far (x : Snt) (h0 : 0 ≤ x.dst) (h1 : lps ≤ x.dst) (w : World) (hr : VmAt base P bd da lps vw vs r w) (hbase : base ≤ w.heap.size) :
    Calls Tryz.prog 113 #[.pointer (some ⟨P, 0, none⟩), .agg #[.int .i64 x.dst, .int .i64 x.dl, .int .i64 x.pay]] w fun e w' => e = .panicked [{ v := .iface 153 (.int .i64 6), recovered := false }] ∧ VmAt base P bd da lps vw vs r w' ∧ Below base w w' ∧ Kept P w w' := by
  have X1 := Lib.hid (heap_alloc_new w (.cells #[.int .i64 x.dst, .int .i64 x.dl, .int .i64 x.pay] 97))
  have B1 := Lib.hid (balloc w (.cells #[.int .i64 x.dst, .int .i64 x.dl, .int .i64 x.pay] 97))
  have RU := Lib.hid (hr.below B1.out)
  have HB := Lib.hid hbase
  have hbx : Hid (vs.ownBlock ≠ some w.heap.size) := fun e => by have := (own_lt hr.s e).2; omega
  have hPx : Hid (P ≠ w.heap.size) := by show _ ≠ _; have := lt_of_block hr.box; omega
  have KU : Hid (Kept P w (w.alloc (.cells #[.int .i64 x.dst, .int .i64 x.dl, .int .i64 x.pay] 97))) := fun q c t f h _ _ => (Below.heap_alloc w (.cells #[.int .i64 x.dst, .int .i64 x.dl, .int .i64 x.pay] 97) q (lt_of_block h)).trans h
  obtain ⟨az, cz, rfl⟩ := hr.form2
  clear hr hbase
  have HM := Lib.hid (must_bad 6)
  have d0 : decide ((0 : Int) ≤ x.dst) = true := by simp [h0]
  have d1 : decide (x.dst < lps) = false := by rw [decide_eq_false_iff_not]; omega
  clear h0 h1
  go_enter Tryz.func113, Tryz.ntmps113
  go_upto_region 1 with fail
  generalize w.alloc (.cells #[.int .i64 x.dst, .int .i64 x.dl, .int .i64 x.pay] 97) = u at *
  have RD := Lib.hid RU.out.drew
  have XD : Hid (u.drew.heap[w.heap.size]? = some (.cells #[.int .i64 x.dst, .int .i64 x.dl, .int .i64 x.pay] 97 (0, 0))) := X1.out
  have LD := Lib.hid B1.out.drew
  have KD : Hid (Kept P w u.drew) := KU.out
  have ss : (fun w' => w'.cell? ⟨w.heap.size, 0, none⟩ = some (.int .i64 x.dst) ∧ w'.cell? ⟨P, 10, none⟩ = some (.int .i64 lps)) u.drew := ⟨(three_cells7 XD.out).1, RD.out.cells.2.2.1⟩
  refine wp_region_held_drew (S := (fun w' => w'.cell? ⟨w.heap.size, 0, none⟩ = some (.int .i64 x.dst) ∧ w'.cell? ⟨P, 10, none⟩ = some (.int .i64 lps))) (by kernel_rfl) ?_ (fun hHeld => ?_)
  · exact ss
  change wpAnyH _ _ _ _ _ _ _ _ (World.drew u)
  clear ss RU B1 X1 KU
  generalize u.drew = u0 at *
  first | refine tq0 0 rfl ?_ | refine tq1 0 rfl ?_
  try go_frame
  first | refine tq0 1 rfl ?_ | refine tq1 1 rfl ?_
  try go_frame
  first | refine tq0 2 rfl ?_ | refine tq1 2 rfl ?_
  try go_frame
  first | refine tq0 3 rfl ?_ | refine tq1 3 rfl ?_
  try go_frame
  first | refine tq0 4 rfl ?_ | refine tq1 4 rfl ?_
  try go_frame
  first | refine tq0 5 rfl ?_ | refine tq1 5 rfl ?_
  try go_frame
  first | refine tq0 6 rfl ?_ | refine tq1 6 rfl ?_
  try go_frame
  first | refine tq0 7 rfl ?_ | refine tq1 7 rfl ?_
  try go_frame
  first | refine tq0 8 rfl ?_ | refine tq1 8 rfl ?_
  try go_frame
  first | refine tq0 9 rfl ?_ | refine tq1 9 rfl ?_
  try go_frame
  first | refine tq0 10 rfl ?_ | refine tq1 10 rfl ?_
  try go_frame
  first | refine tq0 11 rfl ?_ | refine tq1 11 rfl ?_
  try go_frame
  refine wpAnyH_ready (rs := [12]) (by kernel_rfl) (by simp) ?_
  refine AllReadyH.cons (o := ⟨_, _, _, _, _, _⟩) rfl (fun K hK => ?_) AllReadyH.nil
  go_simp
  go_at_call 110
  refine (HM.out _).mono ?_
  rintro e w1 ⟨rfl, hw1⟩
  subst w1
  exact ⟨rfl, rfl, RD.out, LD.out.mono HB.out, KD.out⟩
set_option maxHeartbeats 1600000 in
theorem send_full (x : Snt) (h0 : 0 ≤ x.dst) (h1 : x.dst < lps) (h4 : 4 ≤ r.ns) (w : World) (hr : VmAt base P bd da lps vw vs r w) (hbase : base ≤ w.heap.size) :
    Calls Tryz.prog 113 #[.pointer (some ⟨P, 0, none⟩), .agg #[.int .i64 x.dst, .int .i64 x.dl, .int .i64 x.pay]] w fun e w' => e = .panicked [{ v := .iface 153 (.int .i64 5), recovered := false }] ∧ VmAt base P bd da lps vw vs r w' ∧ Below base w w' ∧ Kept P w w' := by
  have X1 := Lib.hid (heap_alloc_new w (.cells #[.int .i64 x.dst, .int .i64 x.dl, .int .i64 x.pay] 97))
  have B1 := Lib.hid (balloc w (.cells #[.int .i64 x.dst, .int .i64 x.dl, .int .i64 x.pay] 97))
  have RU := Lib.hid (hr.below B1.out)
  have HB := Lib.hid hbase
  have hbx : Hid (vs.ownBlock ≠ some w.heap.size) := fun e => by have := (own_lt hr.s e).2; omega
  have hPx : Hid (P ≠ w.heap.size) := by show _ ≠ _; have := lt_of_block hr.box; omega
  have KU : Hid (Kept P w (w.alloc (.cells #[.int .i64 x.dst, .int .i64 x.dl, .int .i64 x.pay] 97))) := fun q c t f h _ _ => (Below.heap_alloc w (.cells #[.int .i64 x.dst, .int .i64 x.dl, .int .i64 x.pay] 97) q (lt_of_block h)).trans h
  obtain ⟨az, cz, rfl⟩ := hr.form2
  clear hr hbase
  have HM := Lib.hid (must_ok 6)
  have HM5 := Lib.hid (must_bad 5)
  have d4 : decide ((r.ns : Int) < 4) = false := by rw [decide_eq_false_iff_not]; omega
  clear h4
  have d0 : decide ((0 : Int) ≤ x.dst) = true := by simp [h0]
  have d1 : decide (x.dst < lps) = true := by simp [h1]
  clear h0 h1
  go_enter Tryz.func113, Tryz.ntmps113
  go_upto_region 1 with fail
  generalize w.alloc (.cells #[.int .i64 x.dst, .int .i64 x.dl, .int .i64 x.pay] 97) = u at *
  have RD := Lib.hid RU.out.drew
  have XD : Hid (u.drew.heap[w.heap.size]? = some (.cells #[.int .i64 x.dst, .int .i64 x.dl, .int .i64 x.pay] 97 (0, 0))) := X1.out
  have LD := Lib.hid B1.out.drew
  have KD : Hid (Kept P w u.drew) := KU.out
  have ss : (fun w' => w'.cell? ⟨w.heap.size, 0, none⟩ = some (.int .i64 x.dst) ∧ w'.cell? ⟨P, 10, none⟩ = some (.int .i64 lps)) u.drew := ⟨(three_cells7 XD.out).1, RD.out.cells.2.2.1⟩
  refine wp_region_held_drew (S := (fun w' => w'.cell? ⟨w.heap.size, 0, none⟩ = some (.int .i64 x.dst) ∧ w'.cell? ⟨P, 10, none⟩ = some (.int .i64 lps))) (by kernel_rfl) ?_ (fun hHeld => ?_)
  · exact ss
  change wpAnyH _ _ _ _ _ _ _ _ (World.drew u)
  clear ss RU B1 X1 KU
  generalize u.drew = u0 at *
  first | refine tq0 0 rfl ?_ | refine tq1 0 rfl ?_
  try go_frame
  first | refine tq0 1 rfl ?_ | refine tq1 1 rfl ?_
  try go_frame
  first | refine tq0 2 rfl ?_ | refine tq1 2 rfl ?_
  try go_frame
  first | refine tq0 3 rfl ?_ | refine tq1 3 rfl ?_
  try go_frame
  first | refine tq0 4 rfl ?_ | refine tq1 4 rfl ?_
  try go_frame
  first | refine tq0 5 rfl ?_ | refine tq1 5 rfl ?_
  try go_frame
  first | refine tq0 6 rfl ?_ | refine tq1 6 rfl ?_
  try go_frame
  first | refine tq0 7 rfl ?_ | refine tq1 7 rfl ?_
  try go_frame
  first | refine tq0 8 rfl ?_ | refine tq1 8 rfl ?_
  try go_frame
  first | refine tq0 9 rfl ?_ | refine tq1 9 rfl ?_
  try go_frame
  first | refine tq0 10 rfl ?_ | refine tq1 10 rfl ?_
  try go_frame
  first | refine tq0 11 rfl ?_ | refine tq1 11 rfl ?_
  try go_frame
  refine wpAnyH_ready (rs := [12]) (by kernel_rfl) (by simp) ?_
  refine AllReadyH.cons (o := ⟨_, _, _, _, _, _⟩) rfl (fun K hK => ?_) AllReadyH.nil
  go_simp
  go_at_call 110
  refine (HM.out _).mono ?_
  rintro e w1 ⟨rfl, hw1⟩
  subst w1
  refine hK.out _ _ ?_ (fun hHeld => ?_)
  · exact hHeld
  clear hK K
  try go_frame
  refine wpAnyH_done (by kernel_rfl) ?_ _
  obtain ⟨p8, p9, p10, p11, p12, p13, p14, pf⟩ := RD.out.cells
  go_wp2_with (go_at_call 110; refine (HM5.out _).mono ?_; rintro e w1 ⟨rfl, hw1⟩; subst w1)
  exact ⟨rfl, rfl, RD.out, LD.out.mono HB.out, KD.out⟩
set_option maxHeartbeats 1600000 in
theorem send_ok (x : Snt) (h0 : 0 ≤ x.dst) (h1 : x.dst < lps) (h4 : r.ns < 4) (w : World) (hr : VmAt base P bd da lps vw vs r w) (hbase : base ≤ w.heap.size) :
    Calls Tryz.prog 113 #[.pointer (some ⟨P, 0, none⟩), .agg #[.int .i64 x.dst, .int .i64 x.dl, .int .i64 x.pay]] w fun e w' => e = .returned (.tuple #[]) ∧ (∃ vs', VmAt base P bd da lps vw vs' { r with ns := r.ns + 1, sn := fun q => if q = r.ns then x else r.sn q } w') ∧ Below base w w' ∧ Kept P w w' := by
  have X1 := Lib.hid (heap_alloc_new w (.cells #[.int .i64 x.dst, .int .i64 x.dl, .int .i64 x.pay] 97))
  have B1 := Lib.hid (balloc w (.cells #[.int .i64 x.dst, .int .i64 x.dl, .int .i64 x.pay] 97))
  have RU := Lib.hid (hr.below B1.out)
  have HB := Lib.hid hbase
  have hbx : Hid (vs.ownBlock ≠ some w.heap.size) := fun e => by have := (own_lt hr.s e).2; omega
  have hPx : Hid (P ≠ w.heap.size) := by show _ ≠ _; have := lt_of_block hr.box; omega
  have KU : Hid (Kept P w (w.alloc (.cells #[.int .i64 x.dst, .int .i64 x.dl, .int .i64 x.pay] 97))) := fun q c t f h _ _ => (Below.heap_alloc w (.cells #[.int .i64 x.dst, .int .i64 x.dl, .int .i64 x.pay] 97) q (lt_of_block h)).trans h
  obtain ⟨az, cz, rfl⟩ := hr.form2
  clear hr hbase
  obtain ⟨i0, hi0, hz0, hz1, hz2⟩ := info_parts info_sent7
  have HM := Lib.hid (must_ok 6)
  have HM5 := Lib.hid (must_ok 5)
  have d4 : decide ((r.ns : Int) < 4) = true := by rw [decide_eq_true_eq]; omega
  have h5 : r.ns ≤ 3 := by omega
  clear h4
  have d0 : decide ((0 : Int) ≤ x.dst) = true := by simp [h0]
  have d1 : decide (x.dst < lps) = true := by simp [h1]
  clear h0 h1
  go_enter Tryz.func113, Tryz.ntmps113
  go_upto_region 1 with fail
  generalize w.alloc (.cells #[.int .i64 x.dst, .int .i64 x.dl, .int .i64 x.pay] 97) = u at *
  have RD := Lib.hid RU.out.drew
  have XD : Hid (u.drew.heap[w.heap.size]? = some (.cells #[.int .i64 x.dst, .int .i64 x.dl, .int .i64 x.pay] 97 (0, 0))) := X1.out
  have LD := Lib.hid B1.out.drew
  have KD : Hid (Kept P w u.drew) := KU.out
  have ss : (fun w' => w'.cell? ⟨w.heap.size, 0, none⟩ = some (.int .i64 x.dst) ∧ w'.cell? ⟨P, 10, none⟩ = some (.int .i64 lps)) u.drew := ⟨(three_cells7 XD.out).1, RD.out.cells.2.2.1⟩
  refine wp_region_held_drew (S := (fun w' => w'.cell? ⟨w.heap.size, 0, none⟩ = some (.int .i64 x.dst) ∧ w'.cell? ⟨P, 10, none⟩ = some (.int .i64 lps))) (by kernel_rfl) ?_ (fun hHeld => ?_)
  · exact ss
  change wpAnyH _ _ _ _ _ _ _ _ (World.drew u)
  clear ss RU B1 X1 KU
  generalize u.drew = u0 at *
  first | refine tq0 0 rfl ?_ | refine tq1 0 rfl ?_
  try go_frame
  first | refine tq0 1 rfl ?_ | refine tq1 1 rfl ?_
  try go_frame
  first | refine tq0 2 rfl ?_ | refine tq1 2 rfl ?_
  try go_frame
  first | refine tq0 3 rfl ?_ | refine tq1 3 rfl ?_
  try go_frame
  first | refine tq0 4 rfl ?_ | refine tq1 4 rfl ?_
  try go_frame
  first | refine tq0 5 rfl ?_ | refine tq1 5 rfl ?_
  try go_frame
  first | refine tq0 6 rfl ?_ | refine tq1 6 rfl ?_
  try go_frame
  first | refine tq0 7 rfl ?_ | refine tq1 7 rfl ?_
  try go_frame
  first | refine tq0 8 rfl ?_ | refine tq1 8 rfl ?_
  try go_frame
  first | refine tq0 9 rfl ?_ | refine tq1 9 rfl ?_
  try go_frame
  first | refine tq0 10 rfl ?_ | refine tq1 10 rfl ?_
  try go_frame
  first | refine tq0 11 rfl ?_ | refine tq1 11 rfl ?_
  try go_frame
  refine wpAnyH_ready (rs := [12]) (by kernel_rfl) (by simp) ?_
  refine AllReadyH.cons (o := ⟨_, _, _, _, _, _⟩) rfl (fun K hK => ?_) AllReadyH.nil
  go_simp
  go_at_call 110
  refine (HM.out _).mono ?_
  rintro e w1 ⟨rfl, hw1⟩
  subst w1
  refine hK.out _ _ ?_ (fun hHeld => ?_)
  · exact hHeld
  clear hK K
  try go_frame
  refine wpAnyH_done (by kernel_rfl) ?_ _
  have L0 := Lib.hid LD.out.drew
  have R0 := Lib.hid RD.out.drew
  have X0 : Hid (u0.drew.heap[w.heap.size]? = some (.cells #[.int .i64 x.dst, .int .i64 x.dl, .int .i64 x.pay] 97 (0, 0))) := XD.out
  have K0 : Hid (Kept P w u0.drew) := KD.out
  obtain ⟨p8, p9, p10, p11, p12, p13, p14, pf⟩ := RD.out.cells
  go_wp2_with (go_at_call 110; refine (HM5.out _).mono ?_; rintro e w1 ⟨rfl, hw1⟩; subst w1)
  clear p8 p9 p10 p11 p12 p13 p14 pf d4 d0 d1 HM HM5 LD RD XD KD
  have hus : base ≤ u0.drew.heap.size := Nat.le_trans HB.out L0.out.size
  refine wp_region_held_drew (S := (fun w' => w'.cell? ⟨w.heap.size, 0, none⟩ = some (.int .i64 x.dst) ∧ w'.cell? ⟨w.heap.size, 1, none⟩ = some (.int .i64 x.dl) ∧ w'.cell? ⟨w.heap.size, 2, none⟩ = some (.int .i64 x.pay))) (by kernel_rfl) ?_ (fun hHeld => ?_)
  · exact three_cells7 X0.out
  change wpAnyH _ _ _ _ _ _ _ _ (World.drew u0)
  generalize u0.drew = u2 at *
  have RA := Lib.hid (R0.out.below (balloc u2 (.cells #[.int .i64 x.dst, .int .i64 x.dl, .int .i64 x.pay] 97)))
  have HN := Lib.hid (news_cells7 u2 #[.int .i64 x.dst, .int .i64 x.dl, .int .i64 x.pay] 97)
  have HBS : Hid (base ≤ (u2.alloc (.cells #[.int .i64 x.dst, .int .i64 x.dl, .int .i64 x.pay] 97)).heap.size) := by show _ ≤ _; rw [World.size_alloc]; omega
  have LA := Lib.hid ((L0.out.mono HB.out).trans ((balloc u2 (.cells #[.int .i64 x.dst, .int .i64 x.dl, .int .i64 x.pay] 97)).mono hus))
  have HXA := Lib.hid ((Below.heap_alloc u2 (.cells #[.int .i64 x.dst, .int .i64 x.dl, .int .i64 x.pay] 97) _ (lt_of_block X0.out)).trans X0.out)
  have KA : Hid (Kept P w (u2.alloc (.cells #[.int .i64 x.dst, .int .i64 x.dl, .int .i64 x.pay] 97))) := fun q c t f h h2 h3 => (Below.heap_alloc u2 (.cells #[.int .i64 x.dst, .int .i64 x.dl, .int .i64 x.pay] 97) q (lt_of_block (K0.out q c t f h h2 h3))).trans (K0.out q c t f h h2 h3)
  first | refine tq0 0 rfl ?_ | refine tq1 0 rfl ?_
  try go_frame
  first | refine tq0 1 rfl ?_ | refine tq1 1 rfl ?_
  try go_frame
  first | refine tq0 2 rfl ?_ | refine tq1 2 rfl ?_
  try go_frame
  first | refine tq0 3 rfl ?_ | refine tq1 3 rfl ?_
  try go_frame
  first | refine tq0 5 rfl ?_ | refine tq1 5 rfl ?_
  try go_frame
  refine wpAnyH_ready (rs := [4, 6]) (by kernel_rfl) (by simp) ?_
  refine AllReadyH.cons (o := ⟨_, _, _, _, _, _⟩) rfl (fun K hK => ?_) (AllReadyH.cons (o := ⟨_, _, _, _, _, _⟩) rfl (fun K hK => ?_) AllReadyH.nil)
  · have p2 := R0.out.cells.2.2.2.1
    go_simp
    refine hK.out _ _ ?_ (fun hHeld => ?_)
    · exact hHeld
    clear hK K p2
    try go_frame
    refine wpAnyH_ready (rs := [6]) (by kernel_rfl) (by simp) ?_
    refine AllReadyH.cons (o := ⟨_, _, _, _, _, _⟩) rfl (fun K hK => ?_) AllReadyH.nil
    go_simp
    refine hK.out _ _ ?_ (fun hHeld => ?_)
    · exact three_cells7 HXA.out
    clear hK K
    try go_frame
    refine wpAnyH_ready (rs := [7]) (by kernel_rfl) (by simp) ?_
    refine AllReadyH.cons (o := ⟨_, _, _, _, _, _⟩) rfl (fun K hK => ?_) AllReadyH.nil
    refine step_append_lies _ rfl (.tmp 28) (.tmp 30) 88 rfl base 97 i0 (.agg #[.int .i64 0, .int .i64 0, .int .i64 0]) 3 24 Tryz.underlying88 hi0 hz0 hz1 hz2 rfl (by decide) (.slice az r.ns cz) r.ns _ (by simp [Act.eval]) RA.out.s ⟨u2.heap.size, 0, none⟩ 1 1 [.int .i64 x.dst, .int .i64 x.dl, .int .i64 x.pay] (by simp [Act.eval]) rfl HN.out (by simp [Value.oneCell']) (by decide) (by unfold maxLen; omega) (by omega) HBS.out _ rfl ?_
    intro g1 cap1 w10 hown10 hgr _ _
    have RR := Lib.hid (RA.out.sent x hown10 hgr)
    have LG := Lib.hid (LA.out.trans (below_grown RA.out.s HBS.out hgr))
    have hX10 := Lib.hid (grown_keep8 hgr HXA.out hbx.out)
    have z2 : w10.cell? ⟨P, 11, none⟩ = some (.slice az r.ns cz) := by rw [Lib.cell_of_heap RR.out.1]; rfl
    have zf : w10.frozen? ⟨P, 11, none⟩ = false := Lib.frozen_of_heap RR.out.1 11
    have HP := Lib.hid RA.out.lo
    have KG : Hid (Kept P w w10) := fun q c t f h h2 h3 => grown_keep7 RA.out.s hgr (KA.out q c t f h h2 h3) h2
    refine hK.out _ _ ?_ (fun hHeld => ?_)
    · exact three_cells7 hX10.out
    clear hK K hown10 hgr
    try go_frame
    first | refine tq0 8 rfl ?_ | refine tq1 8 rfl ?_
    try go_frame
    first | refine tq0 9 rfl ?_ | refine tq1 9 rfl ?_
    try go_frame
    refine wpAnyH_ready (rs := [10]) (by kernel_rfl) (by simp) ?_
    refine AllReadyH.cons (o := ⟨_, _, _, _, _, _⟩) rfl (fun K hK => ?_) AllReadyH.nil
    go_simp
    have hXZ := Lib.hid ((Below.heap_setCell w10 ⟨P, 11, none⟩ (.slice (some ⟨g1, 0, none⟩) (r.ns + 1) cap1) w.heap.size (Ne.symm hPx.out)).trans hX10.out)
    refine hK.out _ _ ?_ (fun hHeld => ?_)
    · exact three_cells7 hXZ.out
    clear hK K
    try go_frame
    refine wpAnyH_done (by kernel_rfl) ?_ _
    go_wp2_with fail
    go_end0
    exact ⟨rfl, ⟨_, RR.out.2⟩, LG.out.setCell (p := ⟨P, 11, none⟩) HP.out _, fun q c t f h h2 h3 => (Below.heap_setCell w10 ⟨P, 11, none⟩ _ q h3).trans (KG.out q c t f h h2 h3)⟩
  · go_simp
    refine hK.out _ _ ?_ (fun hHeld => ?_)
    · exact three_cells7 HXA.out
    clear hK K
    try go_frame
    refine wpAnyH_ready (rs := [4]) (by kernel_rfl) (by simp) ?_
    refine AllReadyH.cons (o := ⟨_, _, _, _, _, _⟩) rfl (fun K hK => ?_) AllReadyH.nil
    have p2 := RA.out.cells.2.2.2.1
    go_simp
    refine hK.out _ _ ?_ (fun hHeld => ?_)
    · exact hHeld
    clear hK K p2
    try go_frame
    refine wpAnyH_ready (rs := [7]) (by kernel_rfl) (by simp) ?_
    refine AllReadyH.cons (o := ⟨_, _, _, _, _, _⟩) rfl (fun K hK => ?_) AllReadyH.nil
    refine step_append_lies _ rfl (.tmp 28) (.tmp 30) 88 rfl base 97 i0 (.agg #[.int .i64 0, .int .i64 0, .int .i64 0]) 3 24 Tryz.underlying88 hi0 hz0 hz1 hz2 rfl (by decide) (.slice az r.ns cz) r.ns _ (by simp [Act.eval]) RA.out.s ⟨u2.heap.size, 0, none⟩ 1 1 [.int .i64 x.dst, .int .i64 x.dl, .int .i64 x.pay] (by simp [Act.eval]) rfl HN.out (by simp [Value.oneCell']) (by decide) (by unfold maxLen; omega) (by omega) HBS.out _ rfl ?_
    intro g1 cap1 w10 hown10 hgr _ _
    have RR := Lib.hid (RA.out.sent x hown10 hgr)
    have LG := Lib.hid (LA.out.trans (below_grown RA.out.s HBS.out hgr))
    have hX10 := Lib.hid (grown_keep8 hgr HXA.out hbx.out)
    have z2 : w10.cell? ⟨P, 11, none⟩ = some (.slice az r.ns cz) := by rw [Lib.cell_of_heap RR.out.1]; rfl
    have zf : w10.frozen? ⟨P, 11, none⟩ = false := Lib.frozen_of_heap RR.out.1 11
    have HP := Lib.hid RA.out.lo
    have KG : Hid (Kept P w w10) := fun q c t f h h2 h3 => grown_keep7 RA.out.s hgr (KA.out q c t f h h2 h3) h2
    refine hK.out _ _ ?_ (fun hHeld => ?_)
    · exact three_cells7 hX10.out
    clear hK K hown10 hgr
    try go_frame
    first | refine tq0 8 rfl ?_ | refine tq1 8 rfl ?_
    try go_frame
    first | refine tq0 9 rfl ?_ | refine tq1 9 rfl ?_
    try go_frame
    refine wpAnyH_ready (rs := [10]) (by kernel_rfl) (by simp) ?_
    refine AllReadyH.cons (o := ⟨_, _, _, _, _, _⟩) rfl (fun K hK => ?_) AllReadyH.nil
    go_simp
    have hXZ := Lib.hid ((Below.heap_setCell w10 ⟨P, 11, none⟩ (.slice (some ⟨g1, 0, none⟩) (r.ns + 1) cap1) w.heap.size (Ne.symm hPx.out)).trans hX10.out)
    refine hK.out _ _ ?_ (fun hHeld => ?_)
    · exact three_cells7 hXZ.out
    clear hK K
    try go_frame
    refine wpAnyH_done (by kernel_rfl) ?_ _
    go_wp2_with fail
    go_end0
    exact ⟨rfl, ⟨_, RR.out.2⟩, LG.out.setCell (p := ⟨P, 11, none⟩) HP.out _, fun q c t f h h2 h3 => (Below.heap_setCell w10 ⟨P, 11, none⟩ _ q h3).trans (KG.out q c t f h h2 h3)⟩
end

end Go.Proofs.YthkfaeplmmlnlaaGreat
