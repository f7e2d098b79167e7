/- The law VmWhole, over whatever the program's Run is known to answer. -/
import Derived.Test.YtehdlpgopcoecaaVmLaws2
namespace Go.Proofs.Ytehdlpgopcoecaa
open Go.RowKit
set_option linter.unusedVariables false
set_option maxRecDepth 100000

/-- what holds all through a run -/
structure Inv (nw0 : Nat) (lps : Int) (r : Mch) : Prop where
  nw : r.nw = nw0
  ns : r.ns ≤ 4
  sn : ∀ q, q < r.ns → 0 ≤ (r.sn q).dst ∧ (r.sn q).dst < lps
  f : 0 ≤ r.f ∧ r.f ≤ 6
theorem oneR_inv {nw0 : Nat} {x : I4} {lps seed me : Int} {r : Mch} (hf : oneF x lps r = 0) (h : Inv nw0 lps r) : Inv nw0 lps (oneR x seed me r) := by
  unfold oneR
  split
  · exact ⟨h.nw, h.ns, h.sn, h.f⟩
  split
  · exact ⟨h.nw, h.ns, h.sn, h.f⟩
  split
  · exact ⟨h.nw, h.ns, h.sn, h.f⟩
  split
  · split
    · exact ⟨h.nw, h.ns, h.sn, h.f⟩
    · exact h
  split
  · exact ⟨h.nw, h.ns, h.sn, h.f⟩
  split
  · rename_i h1 h2 h3 h4 h5 h12
    unfold oneF at hf
    rw [if_neg (by omega), if_pos h12] at hf
    by_cases c1 : r.g x.a.toNat < 0 ∨ lps ≤ r.g x.a.toNat
    · rw [if_pos c1] at hf; omega
    · rw [if_neg c1] at hf
      by_cases c2 : 4 ≤ r.ns
      · rw [if_pos c2] at hf; omega
      · refine ⟨h.nw, by show r.ns + 1 ≤ 4; omega, fun q hq => ?_, h.f⟩
        have hq : q < r.ns + 1 := hq
        by_cases e : q = r.ns
        · simp only [e, if_pos]; omega
        · simp only [if_neg e]; exact h.sn q (by omega)
  split
  · exact ⟨h.nw, h.ns, h.sn, h.f⟩
  split
  · exact ⟨h.nw, h.ns, h.sn, h.f⟩
  · exact ⟨h.nw, h.ns, h.sn, h.f⟩
theorem runM_inv (nw0 : Nat) (pr : Nat → I4) (pl : Nat) (lps seed me : Int) (k : Nat) : ∀ r : Mch, Inv nw0 lps r → Inv nw0 lps (runM pr pl lps seed me k r) := by
  induction k with
  | zero =>
    intro r h
    by_cases c : pl ≤ r.pc
    · rw [runM_end c]; exact h
    · rw [runM_fuel (by omega)]; exact ⟨h.nw, h.ns, h.sn, by show (0 : Int) ≤ 1 ∧ (1 : Int) ≤ 6; omega⟩
  | succ k ih =>
    intro r h
    have h1 : Inv nw0 lps { r with n := r.n + 1, pc := r.pc + 1 } := ⟨h.nw, h.ns, h.sn, h.f⟩
    by_cases c : pl ≤ r.pc
    · rw [runM_end c]; exact h
    · by_cases h0 : (pr r.pc).op = 0
      · rw [runM_halt (by omega) h0]; exact h1
      · by_cases hf : oneF (pr r.pc) lps { r with n := r.n + 1, pc := r.pc + 1 } = 0
        · rw [runM_on (by omega) h0 hf]
          exact ih _ (oneR_inv hf h1)
        · rw [runM_bad (by omega) h0 hf]
          exact ⟨h.nw, h.ns, h.sn, oneF_bd _ _ _⟩
theorem whole_inv (pr : Nat → I4) (pl : Nat) (i : Inp) : Inv i.nw i.lps (wholeM pr pl i) :=
  runM_inv _ _ _ _ _ _ _ _ ⟨rfl, Nat.zero_le _, fun q hq => absurd hq (Nat.not_lt_zero q), by show (0 : Int) ≤ 0 ∧ (0 : Int) ≤ 6; omega⟩
/-- what VmWhole asks of an output -/
structure Whl (nw : Nat) (lps mn : Int) (ou : Ou) : Prop where
  bad : mn ≠ 0 ∨ ou.f ≠ 0 → ou.nw = 0 ∧ ou.ns = 0 ∧ ou.dice = 0 ∧ (mn ≠ 0 ∨ (1 ≤ ou.f ∧ ou.f ≤ 6))
  good : mn = 0 → ou.f = 0 → ou.nw = nw ∧ ou.ns ≤ 4 ∧ ∀ q, q < ou.ns → 0 ≤ (ou.sn q).dst ∧ (ou.sn q).dst < lps
theorem doU_whl (pr : Nat → I4) (pl : Nat) (i : Inp) : Whl i.nw i.lps (mayN pr pl i) (doU pr pl i) := by
  have hw := whole_inv pr pl i
  unfold doU
  by_cases hm : mayN pr pl i = 0
  · rw [if_pos hm, hm]
    by_cases hf : (wholeM pr pl i).f = 0
    · rw [if_pos hf]
      exact ⟨fun h => by rcases h with h | h <;> exact absurd rfl h, fun _ _ => ⟨hw.nw, hw.ns, hw.sn⟩⟩
    · rw [if_neg hf]
      have := hw.f
      exact ⟨fun _ => ⟨rfl, rfl, rfl, .inr ⟨by show 1 ≤ (wholeM pr pl i).f; omega, by show (wholeM pr pl i).f ≤ 6; omega⟩⟩, fun _ h => absurd h hf⟩
  · rw [if_neg hm]
    exact ⟨fun _ => ⟨rfl, rfl, rfl, .inl hm⟩, fun h => absurd h hm⟩

set_option maxHeartbeats 3200000 in
theorem vmWhole_core (ou : Ou) (mn : Int) (ap aw : Option Addr) (pl cp nw cw : Nat) (pay me lps seed dice : Int) (hwh : Whl nw lps mn ou) (w : World)
    (HAW : Hid (∀ w, Calls Try.prog 9 #[] w fun e w' => e = .returned (.bool true) ∧ Below w.heap.size w w'))
    (HR : Hid (∀ u, Below w.heap.size w u → Calls Try.prog 10 #[.slice ap pl cp, .agg #[.slice aw nw cw, .int .i64 pay, .int .i64 me, .int .i64 lps, .int .i64 seed, .int .i64 dice]] u (Tells ou mn u))) :
    Calls Try.prog 5 #[.slice ap pl cp, .agg #[.slice aw nw cw, .int .i64 pay, .int .i64 me, .int .i64 lps, .int .i64 seed, .int .i64 dice]] w fun e w' => e = .returned (.bool true) ∧ Below w.heap.size w w' := by
  have X1 := Lib.hid (heap_alloc_new w (.cells #[.slice aw nw cw, .int .i64 pay, .int .i64 me, .int .i64 lps, .int .i64 seed, .int .i64 dice] 25))
  have B1 := Lib.hid (balloc w (.cells #[.slice aw nw cw, .int .i64 pay, .int .i64 me, .int .i64 lps, .int .i64 seed, .int .i64 dice] 25))
  have HF := Lib.hid (few7_any ap aw pl cp nw cw pay me lps seed dice)
  have HW := Lib.hid hwh
  clear hwh
  obtain ⟨n0, n1, n2, n3, n4, n5⟩ := six_cells7 X1.out
  generalize hu : w.alloc (.cells #[.slice aw nw cw, .int .i64 pay, .int .i64 me, .int .i64 lps, .int .i64 seed, .int .i64 dice] 25) = u at X1 B1 n0 n1 n2 n3 n4 n5
  generalize fewB pl nw = fb at HF
  cases fb
  · go_enter Try.func5, Try.ntmps5
    go_upto_region 1 with fail
    try rw [hu]
    clear hu
    go_wp2_with (first
      | (go_at_call 8; refine (HF.out _).mono ?_; rintro e w1 ⟨rfl, hb1⟩; have B2 := Lib.hid (bthen B1.out hb1); clear hb1)
      | (go_at_call 9; refine (HAW.out _).mono ?_; rintro e w2 ⟨rfl, hb2⟩; have B3 := Lib.hid (bthen B2.out hb2); clear hb2))
    go_ret
    exact ⟨rfl, B3.out⟩
  · go_enter Try.func5, Try.ntmps5
    go_upto_region 1 with fail
    try rw [hu]
    clear hu
    go_wp2_with (go_at_call 8; refine (HF.out _).mono ?_; rintro e w1 ⟨rfl, hb1⟩; have B2 := Lib.hid (bthen B1.out hb1); have X2 := Lib.hid ((hb1.block _ (lt_of_block X1.out)).trans X1.out); clear hb1 n0 n1 n2 n3 n4 n5; obtain ⟨n0, n1, n2, n3, n4, n5⟩ := six_cells7 X2.out)
    refine (HR.out _ B2.out).mono ?_
    rintro e w3 ⟨aw3, cw3, as3, cs3, rfl, ho3, hb3⟩
    have X3 := Lib.hid ((hb3.block _ (lt_of_block X2.out)).trans X2.out)
    have B3 := Lib.hid (bthen B2.out hb3)
    have O3 := Lib.hid (ho3.below (balloc w3 (.cells #[.slice aw3 ou.nw cw3, .slice as3 ou.ns cs3, .int .i64 ou.dice, .int .i64 ou.f] 30)))
    have X4 := Lib.hid ((Below.heap_alloc w3 (.cells #[.slice aw3 ou.nw cw3, .slice as3 ou.ns cs3, .int .i64 ou.dice, .int .i64 ou.f] 30) _ (lt_of_block X3.out)).trans X3.out)
    have Y4 := Lib.hid (heap_alloc_new w3 (.cells #[.slice aw3 ou.nw cw3, .slice as3 ou.ns cs3, .int .i64 ou.dice, .int .i64 ou.f] 30))
    have B4 := Lib.hid (bthen B3.out (balloc w3 (.cells #[.slice aw3 ou.nw cw3, .slice as3 ou.ns cs3, .int .i64 ou.dice, .int .i64 ou.f] 30)))
    clear hb3 ho3 n0 n1 n2 n3 n4 n5
    go_upto_region 4 with fail
    generalize w3.alloc (.cells #[.slice aw3 ou.nw cw3, .slice as3 ou.ns cs3, .int .i64 ou.dice, .int .i64 ou.f] 30) = u3 at *
    generalize w3.heap.size = yb at *
    obtain ⟨y0, y1, y2, y3⟩ := four_cells Y4.out
    by_cases hbad : mn ≠ 0 ∨ ou.f ≠ 0
    · obtain ⟨q1, q2, q3, q4⟩ := HW.out.bad hbad
      rw [q1] at y0 Y4
      rw [q2] at y1 Y4
      rw [q3] at y2 Y4
      by_cases hm : mn = 0
      · have hf : ou.f ≠ 0 := hbad.resolve_left (fun h => h hm)
        have df : (ou.f != 0) = true := by simp [hf]
        have hq : 1 ≤ ou.f ∧ ou.f ≤ 6 := q4.resolve_left (fun h => h hm)
        have d1 : decide ((1 : Int) ≤ ou.f) = true := by rw [decide_eq_true_eq]; omega
        have d6 : decide (ou.f ≤ (6 : Int)) = true := by rw [decide_eq_true_eq]; omega
        subst hm
        clear hbad q1 q2 q3 q4 hf hq O3 HW
        generalize ou.f = fv at *
        go_wp2_with (go_at_call 9; refine (HAW.out _).mono ?_; rintro e w7 ⟨rfl, hb7⟩; have B7 := Lib.hid (bthen B4.out hb7); clear y0 y1 y2 y3; obtain ⟨y0, y1, y2, y3⟩ := four_cells ((hb7.block _ (lt_of_block Y4.out)).trans Y4.out); clear hb7)
        go_ret
        exact ⟨rfl, B7.out⟩
      · have dm : (mn != 0) = true := by simp [hm]
        clear hbad q1 q2 q3 q4 hm O3 HW
        generalize ou.f = fv at *
        go_wp2_with (go_at_call 9; refine (HAW.out _).mono ?_; rintro e w7 ⟨rfl, hb7⟩; have B7 := Lib.hid (bthen B4.out hb7); clear y0 y1 y2 y3; obtain ⟨y0, y1, y2, y3⟩ := four_cells ((hb7.block _ (lt_of_block Y4.out)).trans Y4.out); clear hb7)
        go_ret
        exact ⟨rfl, B7.out⟩
    · have hm : mn = 0 := Classical.byContradiction fun h => hbad (.inl h)
      have hf : ou.f = 0 := Classical.byContradiction fun h => hbad (.inr h)
      obtain ⟨q1, q2, q3⟩ := HW.out.good hm hf
      have Q3 := Lib.hid q3
      rw [hf] at y3 Y4
      subst hm
      rw [q1] at y0 Y4
      clear hbad hf q3 HW q1
      go_wp2_with fail
      go_loopw [7] (fun x wr => ∃ j : Nat, j ≤ ou.ns ∧ x = .int .i64 j ∧ Below u3.heap.size u3 wr) (fun x _ => ou.ns - (intOf x).toNat)
      case atStart => exact ⟨0, Nat.zero_le _, rfl, Below.refl _ _⟩
      case round =>
        obtain ⟨j, hj, rfl, hl⟩ := hrel
        have HL := Lib.hid hl
        clear y0 y1 y2 y3
        obtain ⟨y0, y1, y2, y3⟩ := four_cells ((hl.block _ (lt_of_block Y4.out)).trans Y4.out)
        have X5 := Lib.hid ((hl.block _ (lt_of_block X4.out)).trans X4.out)
        obtain ⟨n0, n1, n2, n3, n4, n5⟩ := six_cells7 X5.out
        have Y5 := Lib.hid ((hl.block _ (lt_of_block Y4.out)).trans Y4.out)
        by_cases hlt : j < ou.ns
        · obtain ⟨_, _, a9, c9, e9, _, hs⟩ := (O3.out.below hl).sl
          obtain ⟨a1, c1, e1, m1, m2, k1⟩ := hs
          simp only [Value.agg.injEq, Array.mk.injEq, List.cons.injEq, Value.slice.injEq, true_and, and_true] at e9 e1
          obtain ⟨_, rfl, rfl⟩ := e9
          obtain ⟨rfl, rfl⟩ := e1
          obtain ⟨b1, o1, rfl, hA⟩ := k1 (by omega)
          have c0 : wr.cell? ⟨b1, o1 + j * 3, none⟩ = some (.int .i64 (ou.sn j).dst) := hA.2 j hlt 0 (by omega)
          have hd := Q3.out j hlt
          have d0 : decide ((ou.sn j).dst < 0) = false := by rw [decide_eq_false_iff_not]; omega
          have d1 : decide (lps ≤ (ou.sn j).dst) = false := by rw [decide_eq_false_iff_not]; omega
          have hj2 : (j : Int) < (ou.ns : Int) := by omega
          have hj0 : (0 : Int) ≤ (j : Int) := by omega
          have hjt : ((j : Nat) : Int).toNat = j := by omega
          clear hA hl hd O3
          generalize (ou.sn j).dst = dst at *
          go_wp2_with fail
          go_region
          go_wp2_with fail
          go_roundw
          case rel => exact ⟨j + 1, by omega, by go_num, HL.out.drew⟩
          case measure => simp [intOf]; omega
        · obtain rfl : j = ou.ns := by omega
          have d4 : decide ((ou.ns : Int) ≤ 4) = true := by rw [decide_eq_true_eq]; omega
          clear hl O3
          go_wp2_with (go_at_call 9; refine (HAW.out _).mono ?_; rintro e w7 ⟨rfl, hb7⟩; have B7 := Lib.hid (bthen (bthen B4.out HL.out) hb7); clear y0 y1 y2 y3 n0 n1 n2 n3 n4 n5; obtain ⟨y0, y1, y2, y3⟩ := four_cells ((hb7.block _ (lt_of_block Y5.out)).trans Y5.out); obtain ⟨n0, n1, n2, n3, n4, n5⟩ := six_cells7 ((hb7.block _ (lt_of_block X5.out)).trans X5.out); clear hb7)
          go_ret
          exact ⟨rfl, B7.out⟩

end Go.Proofs.Ytehdlpgopcoecaa
