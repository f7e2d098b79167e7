/- The law VmSteps, over whatever the program's Steps is known to answer. -/
import Derived.Test.YtehdlpgopcoecaaVmLaws1
namespace Go.Proofs.Ytehdlpgopcoecaa
open Go.RowKit
set_option linter.unusedVariables false
set_option maxRecDepth 100000

theorem runM_n (pr : Nat → I4) (pl : Nat) (lps seed me : Int) (k : Nat) : ∀ r : Mch, r.n + k ≤ 120 → (runM pr pl lps seed me k r).n ≤ 120 := by
  induction k with
  | zero =>
    intro r h
    by_cases c : pl ≤ r.pc
    · rw [runM_end c]; omega
    · rw [runM_fuel (by omega)]; show r.n ≤ 120; omega
  | succ k ih =>
    intro r h
    by_cases c : pl ≤ r.pc
    · rw [runM_end c]; omega
    · by_cases h0 : (pr r.pc).op = 0
      · rw [runM_halt (by omega) h0]; show r.n + 1 ≤ 120; omega
      · by_cases hf : oneF (pr r.pc) lps { r with n := r.n + 1, pc := r.pc + 1 } = 0
        · rw [runM_on (by omega) h0 hf]
          refine ih _ ?_
          rw [oneR_n]
          show r.n + 1 + k ≤ 120
          omega
        · rw [runM_bad (by omega) h0 hf]; show r.n + 1 ≤ 120; omega
theorem whole_n (pr : Nat → I4) (pl : Nat) (i : Inp) : (wholeM pr pl i).n ≤ 120 := runM_n _ _ _ _ _ _ _ (by show 0 + 120 ≤ 120; omega)

set_option maxHeartbeats 3200000 in
theorem vmSteps_core (sn : Nat) (mn : Int) (h120 : sn ≤ 120) (hsn : mn ≠ 0 → sn = 0) (ap aw : Option Addr) (pl cp nw cw : Nat) (pay me lps seed dice : Int) (w : World)
    (HAW : Hid (∀ w, Calls Try.prog 9 #[] w fun e w' => e = .returned (.bool true) ∧ Below w.heap.size w w'))
    (HST : Hid (∀ u, Below w.heap.size w u → Calls Try.prog 13 #[.slice ap pl cp, .agg #[.slice aw nw cw, .int .i64 pay, .int .i64 me, .int .i64 lps, .int .i64 seed, .int .i64 dice]] u fun e w' => e = .returned (.int .i64 (sn : Int)) ∧ Below u.heap.size u w'))
    (HM : Hid (∀ u, Below w.heap.size w u → Calls Try.prog 14 #[.slice ap pl cp, .agg #[.slice aw nw cw, .int .i64 pay, .int .i64 me, .int .i64 lps, .int .i64 seed, .int .i64 dice]] u fun e w' => e = .returned (.int .i64 mn) ∧ Below u.heap.size u w'))
    (HO : Hid (mn = 0 → ∀ u, Below w.heap.size w u → Calls Try.prog 15 #[.slice ap pl cp, .agg #[.slice aw nw cw, .int .i64 pay, .int .i64 me, .int .i64 lps, .int .i64 seed, .int .i64 dice]] u fun e w' => ∃ P, e = .returned (.pointer (some ⟨P, 0, none⟩)) ∧ w'.cell? ⟨P, 5, none⟩ = some (.int .i64 (sn : Int)) ∧ Below u.heap.size u w')) :
    Calls Try.prog 4 #[.slice ap pl cp, .agg #[.slice aw nw cw, .int .i64 pay, .int .i64 me, .int .i64 lps, .int .i64 seed, .int .i64 dice]] w fun e w' => e = .returned (.bool true) ∧ Below w.heap.size w w' := by
  have X1 := Lib.hid (heap_alloc_new w (.cells #[.slice aw nw cw, .int .i64 pay, .int .i64 me, .int .i64 lps, .int .i64 seed, .int .i64 dice] 25))
  have B1 := Lib.hid (balloc w (.cells #[.slice aw nw cw, .int .i64 pay, .int .i64 me, .int .i64 lps, .int .i64 seed, .int .i64 dice] 25))
  have HF := Lib.hid (few7_any ap aw pl cp nw cw pay me lps seed dice)
  have hss : ((sn : Int) == (sn : Int)) = true := by simp
  have hs2 : decide ((sn : Int) ≤ 120) = true := by rw [decide_eq_true_eq]; omega
  clear h120
  obtain ⟨n0, n1, n2, n3, n4, n5⟩ := six_cells7 X1.out
  generalize hu : w.alloc (.cells #[.slice aw nw cw, .int .i64 pay, .int .i64 me, .int .i64 lps, .int .i64 seed, .int .i64 dice] 25) = u at X1 B1 n0 n1 n2 n3 n4 n5
  generalize fewB pl nw = fb at HF
  cases fb
  · go_enter Try.func4, Try.ntmps4
    go_upto_region 1 with fail
    try rw [hu]
    clear hu
    go_wp2_with (first
      | (go_at_call 8; refine (HF.out _).mono ?_; rintro e w1 ⟨rfl, hb1⟩; have B2 := Lib.hid (bthen B1.out hb1); clear hb1)
      | (go_at_call 9; refine (HAW.out _).mono ?_; rintro e w2 ⟨rfl, hb2⟩; have B3 := Lib.hid (bthen B2.out hb2); clear hb2))
    go_ret
    exact ⟨rfl, B3.out⟩
  · go_enter Try.func4, Try.ntmps4
    go_upto_region 1 with fail
    try rw [hu]
    clear hu
    go_wp2_with (go_at_call 8; refine (HF.out _).mono ?_; rintro e w1 ⟨rfl, hb1⟩; have B2 := Lib.hid (bthen B1.out hb1); have X2 := Lib.hid ((hb1.block _ (lt_of_block X1.out)).trans X1.out); clear hb1 n0 n1 n2 n3 n4 n5; obtain ⟨n0, n1, n2, n3, n4, n5⟩ := six_cells7 X2.out)
    refine (HST.out _ B2.out).mono ?_
    rintro e w3 ⟨rfl, hb3⟩
    have X3 := Lib.hid ((hb3.block _ (lt_of_block X2.out)).trans X2.out)
    have B3 := Lib.hid (bthen B2.out hb3)
    clear hb3 n0 n1 n2 n3 n4 n5
    obtain ⟨n0, n1, n2, n3, n4, n5⟩ := six_cells7 X3.out
    by_cases hm : mn = 0
    · have HO2 := Lib.hid (HO.out hm)
      subst hm
      clear HO hsn
      go_wp2_with (first
        | (go_at_call 14; refine (HM.out _ B3.out).mono ?_; rintro e w4 ⟨rfl, hb4⟩; have B4 := Lib.hid (bthen B3.out hb4); have X4 := Lib.hid ((hb4.block _ (lt_of_block X3.out)).trans X3.out); clear hb4 n0 n1 n2 n3 n4 n5)
        | (go_at_call 9; refine (HAW.out _).mono ?_; rintro e w5 ⟨rfl, hb5⟩; have B5 := Lib.hid (bthen B4.out hb5); obtain ⟨n0, n1, n2, n3, n4, n5⟩ := six_cells7 ((hb5.block _ (lt_of_block X4.out)).trans X4.out); clear hb5)
        | (go_at_call 15; refine (HO2.out _ B5.out).mono ?_; rintro e w6 ⟨P, rfl, p5, hb6⟩; have B6 := Lib.hid (bthen B5.out hb6); clear hb6))
      go_ret
      exact ⟨rfl, B6.out⟩
    · have dm : (mn != 0) = true := by simp [hm]
      obtain rfl := hsn hm
      clear HO hm hsn
      go_wp2_with (first
        | (go_at_call 14; refine (HM.out _ B3.out).mono ?_; rintro e w4 ⟨rfl, hb4⟩; have B4 := Lib.hid (bthen B3.out hb4); clear hb4 n0 n1 n2 n3 n4 n5)
        | (go_at_call 9; refine (HAW.out _).mono ?_; rintro e w5 ⟨rfl, hb5⟩; have B5 := Lib.hid (bthen B4.out hb5); clear hb5))
      go_ret
      exact ⟨rfl, B5.out⟩

end Go.Proofs.Ytehdlpgopcoecaa
