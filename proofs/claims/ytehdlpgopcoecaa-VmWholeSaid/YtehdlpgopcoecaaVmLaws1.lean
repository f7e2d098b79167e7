/- The laws VmRuns and VmSteps, over whatever the program's Run and Steps are known to answer. -/
import Derived.Test.YtehdlpgopcoecaaVmDo
namespace Go.Proofs.Ytehdlpgopcoecaa
open Go.RowKit
set_option linter.unusedVariables false
set_option maxRecDepth 100000

def fewB (pl nw : Nat) : Bool := decide (pl ≤ 100) && decide (nw ≤ 60)
theorem few7_any (ap aw : Option Addr) (pl cp nw cw : Nat) (pay me lps seed dice : Int) (w : World) :
    Calls Try.prog 8 #[.slice ap pl cp, .agg #[.slice aw nw cw, .int .i64 pay, .int .i64 me, .int .i64 lps, .int .i64 seed, .int .i64 dice]] w fun e w' => e = .returned (.bool (fewB pl nw)) ∧ Below w.heap.size w w' := by
  have X1 := heap_alloc_new w (.cells #[.slice aw nw cw, .int .i64 pay, .int .i64 me, .int .i64 lps, .int .i64 seed, .int .i64 dice] 25)
  have B1 := Lib.hid (balloc w (.cells #[.slice aw nw cw, .int .i64 pay, .int .i64 me, .int .i64 lps, .int .i64 seed, .int .i64 dice] 25))
  obtain ⟨n0, n1, n2, n3, n4, n5⟩ := six_cells7 X1
  clear X1
  generalize hu : w.alloc (.cells #[.slice aw nw cw, .int .i64 pay, .int .i64 me, .int .i64 lps, .int .i64 seed, .int .i64 dice] 25) = u at B1 n0 n1 n2 n3 n4 n5
  have E : Hid (fewB pl nw = (decide (pl ≤ 100) && decide (nw ≤ 60))) := rfl
  generalize fewB pl nw = b at *
  go_enter Try.func8, Try.ntmps8
  go_upto_region 1 with fail
  try rw [hu]
  clear hu
  by_cases h1 : pl ≤ 100
  · have d1 : decide ((pl : Int) ≤ 100) = true := by rw [decide_eq_true_eq]; omega
    by_cases h2 : nw ≤ 60
    · have d2 : decide ((nw : Int) ≤ 60) = true := by rw [decide_eq_true_eq]; omega
      have e1 : b = true := by rw [E.out]; simp [h1, h2]
      subst e1
      clear E h1 h2
      go_wp2_with fail
      go_ret
      exact ⟨rfl, B1.out⟩
    · have d2 : decide ((nw : Int) ≤ 60) = false := by rw [decide_eq_false_iff_not]; omega
      have e1 : b = false := by rw [E.out]; simp [h2]
      subst e1
      clear E h1 h2
      go_wp2_with fail
      go_ret
      exact ⟨rfl, B1.out⟩
  · have d1 : decide ((pl : Int) ≤ 100) = false := by rw [decide_eq_false_iff_not]; omega
    have e1 : b = false := by rw [E.out]; simp [h1]
    subst e1
    clear E h1
    go_wp2_with fail
    go_ret
    exact ⟨rfl, B1.out⟩

/-- what comes of a call that hands back an output and an error -/
def Tells (ou : Ou) (mn : Int) (u : World) (e : Ending) (w' : World) : Prop :=
  ∃ aw cw as_ cs, e = .returned (.tuple #[.agg #[.slice aw ou.nw cw, .slice as_ ou.ns cs, .int .i64 ou.dice, .int .i64 ou.f], .int .i64 mn]) ∧ OutAt u.heap.size ou (.agg #[.slice aw ou.nw cw, .slice as_ ou.ns cs, .int .i64 ou.dice, .int .i64 ou.f]) w' ∧ Below u.heap.size u w'
theorem tells_of {ou : Ou} {mn : Int} {u : World} {e : Ending} {w' : World} (h : ∃ v, e = .returned (.tuple #[v, .int .i64 mn]) ∧ OutAt u.heap.size ou v w' ∧ Below u.heap.size u w') : Tells ou mn u e w' := by
  obtain ⟨v, rfl, ho, hb⟩ := h
  obtain ⟨aw, cw, a, c, rfl, h1, h2⟩ := id ho
  exact ⟨aw, cw, a, c, rfl, ho, hb⟩

set_option maxHeartbeats 3200000 in
theorem vmRuns_core (ou : Ou) (mn : Int) (ap aw : Option Addr) (pl cp nw cw : Nat) (pay me lps seed dice : Int) (w : World)
    (HAW : Hid (∀ w, Calls Try.prog 9 #[] w fun e w' => e = .returned (.bool true) ∧ Below w.heap.size w w'))
    (HR : Hid (∀ u, Below w.heap.size w u → Calls Try.prog 10 #[.slice ap pl cp, .agg #[.slice aw nw cw, .int .i64 pay, .int .i64 me, .int .i64 lps, .int .i64 seed, .int .i64 dice]] u (Tells ou mn u)))
    (HD : Hid (∀ u, Below w.heap.size w u → Calls Try.prog 11 #[.slice ap pl cp, .agg #[.slice aw nw cw, .int .i64 pay, .int .i64 me, .int .i64 lps, .int .i64 seed, .int .i64 dice]] u (Tells ou mn u))) :
    Calls Try.prog 3 #[.slice ap pl cp, .agg #[.slice aw nw cw, .int .i64 pay, .int .i64 me, .int .i64 lps, .int .i64 seed, .int .i64 dice]] w fun e w' => e = .returned (.bool true) ∧ Below w.heap.size w w' := by
  have X1 := Lib.hid (heap_alloc_new w (.cells #[.slice aw nw cw, .int .i64 pay, .int .i64 me, .int .i64 lps, .int .i64 seed, .int .i64 dice] 25))
  have B1 := Lib.hid (balloc w (.cells #[.slice aw nw cw, .int .i64 pay, .int .i64 me, .int .i64 lps, .int .i64 seed, .int .i64 dice] 25))
  have HF := Lib.hid (few7_any ap aw pl cp nw cw pay me lps seed dice)
  have hmn : (mn == mn) = true := by simp
  obtain ⟨n0, n1, n2, n3, n4, n5⟩ := six_cells7 X1.out
  generalize hu : w.alloc (.cells #[.slice aw nw cw, .int .i64 pay, .int .i64 me, .int .i64 lps, .int .i64 seed, .int .i64 dice] 25) = u at X1 B1 n0 n1 n2 n3 n4 n5
  generalize fewB pl nw = fb at HF
  cases fb
  · go_enter Try.func3, Try.ntmps3
    go_upto_region 1 with fail
    try rw [hu]
    clear hu
    go_wp2_with (first
      | (go_at_call 8; refine (HF.out _).mono ?_; rintro e w1 ⟨rfl, hb1⟩; have B2 := Lib.hid (bthen B1.out hb1); clear hb1)
      | (go_at_call 9; refine (HAW.out _).mono ?_; rintro e w2 ⟨rfl, hb2⟩; have B3 := Lib.hid (bthen B2.out hb2); clear hb2))
    go_ret
    exact ⟨rfl, B3.out⟩
  · go_enter Try.func3, Try.ntmps3
    go_upto_region 1 with fail
    try rw [hu]
    clear hu
    go_wp2_with (go_at_call 8; refine (HF.out _).mono ?_; rintro e w1 ⟨rfl, hb1⟩; have B2 := Lib.hid (bthen B1.out hb1); have X2 := Lib.hid ((hb1.block _ (lt_of_block X1.out)).trans X1.out); clear hb1 n0 n1 n2 n3 n4 n5; obtain ⟨n0, n1, n2, n3, n4, n5⟩ := six_cells7 X2.out)
    refine (HR.out _ B2.out).mono ?_
    rintro e w3 ⟨aw3, cw3, as3, cs3, rfl, ho3, hb3⟩
    have X3 := Lib.hid ((hb3.block _ (lt_of_block X2.out)).trans X2.out)
    have B3 := Lib.hid (bthen B2.out hb3)
    have O3 := Lib.hid (ho3.below (balloc w3 (.cells #[.slice aw3 ou.nw cw3, .slice as3 ou.ns cs3, .int .i64 ou.dice, .int .i64 ou.f] 30)))
    have X4 := Lib.hid ((Below.heap_alloc w3 (.cells #[.slice aw3 ou.nw cw3, .slice as3 ou.ns cs3, .int .i64 ou.dice, .int .i64 ou.f] 30) _ (lt_of_block X3.out)).trans X3.out)
    have Y4 := Lib.hid (heap_alloc_new w3 (.cells #[.slice aw3 ou.nw cw3, .slice as3 ou.ns cs3, .int .i64 ou.dice, .int .i64 ou.f] 30))
    have B4 := Lib.hid (bthen B3.out (balloc w3 (.cells #[.slice aw3 ou.nw cw3, .slice as3 ou.ns cs3, .int .i64 ou.dice, .int .i64 ou.f] 30)))
    clear hb3 ho3 n0 n1 n2 n3 n4 n5
    go_upto_region 4 with fail
    generalize w3.alloc (.cells #[.slice aw3 ou.nw cw3, .slice as3 ou.ns cs3, .int .i64 ou.dice, .int .i64 ou.f] 30) = u3 at *
    obtain ⟨n0, n1, n2, n3, n4, n5⟩ := six_cells7 X4.out
    go_wp2_with fail
    refine (HD.out _ B4.out).mono ?_
    rintro e w5 ⟨aw5, cw5, as5, cs5, rfl, ho5, hb5⟩
    have Y5 := Lib.hid ((hb5.block _ (lt_of_block Y4.out)).trans Y4.out)
    have Y6 := Lib.hid ((Below.heap_alloc w5 (.cells #[.slice aw5 ou.nw cw5, .slice as5 ou.ns cs5, .int .i64 ou.dice, .int .i64 ou.f] 30) _ (lt_of_block Y5.out)).trans Y5.out)
    have Z6 := Lib.hid (heap_alloc_new w5 (.cells #[.slice aw5 ou.nw cw5, .slice as5 ou.ns cs5, .int .i64 ou.dice, .int .i64 ou.f] 30))
    have B6 := Lib.hid (bthen (bthen B4.out hb5) (balloc w5 (.cells #[.slice aw5 ou.nw cw5, .slice as5 ou.ns cs5, .int .i64 ou.dice, .int .i64 ou.f] 30)))
    have HS : Hid (∀ v, Below (w5.alloc (.cells #[.slice aw5 ou.nw cw5, .slice as5 ou.ns cs5, .int .i64 ou.dice, .int .i64 ou.f] 30)).heap.size (w5.alloc (.cells #[.slice aw5 ou.nw cw5, .slice as5 ou.ns cs5, .int .i64 ou.dice, .int .i64 ou.f] 30)) v → Calls Try.prog 12 #[.agg #[.slice aw3 ou.nw cw3, .slice as3 ou.ns cs3, .int .i64 ou.dice, .int .i64 ou.f], .agg #[.slice aw5 ou.nw cw5, .slice as5 ou.ns cs5, .int .i64 ou.dice, .int .i64 ou.f]] v fun e w' => e = .returned (.bool true) ∧ Below v.heap.size v w') :=
      fun v k => same7_refl ou _ _ v (((O3.out.below hb5).below (balloc w5 _)).below k) ((ho5.below (balloc w5 _)).below k)
    clear hb5 ho5 n0 n1 n2 n3 n4 n5
    go_upto_region 5 with fail
    generalize w5.alloc (.cells #[.slice aw5 ou.nw cw5, .slice as5 ou.ns cs5, .int .i64 ou.dice, .int .i64 ou.f] 30) = u5 at *
    go_wp2_with (first
      | (go_at_call 9; refine (HAW.out _).mono ?_; rintro e w7 ⟨rfl, hb7⟩; have L7 := Lib.hid hb7; have B7 := Lib.hid (bthen B6.out hb7); obtain ⟨y0, y1, y2, y3⟩ := four_cells ((hb7.block _ (lt_of_block Y6.out)).trans Y6.out); obtain ⟨z0, z1, z2, z3⟩ := four_cells ((hb7.block _ (lt_of_block Z6.out)).trans Z6.out); clear hb7)
      | (go_at_call 12; refine (HS.out _ L7.out).mono ?_; rintro e w8 ⟨rfl, hb8⟩; have B8 := Lib.hid (bthen B7.out hb8); clear hb8))
    go_ret
    exact ⟨rfl, B8.out⟩

end Go.Proofs.Ytehdlpgopcoecaa
