/- The contract of the document's May. -/
import Derived.Test.YtehdlpgopcoecaaVmOf
import Derived.Test.YtehdlpgopcoecaaModelRefIns
namespace Go.Proofs.Ytehdlpgopcoecaa
open Go.RowKit
set_option linter.unusedVariables false
set_option maxRecDepth 100000

set_option maxHeartbeats 1600000 in
theorem may7_any (pr : Nat → I4) (pl : Nat) (vp : Value) (i : Inp) (vI : Value) (w : World) (hp : Sl 4 (gI pr) pl vp w) (hw : Sl 1 (gW i.w) i.nw vI w) :
    Calls Try.prog 14 #[vp, .agg #[vI, .int .i64 i.pay, .int .i64 i.me, .int .i64 i.lps, .int .i64 i.seed, .int .i64 i.dice]] w fun e w' => e = .returned (.int .i64 (mayN pr pl i)) ∧ Below w.heap.size w w' := by
  obtain ⟨ap, cp, rfl, hcp, hcp2, hpc⟩ := hp
  obtain ⟨aw, cw, rfl, hcw, hcw2, _⟩ := hw
  have X1 := Lib.hid (heap_alloc_new w (.cells #[.slice aw i.nw cw, .int .i64 i.pay, .int .i64 i.me, .int .i64 i.lps, .int .i64 i.seed, .int .i64 i.dice] 25))
  have B1 := Lib.hid (balloc w (.cells #[.slice aw i.nw cw, .int .i64 i.pay, .int .i64 i.me, .int .i64 i.lps, .int .i64 i.seed, .int .i64 i.dice] 25))
  have HP := Lib.hid hpc
  clear hpc
  have HI : Hid (∀ k, k < pl → ∀ w, Calls Try.prog 20 #[.agg #[.int .i64 (pr k).op, .int .i64 (pr k).a, .int .i64 (pr k).b, .int .i64 (pr k).c], .int .i64 (pl : Int)] w fun e w' => e = .returned (.bool (insB (pr k) pl)) ∧ Below w.heap.size w w') := fun k _ w => refIns_any (pr k) pl w
  have E : Hid (mayN pr pl i = if (1 ≤ pl ∧ pl ≤ 48) ∧ allN (fun k => insB (pr k) pl) pl = true then (if 8 < i.nw then 2 else 0) else 15) := rfl
  generalize mayN pr pl i = res at *
  go_enter Try.func14, Try.ntmps14
  go_upto_region 1 with fail
  generalize w.alloc (.cells #[.slice aw i.nw cw, .int .i64 i.pay, .int .i64 i.me, .int .i64 i.lps, .int .i64 i.seed, .int .i64 i.dice] 25) = u at *
  by_cases h1 : pl < 1
  · have d1 : decide ((pl : Int) < 1) = true := by rw [decide_eq_true_eq]; omega
    have e1 : res = 15 := by rw [E.out, if_neg (by omega)]
    subst e1
    clear E h1
    go_wp2_with fail
    go_ret
    exact ⟨rfl, B1.out⟩
  · have d1 : decide ((pl : Int) < 1) = false := by rw [decide_eq_false_iff_not]; omega
    by_cases h2 : 48 < pl
    · have d2 : decide ((48 : Int) < (pl : Int)) = true := by rw [decide_eq_true_eq]; omega
      have e1 : res = 15 := by rw [E.out, if_neg (by omega)]
      subst e1
      clear E h1 h2
      go_wp2_with fail
      go_ret
      exact ⟨rfl, B1.out⟩
    · have d2 : decide ((48 : Int) < (pl : Int)) = false := by rw [decide_eq_false_iff_not]; omega
      have hle : pl ≤ 48 := by omega
      have E2 : Hid (res = if allN (fun k => insB (pr k) pl) pl = true then (if 8 < i.nw then 2 else 0) else 15) := by
        show _ = _
        rw [E.out]
        by_cases h : allN (fun k => insB (pr k) pl) pl = true
        · rw [if_pos ⟨⟨by omega, hle⟩, h⟩, if_pos h]
        · rw [if_neg fun hh => h hh.2, if_neg h]
      clear E h1 h2
      go_wp2_with fail
      go_loopw [5] (fun x wr => ∃ j : Nat, j ≤ pl ∧ x = .int .i64 j ∧ allN (fun k => insB (pr k) pl) j = true ∧ Below u.heap.size u wr) (fun x _ => pl - (intOf x).toNat)
      case atStart => exact ⟨0, Nat.zero_le _, rfl, rfl, Below.refl _ _⟩
      case round =>
        obtain ⟨j, hj, rfl, hall, hl⟩ := hrel
        have HL := Lib.hid hl
        have HALL := Lib.hid hall
        clear hall
        by_cases hlt : j < pl
        · obtain ⟨b, o, rfl, hat⟩ := HP.out (by omega)
          have hA := hat.below (bthen B1.out hl)
          have c0 : wr.cell? ⟨b, o + j * 4, none⟩ = some (.int .i64 (pr j).op) := hA.2 j hlt 0 (by omega)
          have c1 : wr.cell? ⟨b, o + j * 4 + 1, none⟩ = some (.int .i64 (pr j).a) := hA.2 j hlt 1 (by omega)
          have c2 : wr.cell? ⟨b, o + j * 4 + 2, none⟩ = some (.int .i64 (pr j).b) := hA.2 j hlt 2 (by omega)
          have c3 : wr.cell? ⟨b, o + j * 4 + 3, none⟩ = some (.int .i64 (pr j).c) := hA.2 j hlt 3 (by omega)
          have hj2 : (j : Int) < (pl : Int) := by omega
          have hj0 : (0 : Int) ≤ (j : Int) := by omega
          have hjt : ((j : Nat) : Int).toNat = j := by omega
          have HJ := Lib.hid (HI.out j hlt)
          clear hA hat hl HP
          cases hb : insB (pr j) pl with
          | true =>
            have HB := Lib.hid hb
            rw [hb] at HJ
            clear hb
            go_wp2_with (go_at_call 20; refine (HJ.out _).mono ?_; rintro e w2 ⟨rfl, hb2⟩; have L2 := Lib.hid (bthen HL.out hb2); clear hb2)
            go_roundw
            case rel => exact ⟨j + 1, by omega, by go_num, allN_step HALL.out HB.out, L2.out⟩
            case measure => simp [intOf]; omega
          | false =>
            have e1 : res = 15 := by rw [E2.out, if_neg (by rw [allN_false hlt hb]; decide)]
            subst e1
            rw [hb] at HJ
            clear hb
            go_wp2_with (go_at_call 20; refine (HJ.out _).mono ?_; rintro e w2 ⟨rfl, hb2⟩; have L2 := Lib.hid (bthen HL.out hb2); clear hb2)
            go_ret
            exact ⟨rfl, bthen B1.out L2.out⟩
        · obtain rfl : j = pl := by omega
          have X2 := Lib.hid ((hl.block _ (lt_of_block X1.out)).trans X1.out)
          obtain ⟨n0, n1, n2, n3, n4, n5⟩ := six_cells7 X2.out
          have E3 : Hid (res = if 8 < i.nw then 2 else 0) := by show _ = _; rw [E2.out, if_pos HALL.out]
          clear hl E2
          by_cases h8 : 8 < i.nw
          · have d8 : decide ((8 : Int) < (i.nw : Int)) = true := by rw [decide_eq_true_eq]; omega
            have e1 : res = 2 := by rw [E3.out, if_pos h8]
            subst e1
            clear h8 E3
            go_wp2_with fail
            go_ret
            exact ⟨rfl, bthen B1.out HL.out⟩
          · have d8 : decide ((8 : Int) < (i.nw : Int)) = false := by rw [decide_eq_false_iff_not]; omega
            have e1 : res = 0 := by rw [E3.out, if_neg h8]
            subst e1
            clear h8 E3
            go_wp2_with fail
            go_ret
            exact ⟨rfl, bthen B1.out HL.out⟩

end Go.Proofs.Ytehdlpgopcoecaa
