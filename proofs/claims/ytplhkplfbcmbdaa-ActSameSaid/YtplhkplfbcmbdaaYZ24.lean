/- The contracts of the program's mayRun and begin. What Run and Steps are to answer, told apart from the laws. -/
import Derived.Test.YtplhkplfbcmbdaaYZ23
import Derived.Test.YtplhkplfbcmbdaaYZ3
import Derived.Test.YtplhkplfbcmbdaaYZ6
namespace Go.Proofs.Ytplhkplfbcmbdaa
open Go.RowKit Go.Deep
set_option linter.unusedVariables false
set_option maxRecDepth 100000

def mayB7 (pr : Nat → I4) (pl : Nat) : Bool := decide (1 ≤ pl ∧ pl ≤ 48) && allN (fun k => insB (pr k) pl) pl
set_option maxHeartbeats 1600000 in
theorem mayRun_any (pr : Nat → I4) (pl : Nat) (vp : Value) (w : World) (hp : Sl 4 (gI pr) pl vp w) :
    Calls Try.prog 78 #[vp] w fun e w' => e = .returned (.bool (mayB7 pr pl)) ∧ Below w.heap.size w w' := by
  obtain ⟨ap, cp, rfl, hcp, hcp2, hpc⟩ := hp
  have HP := Lib.hid hpc
  clear hpc
  have HI : Hid (∀ k, k < pl → ∀ w, Calls Try.prog 85 #[.agg #[.int .i64 (pr k).op, .int .i64 (pr k).a, .int .i64 (pr k).b, .int .i64 (pr k).c], .int .i64 (pl : Int)] w fun e w' => e = .returned (.bool (insB (pr k) pl)) ∧ Below w.heap.size w w') := fun k _ w => ins_any (pr k) pl w
  have E : Hid (mayB7 pr pl = (decide (1 ≤ pl ∧ pl ≤ 48) && allN (fun k => insB (pr k) pl) pl)) := rfl
  generalize mayB7 pr pl = res at *
  go_enter Try.func78, Try.ntmps78
  by_cases h1 : pl < 1
  · have d1 : decide ((pl : Int) < 1) = true := by rw [decide_eq_true_eq]; omega
    have e1 : res = false := by rw [E.out, decide_eq_false (by omega)]; rfl
    subst e1
    clear E h1
    go_wp2_with fail
    go_ret
    exact ⟨rfl, Below.refl _ _⟩
  · have d1 : decide ((pl : Int) < 1) = false := by rw [decide_eq_false_iff_not]; omega
    by_cases h2 : 48 < pl
    · have d2 : decide ((48 : Int) < (pl : Int)) = true := by rw [decide_eq_true_eq]; omega
      have e1 : res = false := by rw [E.out, decide_eq_false (by omega)]; rfl
      subst e1
      clear E h1 h2
      go_wp2_with fail
      go_ret
      exact ⟨rfl, Below.refl _ _⟩
    · have d2 : decide ((48 : Int) < (pl : Int)) = false := by rw [decide_eq_false_iff_not]; omega
      have hle : pl ≤ 48 := by omega
      have E2 : Hid (res = allN (fun k => insB (pr k) pl) pl) := by
        show _ = _
        rw [E.out, decide_eq_true (by omega)]; rfl
      clear E h1 h2
      go_wp2_with fail
      go_loopw [15] (fun x wr => ∃ j : Nat, j ≤ pl ∧ x = .int .i64 j ∧ allN (fun k => insB (pr k) pl) j = true ∧ Below w.heap.size w wr) (fun x _ => pl - (intOf x).toNat)
      case atStart => exact ⟨0, Nat.zero_le _, rfl, rfl, Below.refl _ _⟩
      case round =>
        obtain ⟨j, hj, rfl, hall, hl⟩ := hrel
        have HL := Lib.hid hl
        have HALL := Lib.hid hall
        clear hall
        by_cases hlt : j < pl
        · obtain ⟨b, o, rfl, hat⟩ := HP.out (by omega)
          have hA := hat.below hl
          have c0 : wr.cell? ⟨b, o + j * 4, none⟩ = some (.int .i64 (pr j).op) := hA.2 j hlt 0 (by omega)
          have c1 : wr.cell? ⟨b, o + j * 4 + 1, none⟩ = some (.int .i64 (pr j).a) := hA.2 j hlt 1 (by omega)
          have c2 : wr.cell? ⟨b, o + j * 4 + 2, none⟩ = some (.int .i64 (pr j).b) := hA.2 j hlt 2 (by omega)
          have c3 : wr.cell? ⟨b, o + j * 4 + 3, none⟩ = some (.int .i64 (pr j).c) := hA.2 j hlt 3 (by omega)
          have hj2 : (j : Int) < (pl : Int) := by omega
          have hj0 : (0 : Int) ≤ (j : Int) := by omega
          have hjt : ((j : Nat) : Int).toNat = j := by omega
          have HJ := Lib.hid (HI.out j hlt)
          have L1 := Lib.hid (bthen hl (balloc wr (.cells #[.int .i64 (pr j).op, .int .i64 (pr j).a, .int .i64 (pr j).b, .int .i64 (pr j).c] 91)))
          have X1 := heap_alloc_new wr (.cells #[.int .i64 (pr j).op, .int .i64 (pr j).a, .int .i64 (pr j).b, .int .i64 (pr j).c] 91)
          obtain ⟨x0, x1, x2, x3⟩ := four_cells X1
          clear hA hat hl HP X1
          cases hb : insB (pr j) pl with
          | true =>
            have HB := Lib.hid hb
            rw [hb] at HJ
            clear hb
            go_upto_region 6 with fail
            generalize wr.alloc (.cells #[.int .i64 (pr j).op, .int .i64 (pr j).a, .int .i64 (pr j).b, .int .i64 (pr j).c] 91) = u1 at *
            generalize wr.heap.size = xb at *
            go_wp2_with (go_at_call 85; refine (HJ.out _).mono ?_; rintro e w2 ⟨rfl, hb2⟩; have L2 := Lib.hid (bthen L1.out hb2); clear hb2)
            go_roundw
            case rel => exact ⟨j + 1, by omega, by go_num, allN_step HALL.out HB.out, L2.out⟩
            case measure => simp [intOf]; omega
          | false =>
            have e1 : res = false := by rw [E2.out, allN_false hlt hb]
            subst e1
            rw [hb] at HJ
            clear hb
            go_upto_region 6 with fail
            generalize wr.alloc (.cells #[.int .i64 (pr j).op, .int .i64 (pr j).a, .int .i64 (pr j).b, .int .i64 (pr j).c] 91) = u1 at *
            generalize wr.heap.size = xb at *
            go_wp2_with (go_at_call 85; refine (HJ.out _).mono ?_; rintro e w2 ⟨rfl, hb2⟩; have L2 := Lib.hid (bthen L1.out hb2); clear hb2)
            go_ret
            exact ⟨rfl, L2.out⟩
        · obtain rfl : j = pl := by omega
          have e1 : res = true := by rw [E2.out]; exact HALL.out
          subst e1
          clear hl E2
          go_wp2_with fail
          go_ret
          exact ⟨rfl, HL.out⟩

theorem vmC_begin (i : Inp) (vw : Value) (bd : Nat) (vs : Value) : vmC (beginM i).g vw bd i.lps vs ((beginM i).pc : Int) ((beginM i).n : Int) (beginM i).f = #[.int .i64 i.pay, .int .i64 i.me, .int .i64 i.lps, .int .i64 (i.nw : Int), .int .i64 0, .int .i64 0, .int .i64 0, .int .i64 0, vw, .pointer (some ⟨bd, 0, none⟩), .int .i64 i.lps, vs, .int .i64 0, .int .i64 0, .int .i64 0] := rfl
/-- a machine that begins -/
def BeginPost (i : Inp) (w : World) (e : Ending) (w' : World) : Prop :=
  ∃ P bd vw vs, e = .returned (.pointer (some ⟨P, 0, none⟩)) ∧ VmAt w.heap.size P bd (wordN i.seed i.me) i.lps vw vs (beginM i) w' ∧ Below w.heap.size w w'
set_option maxHeartbeats 3200000 in
theorem begin7_any (i : Inp) (vI : Value) (w : World) (hw : Sl 1 (gW i.w) i.nw vI w) (hnw : i.nw ≤ 8) :
    Calls Try.prog 79 #[.agg #[vI, .int .i64 i.pay, .int .i64 i.me, .int .i64 i.lps, .int .i64 i.seed, .int .i64 i.dice]] w (BeginPost i w) := by
  obtain ⟨i0, hi0, hz0, hz1, hz2⟩ := info_parts info_int7
  obtain ⟨aw, cw, rfl, hcw, hcw2, hwc⟩ := hw
  have X1 := Lib.hid (heap_alloc_new w (.cells #[.slice aw i.nw cw, .int .i64 i.pay, .int .i64 i.me, .int .i64 i.lps, .int .i64 i.seed, .int .i64 i.dice] 77))
  have B1 := Lib.hid (balloc w (.cells #[.slice aw i.nw cw, .int .i64 i.pay, .int .i64 i.me, .int .i64 i.lps, .int .i64 i.seed, .int .i64 i.dice] 77))
  have HN := Lib.hid (new_any i.seed i.me i.dice)
  go_enter Try.func79, Try.ntmps79
  go_upto_region 1 with fail
  generalize w.alloc (.cells #[.slice aw i.nw cw, .int .i64 i.pay, .int .i64 i.me, .int .i64 i.lps, .int .i64 i.seed, .int .i64 i.dice] 77) = u at *
  rcases Nat.eq_zero_or_pos i.nw with hz | hnz
  · have HZ := Lib.hid hz
    clear hwc hz
    have ss : (fun w' => w'.cell? ⟨w.heap.size, 0, none⟩ = some (.slice aw i.nw cw) ∧ w'.cell? ⟨w.heap.size, 1, none⟩ = some (.int .i64 i.pay) ∧ w'.cell? ⟨w.heap.size, 2, none⟩ = some (.int .i64 i.me) ∧ w'.cell? ⟨w.heap.size, 3, none⟩ = some (.int .i64 i.lps) ∧ w'.cell? ⟨w.heap.size, 4, none⟩ = some (.int .i64 i.seed) ∧ w'.cell? ⟨w.heap.size, 5, none⟩ = some (.int .i64 i.dice)) u.drew := six_cells7 X1.out
    have X2 : Hid (u.drew.heap[w.heap.size]? = some (.cells #[.slice aw i.nw cw, .int .i64 i.pay, .int .i64 i.me, .int .i64 i.lps, .int .i64 i.seed, .int .i64 i.dice] 77)) := X1.out
    have L2 := Lib.hid B1.out.drew
    refine wp_region_held_drew (S := (fun w' => w'.cell? ⟨w.heap.size, 0, none⟩ = some (.slice aw i.nw cw) ∧ w'.cell? ⟨w.heap.size, 1, none⟩ = some (.int .i64 i.pay) ∧ w'.cell? ⟨w.heap.size, 2, none⟩ = some (.int .i64 i.me) ∧ w'.cell? ⟨w.heap.size, 3, none⟩ = some (.int .i64 i.lps) ∧ w'.cell? ⟨w.heap.size, 4, none⟩ = some (.int .i64 i.seed) ∧ w'.cell? ⟨w.heap.size, 5, none⟩ = some (.int .i64 i.dice))) (by kernel_rfl) ?_ (fun hHeld => ?_)
    · exact ss
    change wpAnyH _ _ _ _ _ _ _ _ (World.drew u)
    clear ss X1 B1
    generalize u.drew = u0 at *
    first
      | refine tk0 0 (oi := ⟨_, _, _, _, _, _⟩) rfl ?_
      | refine tk1 0 (oi := ⟨_, _, _, _, _, _⟩) (v := ?_) rfl ?_ ?_; rotate_left; · (intro w5 hSw; (try dsimp only at hSw); go_simp; (try with_reducible rfl))
    try simp only [Act.put, List.setIfInBounds_toArray, List.set_cons_zero, List.set_cons_succ]
    first
      | refine tk0 1 (oi := ⟨_, _, _, _, _, _⟩) rfl ?_
      | refine tk1 1 (oi := ⟨_, _, _, _, _, _⟩) (v := ?_) rfl ?_ ?_; rotate_left; · (intro w5 hSw; (try dsimp only at hSw); go_simp; (try with_reducible rfl))
    try simp only [Act.put, List.setIfInBounds_toArray, List.set_cons_zero, List.set_cons_succ]
    first
      | refine tk0 2 (oi := ⟨_, _, _, _, _, _⟩) rfl ?_
      | refine tk1 2 (oi := ⟨_, _, _, _, _, _⟩) (v := ?_) rfl ?_ ?_; rotate_left; · (intro w5 hSw; (try dsimp only at hSw); go_simp; (try with_reducible rfl))
    try simp only [Act.put, List.setIfInBounds_toArray, List.set_cons_zero, List.set_cons_succ]
    first
      | refine tk0 3 (oi := ⟨_, _, _, _, _, _⟩) rfl ?_
      | refine tk1 3 (oi := ⟨_, _, _, _, _, _⟩) (v := ?_) rfl ?_ ?_; rotate_left; · (intro w5 hSw; (try dsimp only at hSw); go_simp; (try with_reducible rfl))
    try simp only [Act.put, List.setIfInBounds_toArray, List.set_cons_zero, List.set_cons_succ]
    first
      | refine tk0 4 (oi := ⟨_, _, _, _, _, _⟩) rfl ?_
      | refine tk1 4 (oi := ⟨_, _, _, _, _, _⟩) (v := ?_) rfl ?_ ?_; rotate_left; · (intro w5 hSw; (try dsimp only at hSw); go_simp; (try with_reducible rfl))
    try simp only [Act.put, List.setIfInBounds_toArray, List.set_cons_zero, List.set_cons_succ]
    first
      | refine tk0 5 (oi := ⟨_, _, _, _, _, _⟩) rfl ?_
      | refine tk1 5 (oi := ⟨_, _, _, _, _, _⟩) (v := ?_) rfl ?_ ?_; rotate_left; · (intro w5 hSw; (try dsimp only at hSw); go_simp; (try with_reducible rfl))
    try simp only [Act.put, List.setIfInBounds_toArray, List.set_cons_zero, List.set_cons_succ]
    first
      | refine tk0 6 (oi := ⟨_, _, _, _, _, _⟩) rfl ?_
      | refine tk1 6 (oi := ⟨_, _, _, _, _, _⟩) (v := ?_) rfl ?_ ?_; rotate_left; · (intro w5 hSw; (try dsimp only at hSw); go_simp; (try with_reducible rfl))
    try simp only [Act.put, List.setIfInBounds_toArray, List.set_cons_zero, List.set_cons_succ]
    first
      | refine tk0 7 (oi := ⟨_, _, _, _, _, _⟩) rfl ?_
      | refine tk1 7 (oi := ⟨_, _, _, _, _, _⟩) (v := ?_) rfl ?_ ?_; rotate_left; · (intro w5 hSw; (try dsimp only at hSw); go_simp; (try with_reducible rfl))
    try simp only [Act.put, List.setIfInBounds_toArray, List.set_cons_zero, List.set_cons_succ]
    first
      | refine tk0 8 (oi := ⟨_, _, _, _, _, _⟩) rfl ?_
      | refine tk1 8 (oi := ⟨_, _, _, _, _, _⟩) (v := ?_) rfl ?_ ?_; rotate_left; · (intro w5 hSw; (try dsimp only at hSw); go_simp; (try with_reducible rfl))
    try simp only [Act.put, List.setIfInBounds_toArray, List.set_cons_zero, List.set_cons_succ]
    first
      | refine tk0 9 (oi := ⟨_, _, _, _, _, _⟩) rfl ?_
      | refine tk1 9 (oi := ⟨_, _, _, _, _, _⟩) (v := ?_) rfl ?_ ?_; rotate_left; · (intro w5 hSw; (try dsimp only at hSw); go_simp; (try with_reducible rfl))
    try simp only [Act.put, List.setIfInBounds_toArray, List.set_cons_zero, List.set_cons_succ]
    first
      | refine tk0 10 (oi := ⟨_, _, _, _, _, _⟩) rfl ?_
      | refine tk1 10 (oi := ⟨_, _, _, _, _, _⟩) (v := ?_) rfl ?_ ?_; rotate_left; · (intro w5 hSw; (try dsimp only at hSw); go_simp; (try with_reducible rfl))
    try simp only [Act.put, List.setIfInBounds_toArray, List.set_cons_zero, List.set_cons_succ]
    first
      | refine tk0 11 (oi := ⟨_, _, _, _, _, _⟩) rfl ?_
      | refine tk1 11 (oi := ⟨_, _, _, _, _, _⟩) (v := ?_) rfl ?_ ?_; rotate_left; · (intro w5 hSw; (try dsimp only at hSw); go_simp; (try with_reducible rfl))
    try simp only [Act.put, List.setIfInBounds_toArray, List.set_cons_zero, List.set_cons_succ]
    first
      | refine tk0 13 (oi := ⟨_, _, _, _, _, _⟩) rfl ?_
      | refine tk1 13 (oi := ⟨_, _, _, _, _, _⟩) (v := ?_) rfl ?_ ?_; rotate_left; · (intro w5 hSw; (try dsimp only at hSw); go_simp; (try with_reducible rfl))
    try simp only [Act.put, List.setIfInBounds_toArray, List.set_cons_zero, List.set_cons_succ]
    first
      | refine tk0 14 (oi := ⟨_, _, _, _, _, _⟩) rfl ?_
      | refine tk1 14 (oi := ⟨_, _, _, _, _, _⟩) (v := ?_) rfl ?_ ?_; rotate_left; · (intro w5 hSw; (try dsimp only at hSw); go_simp; (try with_reducible rfl))
    try simp only [Act.put, List.setIfInBounds_toArray, List.set_cons_zero, List.set_cons_succ]
    first
      | refine tk0 15 (oi := ⟨_, _, _, _, _, _⟩) rfl ?_
      | refine tk1 15 (oi := ⟨_, _, _, _, _, _⟩) (v := ?_) rfl ?_ ?_; rotate_left; · (intro w5 hSw; (try dsimp only at hSw); go_simp; (try with_reducible rfl))
    try simp only [Act.put, List.setIfInBounds_toArray, List.set_cons_zero, List.set_cons_succ]
    first
      | refine tk0 16 (oi := ⟨_, _, _, _, _, _⟩) rfl ?_
      | refine tk1 16 (oi := ⟨_, _, _, _, _, _⟩) (v := ?_) rfl ?_ ?_; rotate_left; · (intro w5 hSw; (try dsimp only at hSw); go_simp; (try with_reducible rfl))
    try simp only [Act.put, List.setIfInBounds_toArray, List.set_cons_zero, List.set_cons_succ]
    first
      | refine tk0 17 (oi := ⟨_, _, _, _, _, _⟩) rfl ?_
      | refine tk1 17 (oi := ⟨_, _, _, _, _, _⟩) (v := ?_) rfl ?_ ?_; rotate_left; · (intro w5 hSw; (try dsimp only at hSw); go_simp; (try with_reducible rfl))
    try simp only [Act.put, List.setIfInBounds_toArray, List.set_cons_zero, List.set_cons_succ]
    first
      | refine tk0 18 (oi := ⟨_, _, _, _, _, _⟩) rfl ?_
      | refine tk1 18 (oi := ⟨_, _, _, _, _, _⟩) (v := ?_) rfl ?_ ?_; rotate_left; · (intro w5 hSw; (try dsimp only at hSw); go_simp; (try with_reducible rfl))
    try simp only [Act.put, List.setIfInBounds_toArray, List.set_cons_zero, List.set_cons_succ]
    first
      | refine tk0 20 (oi := ⟨_, _, _, _, _, _⟩) rfl ?_
      | refine tk1 20 (oi := ⟨_, _, _, _, _, _⟩) (v := ?_) rfl ?_ ?_; rotate_left; · (intro w5 hSw; (try dsimp only at hSw); go_simp; (try with_reducible rfl))
    try simp only [Act.put, List.setIfInBounds_toArray, List.set_cons_zero, List.set_cons_succ]
    first
      | refine tk0 21 (oi := ⟨_, _, _, _, _, _⟩) rfl ?_
      | refine tk1 21 (oi := ⟨_, _, _, _, _, _⟩) (v := ?_) rfl ?_ ?_; rotate_left; · (intro w5 hSw; (try dsimp only at hSw); go_simp; (try with_reducible rfl))
    try simp only [Act.put, List.setIfInBounds_toArray, List.set_cons_zero, List.set_cons_succ]
    refine wpAnyH_ready (rs := [12]) (by kernel_rfl) (by simp) ?_
    refine AllReadyH.cons (o := ⟨_, _, _, _, _, _⟩) rfl (fun K hK => ?_) AllReadyH.nil
    have hsrc : Src Try.prog i0.size 35 (.slice aw i.nw cw) 0 [] u0 := by
      rw [HZ.out]
      cases aw with
      | none => exact Src.ofNil u0 Try.underlying35 cw
      | some ad => exact Src.ofSlice u0 Try.underlying35 ad 0 cw [] (by simp) (by simp) (by simp)
    refine step_append_nothing7 rfl (.const (.slice none 0 0)) (.tmp 14) 35 rfl 3 i0 Try.underlying35 hi0 none 0 0 (by simp [Act.eval]) (Nat.le_refl _) (.slice aw i.nw cw) (by simp [Act.eval]) hsrc ?_
    have W3 : Hid (u0.ownsRow w.heap.size 3 1 (.slice none 0 0) i.nw (rowCells 1 (gW i.w) i.nw)) := by
      rw [HZ.out, rowCells_zero]; exact World.ownsRow_nil _ _ _ _
    have X3 := X2
    have L3 := L2
    refine hK.out _ _ ?_ (fun hHeld => ?_)
    · exact six_cells7 X3.out
    clear hK K
    try simp only [Act.put, List.setIfInBounds_toArray, List.set_cons_zero, List.set_cons_succ]
    clear hsrc
    refine wpAnyH_ready (rs := [19]) (by kernel_rfl) (by simp) ?_
    refine AllReadyH.cons (o := ⟨_, _, _, _, _, _⟩) rfl (fun K hK => ?_) AllReadyH.nil
    go_simp
    go_at_call 86
    refine (HN.out _).mono ?_
    rintro e u4 ⟨rfl, hu4⟩
    have D4 := Lib.hid (heap_alloc_new u0 (.cells #[.int .u64 (wordN i.seed i.me), .int .i64 i.dice] 134))
    have W4 := Lib.hid (World.ownsRow.alloc W3.out (.cells #[.int .u64 (wordN i.seed i.me), .int .i64 i.dice] 134))
    have L4 := Lib.hid (L3.out.trans ((balloc u0 (.cells #[.int .u64 (wordN i.seed i.me), .int .i64 i.dice] 134)).mono L3.out.size))
    have X4 := Lib.hid ((Below.heap_alloc u0 (.cells #[.int .u64 (wordN i.seed i.me), .int .i64 i.dice] 134) _ (lt_of_block X3.out)).trans X3.out)
    have N4 : Hid (w.heap.size ≤ u0.heap.size) := L3.out.size
    rw [← hu4] at D4 W4 L4 X4
    generalize u0.heap.size = db at *
    clear hu4
    refine hK.out _ _ ?_ (fun hHeld => ?_)
    · exact six_cells7 X4.out
    clear hK K
    try simp only [Act.put, List.setIfInBounds_toArray, List.set_cons_zero, List.set_cons_succ]
    first
      | refine tk0 22 (oi := ⟨_, _, _, _, _, _⟩) rfl ?_
      | refine tk1 22 (oi := ⟨_, _, _, _, _, _⟩) (v := ?_) rfl ?_ ?_; rotate_left; · (intro w5 hSw; (try dsimp only at hSw); go_simp; (try with_reducible rfl))
    try simp only [Act.put, List.setIfInBounds_toArray, List.set_cons_zero, List.set_cons_succ]
    refine wpAnyH_ready (rs := [23]) (by kernel_rfl) (by simp) ?_
    refine AllReadyH.cons (o := ⟨_, _, _, _, _, _⟩) rfl (fun K hK => ?_) AllReadyH.nil
    go_simp
    have X5 := Lib.hid ((Below.heap_alloc u4 (.cells #[.int .i64 i.pay, .int .i64 i.me, .int .i64 i.lps, .int .i64 (i.nw : Int), .int .i64 0, .int .i64 0, .int .i64 0, .int .i64 0, .slice none 0 0, .pointer (some ⟨db, 0, none⟩), .int .i64 i.lps, .slice none 0 0, .int .i64 0, .int .i64 0, .int .i64 0] 125) _ (lt_of_block X4.out)).trans X4.out)
    have L5 := Lib.hid (L4.out.trans ((balloc u4 (.cells #[.int .i64 i.pay, .int .i64 i.me, .int .i64 i.lps, .int .i64 (i.nw : Int), .int .i64 0, .int .i64 0, .int .i64 0, .int .i64 0, .slice none 0 0, .pointer (some ⟨db, 0, none⟩), .int .i64 i.lps, .slice none 0 0, .int .i64 0, .int .i64 0, .int .i64 0] 125)).mono L4.out.size))
    have R5 : Hid (VmAt w.heap.size u4.heap.size db (wordN i.seed i.me) i.lps (.slice none 0 0) (.slice none 0 0) (beginM i) (u4.alloc (.cells #[.int .i64 i.pay, .int .i64 i.me, .int .i64 i.lps, .int .i64 (i.nw : Int), .int .i64 0, .int .i64 0, .int .i64 0, .int .i64 0, .slice none 0 0, .pointer (some ⟨db, 0, none⟩), .int .i64 i.lps, .slice none 0 0, .int .i64 0, .int .i64 0, .int .i64 0] 125))) :=
      ⟨L4.out.size, N4.out, by rw [vmC_begin]; exact heap_alloc_new u4 (.cells #[.int .i64 i.pay, .int .i64 i.me, .int .i64 i.lps, .int .i64 (i.nw : Int), .int .i64 0, .int .i64 0, .int .i64 0, .int .i64 0, .slice none 0 0, .pointer (some ⟨db, 0, none⟩), .int .i64 i.lps, .slice none 0 0, .int .i64 0, .int .i64 0, .int .i64 0] 125), (Below.heap_alloc u4 (.cells #[.int .i64 i.pay, .int .i64 i.me, .int .i64 i.lps, .int .i64 (i.nw : Int), .int .i64 0, .int .i64 0, .int .i64 0, .int .i64 0, .slice none 0 0, .pointer (some ⟨db, 0, none⟩), .int .i64 i.lps, .slice none 0 0, .int .i64 0, .int .i64 0, .int .i64 0] 125) _ (lt_of_block D4.out)).trans D4.out, World.ownsRow.alloc W4.out (.cells #[.int .i64 i.pay, .int .i64 i.me, .int .i64 i.lps, .int .i64 (i.nw : Int), .int .i64 0, .int .i64 0, .int .i64 0, .int .i64 0, .slice none 0 0, .pointer (some ⟨db, 0, none⟩), .int .i64 i.lps, .slice none 0 0, .int .i64 0, .int .i64 0, .int .i64 0] 125), by rw [show (beginM i).ns = 0 from rfl, rowCells_zero]; exact World.ownsRow_nil _ _ _ _⟩
    refine hK.out _ _ ?_ (fun hHeld => ?_)
    · exact six_cells7 X5.out
    clear hK K
    try simp only [Act.put, List.setIfInBounds_toArray, List.set_cons_zero, List.set_cons_succ]
    first
      | refine tk0 24 (oi := ⟨_, _, _, _, _, _⟩) rfl ?_
      | refine tk1 24 (oi := ⟨_, _, _, _, _, _⟩) (v := ?_) rfl ?_ ?_; rotate_left; · (intro w5 hSw; (try dsimp only at hSw); go_simp; (try with_reducible rfl))
    try simp only [Act.put, List.setIfInBounds_toArray, List.set_cons_zero, List.set_cons_succ]
    refine wpAnyH_done (by kernel_rfl) ?_ _
    go_wp2_with fail
    go_ret
    exact ⟨_, _, _, _, rfl, R5.out, L5.out⟩
  · obtain ⟨bw, ow, rfl, hat⟩ := hwc hnz
    have HWA := Lib.hid hat
    clear hat hwc
    have ss : (fun w' => w'.cell? ⟨w.heap.size, 0, none⟩ = some (.slice (some ⟨bw, ow, none⟩) i.nw cw) ∧ w'.cell? ⟨w.heap.size, 1, none⟩ = some (.int .i64 i.pay) ∧ w'.cell? ⟨w.heap.size, 2, none⟩ = some (.int .i64 i.me) ∧ w'.cell? ⟨w.heap.size, 3, none⟩ = some (.int .i64 i.lps) ∧ w'.cell? ⟨w.heap.size, 4, none⟩ = some (.int .i64 i.seed) ∧ w'.cell? ⟨w.heap.size, 5, none⟩ = some (.int .i64 i.dice)) u.drew := six_cells7 X1.out
    have X2 : Hid (u.drew.heap[w.heap.size]? = some (.cells #[.slice (some ⟨bw, ow, none⟩) i.nw cw, .int .i64 i.pay, .int .i64 i.me, .int .i64 i.lps, .int .i64 i.seed, .int .i64 i.dice] 77)) := X1.out
    have L2 := Lib.hid B1.out.drew
    refine wp_region_held_drew (S := (fun w' => w'.cell? ⟨w.heap.size, 0, none⟩ = some (.slice (some ⟨bw, ow, none⟩) i.nw cw) ∧ w'.cell? ⟨w.heap.size, 1, none⟩ = some (.int .i64 i.pay) ∧ w'.cell? ⟨w.heap.size, 2, none⟩ = some (.int .i64 i.me) ∧ w'.cell? ⟨w.heap.size, 3, none⟩ = some (.int .i64 i.lps) ∧ w'.cell? ⟨w.heap.size, 4, none⟩ = some (.int .i64 i.seed) ∧ w'.cell? ⟨w.heap.size, 5, none⟩ = some (.int .i64 i.dice))) (by kernel_rfl) ?_ (fun hHeld => ?_)
    · exact ss
    change wpAnyH _ _ _ _ _ _ _ _ (World.drew u)
    clear ss X1 B1
    generalize u.drew = u0 at *
    first
      | refine tk0 0 (oi := ⟨_, _, _, _, _, _⟩) rfl ?_
      | refine tk1 0 (oi := ⟨_, _, _, _, _, _⟩) (v := ?_) rfl ?_ ?_; rotate_left; · (intro w5 hSw; (try dsimp only at hSw); go_simp; (try with_reducible rfl))
    try simp only [Act.put, List.setIfInBounds_toArray, List.set_cons_zero, List.set_cons_succ]
    first
      | refine tk0 1 (oi := ⟨_, _, _, _, _, _⟩) rfl ?_
      | refine tk1 1 (oi := ⟨_, _, _, _, _, _⟩) (v := ?_) rfl ?_ ?_; rotate_left; · (intro w5 hSw; (try dsimp only at hSw); go_simp; (try with_reducible rfl))
    try simp only [Act.put, List.setIfInBounds_toArray, List.set_cons_zero, List.set_cons_succ]
    first
      | refine tk0 2 (oi := ⟨_, _, _, _, _, _⟩) rfl ?_
      | refine tk1 2 (oi := ⟨_, _, _, _, _, _⟩) (v := ?_) rfl ?_ ?_; rotate_left; · (intro w5 hSw; (try dsimp only at hSw); go_simp; (try with_reducible rfl))
    try simp only [Act.put, List.setIfInBounds_toArray, List.set_cons_zero, List.set_cons_succ]
    first
      | refine tk0 3 (oi := ⟨_, _, _, _, _, _⟩) rfl ?_
      | refine tk1 3 (oi := ⟨_, _, _, _, _, _⟩) (v := ?_) rfl ?_ ?_; rotate_left; · (intro w5 hSw; (try dsimp only at hSw); go_simp; (try with_reducible rfl))
    try simp only [Act.put, List.setIfInBounds_toArray, List.set_cons_zero, List.set_cons_succ]
    first
      | refine tk0 4 (oi := ⟨_, _, _, _, _, _⟩) rfl ?_
      | refine tk1 4 (oi := ⟨_, _, _, _, _, _⟩) (v := ?_) rfl ?_ ?_; rotate_left; · (intro w5 hSw; (try dsimp only at hSw); go_simp; (try with_reducible rfl))
    try simp only [Act.put, List.setIfInBounds_toArray, List.set_cons_zero, List.set_cons_succ]
    first
      | refine tk0 5 (oi := ⟨_, _, _, _, _, _⟩) rfl ?_
      | refine tk1 5 (oi := ⟨_, _, _, _, _, _⟩) (v := ?_) rfl ?_ ?_; rotate_left; · (intro w5 hSw; (try dsimp only at hSw); go_simp; (try with_reducible rfl))
    try simp only [Act.put, List.setIfInBounds_toArray, List.set_cons_zero, List.set_cons_succ]
    first
      | refine tk0 6 (oi := ⟨_, _, _, _, _, _⟩) rfl ?_
      | refine tk1 6 (oi := ⟨_, _, _, _, _, _⟩) (v := ?_) rfl ?_ ?_; rotate_left; · (intro w5 hSw; (try dsimp only at hSw); go_simp; (try with_reducible rfl))
    try simp only [Act.put, List.setIfInBounds_toArray, List.set_cons_zero, List.set_cons_succ]
    first
      | refine tk0 7 (oi := ⟨_, _, _, _, _, _⟩) rfl ?_
      | refine tk1 7 (oi := ⟨_, _, _, _, _, _⟩) (v := ?_) rfl ?_ ?_; rotate_left; · (intro w5 hSw; (try dsimp only at hSw); go_simp; (try with_reducible rfl))
    try simp only [Act.put, List.setIfInBounds_toArray, List.set_cons_zero, List.set_cons_succ]
    first
      | refine tk0 8 (oi := ⟨_, _, _, _, _, _⟩) rfl ?_
      | refine tk1 8 (oi := ⟨_, _, _, _, _, _⟩) (v := ?_) rfl ?_ ?_; rotate_left; · (intro w5 hSw; (try dsimp only at hSw); go_simp; (try with_reducible rfl))
    try simp only [Act.put, List.setIfInBounds_toArray, List.set_cons_zero, List.set_cons_succ]
    first
      | refine tk0 9 (oi := ⟨_, _, _, _, _, _⟩) rfl ?_
      | refine tk1 9 (oi := ⟨_, _, _, _, _, _⟩) (v := ?_) rfl ?_ ?_; rotate_left; · (intro w5 hSw; (try dsimp only at hSw); go_simp; (try with_reducible rfl))
    try simp only [Act.put, List.setIfInBounds_toArray, List.set_cons_zero, List.set_cons_succ]
    first
      | refine tk0 10 (oi := ⟨_, _, _, _, _, _⟩) rfl ?_
      | refine tk1 10 (oi := ⟨_, _, _, _, _, _⟩) (v := ?_) rfl ?_ ?_; rotate_left; · (intro w5 hSw; (try dsimp only at hSw); go_simp; (try with_reducible rfl))
    try simp only [Act.put, List.setIfInBounds_toArray, List.set_cons_zero, List.set_cons_succ]
    first
      | refine tk0 11 (oi := ⟨_, _, _, _, _, _⟩) rfl ?_
      | refine tk1 11 (oi := ⟨_, _, _, _, _, _⟩) (v := ?_) rfl ?_ ?_; rotate_left; · (intro w5 hSw; (try dsimp only at hSw); go_simp; (try with_reducible rfl))
    try simp only [Act.put, List.setIfInBounds_toArray, List.set_cons_zero, List.set_cons_succ]
    first
      | refine tk0 13 (oi := ⟨_, _, _, _, _, _⟩) rfl ?_
      | refine tk1 13 (oi := ⟨_, _, _, _, _, _⟩) (v := ?_) rfl ?_ ?_; rotate_left; · (intro w5 hSw; (try dsimp only at hSw); go_simp; (try with_reducible rfl))
    try simp only [Act.put, List.setIfInBounds_toArray, List.set_cons_zero, List.set_cons_succ]
    first
      | refine tk0 14 (oi := ⟨_, _, _, _, _, _⟩) rfl ?_
      | refine tk1 14 (oi := ⟨_, _, _, _, _, _⟩) (v := ?_) rfl ?_ ?_; rotate_left; · (intro w5 hSw; (try dsimp only at hSw); go_simp; (try with_reducible rfl))
    try simp only [Act.put, List.setIfInBounds_toArray, List.set_cons_zero, List.set_cons_succ]
    first
      | refine tk0 15 (oi := ⟨_, _, _, _, _, _⟩) rfl ?_
      | refine tk1 15 (oi := ⟨_, _, _, _, _, _⟩) (v := ?_) rfl ?_ ?_; rotate_left; · (intro w5 hSw; (try dsimp only at hSw); go_simp; (try with_reducible rfl))
    try simp only [Act.put, List.setIfInBounds_toArray, List.set_cons_zero, List.set_cons_succ]
    first
      | refine tk0 16 (oi := ⟨_, _, _, _, _, _⟩) rfl ?_
      | refine tk1 16 (oi := ⟨_, _, _, _, _, _⟩) (v := ?_) rfl ?_ ?_; rotate_left; · (intro w5 hSw; (try dsimp only at hSw); go_simp; (try with_reducible rfl))
    try simp only [Act.put, List.setIfInBounds_toArray, List.set_cons_zero, List.set_cons_succ]
    first
      | refine tk0 17 (oi := ⟨_, _, _, _, _, _⟩) rfl ?_
      | refine tk1 17 (oi := ⟨_, _, _, _, _, _⟩) (v := ?_) rfl ?_ ?_; rotate_left; · (intro w5 hSw; (try dsimp only at hSw); go_simp; (try with_reducible rfl))
    try simp only [Act.put, List.setIfInBounds_toArray, List.set_cons_zero, List.set_cons_succ]
    first
      | refine tk0 18 (oi := ⟨_, _, _, _, _, _⟩) rfl ?_
      | refine tk1 18 (oi := ⟨_, _, _, _, _, _⟩) (v := ?_) rfl ?_ ?_; rotate_left; · (intro w5 hSw; (try dsimp only at hSw); go_simp; (try with_reducible rfl))
    try simp only [Act.put, List.setIfInBounds_toArray, List.set_cons_zero, List.set_cons_succ]
    first
      | refine tk0 20 (oi := ⟨_, _, _, _, _, _⟩) rfl ?_
      | refine tk1 20 (oi := ⟨_, _, _, _, _, _⟩) (v := ?_) rfl ?_ ?_; rotate_left; · (intro w5 hSw; (try dsimp only at hSw); go_simp; (try with_reducible rfl))
    try simp only [Act.put, List.setIfInBounds_toArray, List.set_cons_zero, List.set_cons_succ]
    first
      | refine tk0 21 (oi := ⟨_, _, _, _, _, _⟩) rfl ?_
      | refine tk1 21 (oi := ⟨_, _, _, _, _, _⟩) (v := ?_) rfl ?_ ?_; rotate_left; · (intro w5 hSw; (try dsimp only at hSw); go_simp; (try with_reducible rfl))
    try simp only [Act.put, List.setIfInBounds_toArray, List.set_cons_zero, List.set_cons_succ]
    refine wpAnyH_ready (rs := [12]) (by kernel_rfl) (by simp) ?_
    refine AllReadyH.cons (o := ⟨_, _, _, _, _, _⟩) rfl (fun K hK => ?_) AllReadyH.nil
    refine step_append_lies _ rfl (.const (.slice none 0 0)) (.tmp 14) 35 rfl w.heap.size 3 i0 (.int .i64 0) 1 8 Try.underlying35 hi0 hz0 hz1 hz2 rfl (by decide) (.slice none 0 0) 0 [] (by simp [Act.eval]) (World.ownsRow_nil _ _ _ _) ⟨bw, ow, none⟩ i.nw cw (rowCells 1 (gW i.w) i.nw) (by simp [Act.eval]) (rowCells_len _ _ _) (at_news (HWA.out.below L2.out)) (row_one _ _) hnz (by unfold maxLen; omega) (by omega) L2.out.size _ rfl ?_
    intro g1 cap1 u3 hown hgr hor hgl
    rw [Nat.zero_add, List.nil_append] at hown
    rw [show 0 + i.nw = i.nw from Nat.zero_add _]
    have W3 := Lib.hid hown
    have L3 := Lib.hid (L2.out.trans (below_grown (World.ownsRow_nil _ _ _ _ : u0.ownsRow w.heap.size 3 1 (.slice none 0 0) 0 []) L2.out.size hgr))
    have X3 := Lib.hid (grown_keep8 hgr X2.out (by simp [Value.ownBlock]))
    refine hK.out _ _ ?_ (fun hHeld => ?_)
    · exact six_cells7 X3.out
    clear hK K
    try simp only [Act.put, List.setIfInBounds_toArray, List.set_cons_zero, List.set_cons_succ]
    clear hown hgr hor hgl
    refine wpAnyH_ready (rs := [19]) (by kernel_rfl) (by simp) ?_
    refine AllReadyH.cons (o := ⟨_, _, _, _, _, _⟩) rfl (fun K hK => ?_) AllReadyH.nil
    go_simp
    go_at_call 86
    refine (HN.out _).mono ?_
    rintro e u4 ⟨rfl, hu4⟩
    have D4 := Lib.hid (heap_alloc_new u3 (.cells #[.int .u64 (wordN i.seed i.me), .int .i64 i.dice] 134))
    have W4 := Lib.hid (World.ownsRow.alloc W3.out (.cells #[.int .u64 (wordN i.seed i.me), .int .i64 i.dice] 134))
    have L4 := Lib.hid (L3.out.trans ((balloc u3 (.cells #[.int .u64 (wordN i.seed i.me), .int .i64 i.dice] 134)).mono L3.out.size))
    have X4 := Lib.hid ((Below.heap_alloc u3 (.cells #[.int .u64 (wordN i.seed i.me), .int .i64 i.dice] 134) _ (lt_of_block X3.out)).trans X3.out)
    have N4 : Hid (w.heap.size ≤ u3.heap.size) := L3.out.size
    rw [← hu4] at D4 W4 L4 X4
    generalize u3.heap.size = db at *
    clear hu4
    refine hK.out _ _ ?_ (fun hHeld => ?_)
    · exact six_cells7 X4.out
    clear hK K
    try simp only [Act.put, List.setIfInBounds_toArray, List.set_cons_zero, List.set_cons_succ]
    first
      | refine tk0 22 (oi := ⟨_, _, _, _, _, _⟩) rfl ?_
      | refine tk1 22 (oi := ⟨_, _, _, _, _, _⟩) (v := ?_) rfl ?_ ?_; rotate_left; · (intro w5 hSw; (try dsimp only at hSw); go_simp; (try with_reducible rfl))
    try simp only [Act.put, List.setIfInBounds_toArray, List.set_cons_zero, List.set_cons_succ]
    refine wpAnyH_ready (rs := [23]) (by kernel_rfl) (by simp) ?_
    refine AllReadyH.cons (o := ⟨_, _, _, _, _, _⟩) rfl (fun K hK => ?_) AllReadyH.nil
    go_simp
    have X5 := Lib.hid ((Below.heap_alloc u4 (.cells #[.int .i64 i.pay, .int .i64 i.me, .int .i64 i.lps, .int .i64 (i.nw : Int), .int .i64 0, .int .i64 0, .int .i64 0, .int .i64 0, .slice (some ⟨g1, 0, none⟩) i.nw cap1, .pointer (some ⟨db, 0, none⟩), .int .i64 i.lps, .slice none 0 0, .int .i64 0, .int .i64 0, .int .i64 0] 125) _ (lt_of_block X4.out)).trans X4.out)
    have L5 := Lib.hid (L4.out.trans ((balloc u4 (.cells #[.int .i64 i.pay, .int .i64 i.me, .int .i64 i.lps, .int .i64 (i.nw : Int), .int .i64 0, .int .i64 0, .int .i64 0, .int .i64 0, .slice (some ⟨g1, 0, none⟩) i.nw cap1, .pointer (some ⟨db, 0, none⟩), .int .i64 i.lps, .slice none 0 0, .int .i64 0, .int .i64 0, .int .i64 0] 125)).mono L4.out.size))
    have R5 : Hid (VmAt w.heap.size u4.heap.size db (wordN i.seed i.me) i.lps (.slice (some ⟨g1, 0, none⟩) i.nw cap1) (.slice none 0 0) (beginM i) (u4.alloc (.cells #[.int .i64 i.pay, .int .i64 i.me, .int .i64 i.lps, .int .i64 (i.nw : Int), .int .i64 0, .int .i64 0, .int .i64 0, .int .i64 0, .slice (some ⟨g1, 0, none⟩) i.nw cap1, .pointer (some ⟨db, 0, none⟩), .int .i64 i.lps, .slice none 0 0, .int .i64 0, .int .i64 0, .int .i64 0] 125))) :=
      ⟨L4.out.size, N4.out, by rw [vmC_begin]; exact heap_alloc_new u4 (.cells #[.int .i64 i.pay, .int .i64 i.me, .int .i64 i.lps, .int .i64 (i.nw : Int), .int .i64 0, .int .i64 0, .int .i64 0, .int .i64 0, .slice (some ⟨g1, 0, none⟩) i.nw cap1, .pointer (some ⟨db, 0, none⟩), .int .i64 i.lps, .slice none 0 0, .int .i64 0, .int .i64 0, .int .i64 0] 125), (Below.heap_alloc u4 (.cells #[.int .i64 i.pay, .int .i64 i.me, .int .i64 i.lps, .int .i64 (i.nw : Int), .int .i64 0, .int .i64 0, .int .i64 0, .int .i64 0, .slice (some ⟨g1, 0, none⟩) i.nw cap1, .pointer (some ⟨db, 0, none⟩), .int .i64 i.lps, .slice none 0 0, .int .i64 0, .int .i64 0, .int .i64 0] 125) _ (lt_of_block D4.out)).trans D4.out, World.ownsRow.alloc W4.out (.cells #[.int .i64 i.pay, .int .i64 i.me, .int .i64 i.lps, .int .i64 (i.nw : Int), .int .i64 0, .int .i64 0, .int .i64 0, .int .i64 0, .slice (some ⟨g1, 0, none⟩) i.nw cap1, .pointer (some ⟨db, 0, none⟩), .int .i64 i.lps, .slice none 0 0, .int .i64 0, .int .i64 0, .int .i64 0] 125), by rw [show (beginM i).ns = 0 from rfl, rowCells_zero]; exact World.ownsRow_nil _ _ _ _⟩
    refine hK.out _ _ ?_ (fun hHeld => ?_)
    · exact six_cells7 X5.out
    clear hK K
    try simp only [Act.put, List.setIfInBounds_toArray, List.set_cons_zero, List.set_cons_succ]
    first
      | refine tk0 24 (oi := ⟨_, _, _, _, _, _⟩) rfl ?_
      | refine tk1 24 (oi := ⟨_, _, _, _, _, _⟩) (v := ?_) rfl ?_ ?_; rotate_left; · (intro w5 hSw; (try dsimp only at hSw); go_simp; (try with_reducible rfl))
    try simp only [Act.put, List.setIfInBounds_toArray, List.set_cons_zero, List.set_cons_succ]
    refine wpAnyH_done (by kernel_rfl) ?_ _
    go_wp2_with fail
    go_ret
    exact ⟨_, _, _, _, rfl, R5.out, L5.out⟩

end Go.Proofs.Ytplhkplfbcmbdaa
namespace Go.Proofs.Ytplhkplfbcmbdaa
open Go.RowKit
set_option linter.unusedVariables false
set_option maxRecDepth 100000

/-- what comes of a call that hands back an output and an error -/
def Tells (ou : Ou) (mn : Int) (u : World) (e : Ending) (w' : World) : Prop :=
  ∃ aw cw as_ cs, e = .returned (.tuple #[.agg #[.slice aw ou.nw cw, .slice as_ ou.ns cs, .int .i64 ou.dice, .int .i64 ou.f], .int .i64 mn]) ∧ OutAt u.heap.size ou (.agg #[.slice aw ou.nw cw, .slice as_ ou.ns cs, .int .i64 ou.dice, .int .i64 ou.f]) w' ∧ Below u.heap.size u w'
theorem tells_of {ou : Ou} {mn : Int} {u : World} {e : Ending} {w' : World} (h : ∃ v, e = .returned (.tuple #[v, .int .i64 mn]) ∧ OutAt u.heap.size ou v w' ∧ Below u.heap.size u w') : Tells ou mn u e w' := by
  obtain ⟨v, rfl, ho, hb⟩ := h
  obtain ⟨aw, cw, a, c, rfl, h1, h2⟩ := id ho
  exact ⟨aw, cw, a, c, rfl, ho, hb⟩

/-- the program's Run answers as the document's Do does -/
def RunAny : Prop :=
  ∀ (pr : Nat → I4) (pl : Nat) (vp : Value) (i : Inp) (vI : Value) (u : World), Sl 4 (gI pr) pl vp u → Sl 1 (gW i.w) i.nw vI u → Bd (beginM i) → (∀ k, r64v (pr k).b) →
    Calls Try.prog 35 #[vp, .agg #[vI, .int .i64 i.pay, .int .i64 i.me, .int .i64 i.lps, .int .i64 i.seed, .int .i64 i.dice]] u (Tells (doU pr pl i) (mayN pr pl i) u)
theorem sl_block {C n b : Nat} {g : Nat → Nat → Value} {u : World} {cs : Array Value} {T : TypeId} {fr : Nat × Nat} (h : u.heap[b]? = some (.cells cs T fr)) (hn : n ≤ 9223372036854775807) (hc : ∀ i, i < n → ∀ j, j < C → cs[i * C + j]? = some (g i j)) :
    Sl C g n (.slice (some ⟨b, 0, none⟩) n n) u := by
  refine ⟨_, n, rfl, Nat.le_refl _, hn, fun _ => ⟨b, 0, rfl, lt_of_block h, fun i hi j hj => ?_⟩⟩
  rw [Lib.cell_of_heap h, Nat.zero_add]
  exact hc i hi j hj
theorem sl_none (C : Nat) (g : Nat → Nat → Value) (u : World) : Sl C g 0 (.slice none 0 0) u := ⟨none, 0, rfl, Nat.le_refl _, by omega, fun h => absurd h (Nat.lt_irrefl 0)⟩
theorem bd_begin {i : Inp} (h1 : r64v i.pay) (h2 : r64v i.me) (h3 : r64v i.lps) (h4 : i.nw ≤ 9223372036854775807) (h5 : ∀ k, r64v (i.w k)) : Bd (beginM i) := by
  refine ⟨fun k => ?_, h5⟩
  unfold beginM r64v at *
  simp only
  repeat' split
  all_goals omega

end Go.Proofs.Ytplhkplfbcmbdaa
