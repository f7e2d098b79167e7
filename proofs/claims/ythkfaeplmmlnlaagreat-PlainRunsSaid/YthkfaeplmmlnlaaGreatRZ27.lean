/- The contracts of the program's mayRun and begin. The contracts of the program's output, ran, Run, Steps. The contracts of the program's ran, Run. -/
import Derived.Test.YthkfaeplmmlnlaaGreatRZ26
import Derived.Test.YthkfaeplmmlnlaaGreatRZ0
import Derived.Test.YthkfaeplmmlnlaaGreatRZ3
import Derived.Test.YthkfaeplmmlnlaaGreatRZ10
namespace Go.Proofs.YthkfaeplmmlnlaaGreat
open Go.RowKit Go.Deep
set_option linter.unusedVariables false
set_option maxRecDepth 100000

def mayB7 (pr : Nat → I4) (pl : Nat) : Bool := decide (1 ≤ pl ∧ pl ≤ 48) && allN (fun k => insB (pr k) pl) pl
set_option maxHeartbeats 1600000 in
theorem mayRun_any (pr : Nat → I4) (pl : Nat) (vp : Value) (w : World) (hp : Sl 4 (gI pr) pl vp w) :
    Calls Tryz.prog 94 #[vp] w fun e w' => e = .returned (.bool (mayB7 pr pl)) ∧ Below w.heap.size w w' := by
  obtain ⟨ap, cp, rfl, hcp, hcp2, hpc⟩ := hp
  have HP := Lib.hid hpc
  clear hpc
  have HI : Hid (∀ k, k < pl → ∀ w, Calls Tryz.prog 102 #[.agg #[.int .i64 (pr k).op, .int .i64 (pr k).a, .int .i64 (pr k).b, .int .i64 (pr k).c], .int .i64 (pl : Int)] w fun e w' => e = .returned (.bool (insB (pr k) pl)) ∧ Below w.heap.size w w') := fun k _ w => ins_any (pr k) pl w
  have E : Hid (mayB7 pr pl = (decide (1 ≤ pl ∧ pl ≤ 48) && allN (fun k => insB (pr k) pl) pl)) := rfl
  generalize mayB7 pr pl = res at *
  go_enter Tryz.func94, Tryz.ntmps94
  by_cases h1 : pl < 1
  · have d1 : decide ((pl : Int) < 1) = true := by rw [decide_eq_true_eq]; omega
    have e1 : res = false := by rw [E.out, decide_eq_false (by omega)]; rfl
    subst e1
    clear E h1
    go_wp2_with fail
    go_ret
    exact ⟨rfl, Below.refl _ _⟩
  · have d1 : decide ((pl : Int) < 1) = false := by rw [decide_eq_false_iff_not]; omega
    by_cases h2 : 48 < pl
    · have d2 : decide ((48 : Int) < (pl : Int)) = true := by rw [decide_eq_true_eq]; omega
      have e1 : res = false := by rw [E.out, decide_eq_false (by omega)]; rfl
      subst e1
      clear E h1 h2
      go_wp2_with fail
      go_ret
      exact ⟨rfl, Below.refl _ _⟩
    · have d2 : decide ((48 : Int) < (pl : Int)) = false := by rw [decide_eq_false_iff_not]; omega
      have hle : pl ≤ 48 := by omega
      have E2 : Hid (res = allN (fun k => insB (pr k) pl) pl) := by
        show _ = _
        rw [E.out, decide_eq_true (by omega)]; rfl
      clear E h1 h2
      go_wp2_with fail
      go_loopw [15] (fun x wr => ∃ j : Nat, j ≤ pl ∧ x = .int .i64 j ∧ allN (fun k => insB (pr k) pl) j = true ∧ Below w.heap.size w wr) (fun x _ => pl - (intOf x).toNat)
      case atStart => exact ⟨0, Nat.zero_le _, rfl, rfl, Below.refl _ _⟩
      case round =>
        obtain ⟨j, hj, rfl, hall, hl⟩ := hrel
        have HL := Lib.hid hl
        have HALL := Lib.hid hall
        clear hall
        by_cases hlt : j < pl
        · obtain ⟨b, o, rfl, hat⟩ := HP.out (by omega)
          have hA := hat.below hl
          have c0 : wr.cell? ⟨b, o + j * 4, none⟩ = some (.int .i64 (pr j).op) := hA.2 j hlt 0 (by omega)
          have c1 : wr.cell? ⟨b, o + j * 4 + 1, none⟩ = some (.int .i64 (pr j).a) := hA.2 j hlt 1 (by omega)
          have c2 : wr.cell? ⟨b, o + j * 4 + 2, none⟩ = some (.int .i64 (pr j).b) := hA.2 j hlt 2 (by omega)
          have c3 : wr.cell? ⟨b, o + j * 4 + 3, none⟩ = some (.int .i64 (pr j).c) := hA.2 j hlt 3 (by omega)
          have hj2 : (j : Int) < (pl : Int) := by omega
          have hj0 : (0 : Int) ≤ (j : Int) := by omega
          have hjt : ((j : Nat) : Int).toNat = j := by omega
          have HJ := Lib.hid (HI.out j hlt)
          have L1 := Lib.hid (bthen hl (balloc wr (.cells #[.int .i64 (pr j).op, .int .i64 (pr j).a, .int .i64 (pr j).b, .int .i64 (pr j).c] 99)))
          have X1 := heap_alloc_new wr (.cells #[.int .i64 (pr j).op, .int .i64 (pr j).a, .int .i64 (pr j).b, .int .i64 (pr j).c] 99)
          obtain ⟨x0, x1, x2, x3⟩ := four_cells X1
          clear hA hat hl HP X1
          cases hb : insB (pr j) pl with
          | true =>
            have HB := Lib.hid hb
            rw [hb] at HJ
            clear hb
            go_upto_region 6 with fail
            generalize wr.alloc (.cells #[.int .i64 (pr j).op, .int .i64 (pr j).a, .int .i64 (pr j).b, .int .i64 (pr j).c] 99) = u1 at *
            generalize wr.heap.size = xb at *
            go_wp2_with (go_at_call 102; refine (HJ.out _).mono ?_; rintro e w2 ⟨rfl, hb2⟩; have L2 := Lib.hid (bthen L1.out hb2); clear hb2)
            go_roundw
            case rel => exact ⟨j + 1, by omega, by go_num, allN_step HALL.out HB.out, L2.out⟩
            case measure => simp [intOf]; omega
          | false =>
            have e1 : res = false := by rw [E2.out, allN_false hlt hb]
            subst e1
            rw [hb] at HJ
            clear hb
            go_upto_region 6 with fail
            generalize wr.alloc (.cells #[.int .i64 (pr j).op, .int .i64 (pr j).a, .int .i64 (pr j).b, .int .i64 (pr j).c] 99) = u1 at *
            generalize wr.heap.size = xb at *
            go_wp2_with (go_at_call 102; refine (HJ.out _).mono ?_; rintro e w2 ⟨rfl, hb2⟩; have L2 := Lib.hid (bthen L1.out hb2); clear hb2)
            go_ret
            exact ⟨rfl, L2.out⟩
        · obtain rfl : j = pl := by omega
          have e1 : res = true := by rw [E2.out]; exact HALL.out
          subst e1
          clear hl E2
          go_wp2_with fail
          go_ret
          exact ⟨rfl, HL.out⟩

theorem vmC_begin (i : Inp) (vw : Value) (bd : Nat) (vs : Value) : vmC (beginM i).g vw bd i.lps vs ((beginM i).pc : Int) ((beginM i).n : Int) (beginM i).f = #[.int .i64 i.pay, .int .i64 i.me, .int .i64 i.lps, .int .i64 (i.nw : Int), .int .i64 0, .int .i64 0, .int .i64 0, .int .i64 0, vw, .pointer (some ⟨bd, 0, none⟩), .int .i64 i.lps, vs, .int .i64 0, .int .i64 0, .int .i64 0] := rfl
/-- a machine that begins -/
def BeginPost (i : Inp) (w : World) (e : Ending) (w' : World) : Prop :=
  ∃ P bd vw vs, e = .returned (.pointer (some ⟨P, 0, none⟩)) ∧ VmAt w.heap.size P bd (wordN i.seed i.me) i.lps vw vs (beginM i) w' ∧ Below w.heap.size w w'
set_option maxHeartbeats 3200000 in
theorem begin7_any (i : Inp) (vI : Value) (w : World) (hw : Sl 1 (gW i.w) i.nw vI w) (hnw : i.nw ≤ 8) :
    Calls Tryz.prog 95 #[.agg #[vI, .int .i64 i.pay, .int .i64 i.me, .int .i64 i.lps, .int .i64 i.seed, .int .i64 i.dice]] w (BeginPost i w) := by
  obtain ⟨i0, hi0, hz0, hz1, hz2⟩ := info_parts info_int7
  obtain ⟨aw, cw, rfl, hcw, hcw2, hwc⟩ := hw
  have X1 := Lib.hid (heap_alloc_new w (.cells #[.slice aw i.nw cw, .int .i64 i.pay, .int .i64 i.me, .int .i64 i.lps, .int .i64 i.seed, .int .i64 i.dice] 87))
  have B1 := Lib.hid (balloc w (.cells #[.slice aw i.nw cw, .int .i64 i.pay, .int .i64 i.me, .int .i64 i.lps, .int .i64 i.seed, .int .i64 i.dice] 87))
  have HN := Lib.hid (new_any i.seed i.me i.dice)
  go_enter Tryz.func95, Tryz.ntmps95
  go_upto_region 1 with fail
  generalize w.alloc (.cells #[.slice aw i.nw cw, .int .i64 i.pay, .int .i64 i.me, .int .i64 i.lps, .int .i64 i.seed, .int .i64 i.dice] 87) = u at *
  rcases Nat.eq_zero_or_pos i.nw with hz | hnz
  · have HZ := Lib.hid hz
    clear hwc hz
    have ss : (fun w' => w'.cell? ⟨w.heap.size, 0, none⟩ = some (.slice aw i.nw cw) ∧ w'.cell? ⟨w.heap.size, 1, none⟩ = some (.int .i64 i.pay) ∧ w'.cell? ⟨w.heap.size, 2, none⟩ = some (.int .i64 i.me) ∧ w'.cell? ⟨w.heap.size, 3, none⟩ = some (.int .i64 i.lps) ∧ w'.cell? ⟨w.heap.size, 4, none⟩ = some (.int .i64 i.seed) ∧ w'.cell? ⟨w.heap.size, 5, none⟩ = some (.int .i64 i.dice)) u.drew := six_cells7 X1.out
    have X2 : Hid (u.drew.heap[w.heap.size]? = some (.cells #[.slice aw i.nw cw, .int .i64 i.pay, .int .i64 i.me, .int .i64 i.lps, .int .i64 i.seed, .int .i64 i.dice] 87)) := X1.out
    have L2 := Lib.hid B1.out.drew
    refine wp_region_held_drew (S := (fun w' => w'.cell? ⟨w.heap.size, 0, none⟩ = some (.slice aw i.nw cw) ∧ w'.cell? ⟨w.heap.size, 1, none⟩ = some (.int .i64 i.pay) ∧ w'.cell? ⟨w.heap.size, 2, none⟩ = some (.int .i64 i.me) ∧ w'.cell? ⟨w.heap.size, 3, none⟩ = some (.int .i64 i.lps) ∧ w'.cell? ⟨w.heap.size, 4, none⟩ = some (.int .i64 i.seed) ∧ w'.cell? ⟨w.heap.size, 5, none⟩ = some (.int .i64 i.dice))) (by kernel_rfl) ?_ (fun hHeld => ?_)
    · exact ss
    change wpAnyH _ _ _ _ _ _ _ _ (World.drew u)
    clear ss X1 B1
    generalize u.drew = u0 at *
    first | refine tq0 0 rfl ?_ | refine tq1 0 rfl ?_
    try go_frame
    first | refine tq0 1 rfl ?_ | refine tq1 1 rfl ?_
    try go_frame
    first | refine tq0 2 rfl ?_ | refine tq1 2 rfl ?_
    try go_frame
    first | refine tq0 3 rfl ?_ | refine tq1 3 rfl ?_
    try go_frame
    first | refine tq0 4 rfl ?_ | refine tq1 4 rfl ?_
    try go_frame
    first | refine tq0 5 rfl ?_ | refine tq1 5 rfl ?_
    try go_frame
    first | refine tq0 6 rfl ?_ | refine tq1 6 rfl ?_
    try go_frame
    first | refine tq0 7 rfl ?_ | refine tq1 7 rfl ?_
    try go_frame
    first | refine tq0 8 rfl ?_ | refine tq1 8 rfl ?_
    try go_frame
    first | refine tq0 9 rfl ?_ | refine tq1 9 rfl ?_
    try go_frame
    first | refine tq0 10 rfl ?_ | refine tq1 10 rfl ?_
    try go_frame
    first | refine tq0 11 rfl ?_ | refine tq1 11 rfl ?_
    try go_frame
    first | refine tq0 13 rfl ?_ | refine tq1 13 rfl ?_
    try go_frame
    first | refine tq0 14 rfl ?_ | refine tq1 14 rfl ?_
    try go_frame
    first | refine tq0 15 rfl ?_ | refine tq1 15 rfl ?_
    try go_frame
    first | refine tq0 16 rfl ?_ | refine tq1 16 rfl ?_
    try go_frame
    first | refine tq0 17 rfl ?_ | refine tq1 17 rfl ?_
    try go_frame
    first | refine tq0 18 rfl ?_ | refine tq1 18 rfl ?_
    try go_frame
    first | refine tq0 20 rfl ?_ | refine tq1 20 rfl ?_
    try go_frame
    first | refine tq0 21 rfl ?_ | refine tq1 21 rfl ?_
    try go_frame
    refine wpAnyH_ready (rs := [12]) (by kernel_rfl) (by simp) ?_
    refine AllReadyH.cons (o := ⟨_, _, _, _, _, _⟩) rfl (fun K hK => ?_) AllReadyH.nil
    have hsrc : Src Tryz.prog i0.size 53 (.slice aw i.nw cw) 0 [] u0 := by
      rw [HZ.out]
      cases aw with
      | none => exact Src.ofNil u0 Tryz.underlying53 cw
      | some ad => exact Src.ofSlice u0 Tryz.underlying53 ad 0 cw [] (by simp) (by simp) (by simp)
    refine step_append_nothing7 rfl (.const (.slice none 0 0)) (.tmp 14) 53 rfl 3 i0 Tryz.underlying53 hi0 none 0 0 (by simp [Act.eval]) (Nat.le_refl _) (.slice aw i.nw cw) (by simp [Act.eval]) hsrc ?_
    have W3 : Hid (u0.ownsRow w.heap.size 3 1 (.slice none 0 0) i.nw (rowCells 1 (gW i.w) i.nw)) := by
      rw [HZ.out, rowCells_zero]; exact World.ownsRow_nil _ _ _ _
    have X3 := X2
    have L3 := L2
    refine hK.out _ _ ?_ (fun hHeld => ?_)
    · exact six_cells7 X3.out
    clear hK K
    try go_frame
    clear hsrc
    refine wpAnyH_ready (rs := [19]) (by kernel_rfl) (by simp) ?_
    refine AllReadyH.cons (o := ⟨_, _, _, _, _, _⟩) rfl (fun K hK => ?_) AllReadyH.nil
    go_simp
    go_at_call 103
    refine (HN.out _).mono ?_
    rintro e u4 ⟨rfl, hu4⟩
    have D4 := Lib.hid (heap_alloc_new u0 (.cells #[.int .u64 (wordN i.seed i.me), .int .i64 i.dice] 164))
    have W4 := Lib.hid (World.ownsRow.alloc W3.out (.cells #[.int .u64 (wordN i.seed i.me), .int .i64 i.dice] 164))
    have L4 := Lib.hid (L3.out.trans ((balloc u0 (.cells #[.int .u64 (wordN i.seed i.me), .int .i64 i.dice] 164)).mono L3.out.size))
    have X4 := Lib.hid ((Below.heap_alloc u0 (.cells #[.int .u64 (wordN i.seed i.me), .int .i64 i.dice] 164) _ (lt_of_block X3.out)).trans X3.out)
    have N4 : Hid (w.heap.size ≤ u0.heap.size) := L3.out.size
    rw [← hu4] at D4 W4 L4 X4
    generalize u0.heap.size = db at *
    clear hu4
    refine hK.out _ _ ?_ (fun hHeld => ?_)
    · exact six_cells7 X4.out
    clear hK K
    try go_frame
    first | refine tq0 22 rfl ?_ | refine tq1 22 rfl ?_
    try go_frame
    refine wpAnyH_ready (rs := [23]) (by kernel_rfl) (by simp) ?_
    refine AllReadyH.cons (o := ⟨_, _, _, _, _, _⟩) rfl (fun K hK => ?_) AllReadyH.nil
    go_simp
    have X5 := Lib.hid ((Below.heap_alloc u4 (.cells #[.int .i64 i.pay, .int .i64 i.me, .int .i64 i.lps, .int .i64 (i.nw : Int), .int .i64 0, .int .i64 0, .int .i64 0, .int .i64 0, .slice none 0 0, .pointer (some ⟨db, 0, none⟩), .int .i64 i.lps, .slice none 0 0, .int .i64 0, .int .i64 0, .int .i64 0] 155) _ (lt_of_block X4.out)).trans X4.out)
    have L5 := Lib.hid (L4.out.trans ((balloc u4 (.cells #[.int .i64 i.pay, .int .i64 i.me, .int .i64 i.lps, .int .i64 (i.nw : Int), .int .i64 0, .int .i64 0, .int .i64 0, .int .i64 0, .slice none 0 0, .pointer (some ⟨db, 0, none⟩), .int .i64 i.lps, .slice none 0 0, .int .i64 0, .int .i64 0, .int .i64 0] 155)).mono L4.out.size))
    have R5 : Hid (VmAt w.heap.size u4.heap.size db (wordN i.seed i.me) i.lps (.slice none 0 0) (.slice none 0 0) (beginM i) (u4.alloc (.cells #[.int .i64 i.pay, .int .i64 i.me, .int .i64 i.lps, .int .i64 (i.nw : Int), .int .i64 0, .int .i64 0, .int .i64 0, .int .i64 0, .slice none 0 0, .pointer (some ⟨db, 0, none⟩), .int .i64 i.lps, .slice none 0 0, .int .i64 0, .int .i64 0, .int .i64 0] 155))) :=
      ⟨L4.out.size, N4.out, by rw [vmC_begin]; exact heap_alloc_new u4 (.cells #[.int .i64 i.pay, .int .i64 i.me, .int .i64 i.lps, .int .i64 (i.nw : Int), .int .i64 0, .int .i64 0, .int .i64 0, .int .i64 0, .slice none 0 0, .pointer (some ⟨db, 0, none⟩), .int .i64 i.lps, .slice none 0 0, .int .i64 0, .int .i64 0, .int .i64 0] 155), (Below.heap_alloc u4 (.cells #[.int .i64 i.pay, .int .i64 i.me, .int .i64 i.lps, .int .i64 (i.nw : Int), .int .i64 0, .int .i64 0, .int .i64 0, .int .i64 0, .slice none 0 0, .pointer (some ⟨db, 0, none⟩), .int .i64 i.lps, .slice none 0 0, .int .i64 0, .int .i64 0, .int .i64 0] 155) _ (lt_of_block D4.out)).trans D4.out, World.ownsRow.alloc W4.out (.cells #[.int .i64 i.pay, .int .i64 i.me, .int .i64 i.lps, .int .i64 (i.nw : Int), .int .i64 0, .int .i64 0, .int .i64 0, .int .i64 0, .slice none 0 0, .pointer (some ⟨db, 0, none⟩), .int .i64 i.lps, .slice none 0 0, .int .i64 0, .int .i64 0, .int .i64 0] 155), by rw [show (beginM i).ns = 0 from rfl, rowCells_zero]; exact World.ownsRow_nil _ _ _ _⟩
    refine hK.out _ _ ?_ (fun hHeld => ?_)
    · exact six_cells7 X5.out
    clear hK K
    try go_frame
    first | refine tq0 24 rfl ?_ | refine tq1 24 rfl ?_
    try go_frame
    refine wpAnyH_done (by kernel_rfl) ?_ _
    go_wp2_with fail
    go_ret
    exact ⟨_, _, _, _, rfl, R5.out, L5.out⟩
  · obtain ⟨bw, ow, rfl, hat⟩ := hwc hnz
    have HWA := Lib.hid hat
    clear hat hwc
    have ss : (fun w' => w'.cell? ⟨w.heap.size, 0, none⟩ = some (.slice (some ⟨bw, ow, none⟩) i.nw cw) ∧ w'.cell? ⟨w.heap.size, 1, none⟩ = some (.int .i64 i.pay) ∧ w'.cell? ⟨w.heap.size, 2, none⟩ = some (.int .i64 i.me) ∧ w'.cell? ⟨w.heap.size, 3, none⟩ = some (.int .i64 i.lps) ∧ w'.cell? ⟨w.heap.size, 4, none⟩ = some (.int .i64 i.seed) ∧ w'.cell? ⟨w.heap.size, 5, none⟩ = some (.int .i64 i.dice)) u.drew := six_cells7 X1.out
    have X2 : Hid (u.drew.heap[w.heap.size]? = some (.cells #[.slice (some ⟨bw, ow, none⟩) i.nw cw, .int .i64 i.pay, .int .i64 i.me, .int .i64 i.lps, .int .i64 i.seed, .int .i64 i.dice] 87)) := X1.out
    have L2 := Lib.hid B1.out.drew
    refine wp_region_held_drew (S := (fun w' => w'.cell? ⟨w.heap.size, 0, none⟩ = some (.slice (some ⟨bw, ow, none⟩) i.nw cw) ∧ w'.cell? ⟨w.heap.size, 1, none⟩ = some (.int .i64 i.pay) ∧ w'.cell? ⟨w.heap.size, 2, none⟩ = some (.int .i64 i.me) ∧ w'.cell? ⟨w.heap.size, 3, none⟩ = some (.int .i64 i.lps) ∧ w'.cell? ⟨w.heap.size, 4, none⟩ = some (.int .i64 i.seed) ∧ w'.cell? ⟨w.heap.size, 5, none⟩ = some (.int .i64 i.dice))) (by kernel_rfl) ?_ (fun hHeld => ?_)
    · exact ss
    change wpAnyH _ _ _ _ _ _ _ _ (World.drew u)
    clear ss X1 B1
    generalize u.drew = u0 at *
    first | refine tq0 0 rfl ?_ | refine tq1 0 rfl ?_
    try go_frame
    first | refine tq0 1 rfl ?_ | refine tq1 1 rfl ?_
    try go_frame
    first | refine tq0 2 rfl ?_ | refine tq1 2 rfl ?_
    try go_frame
    first | refine tq0 3 rfl ?_ | refine tq1 3 rfl ?_
    try go_frame
    first | refine tq0 4 rfl ?_ | refine tq1 4 rfl ?_
    try go_frame
    first | refine tq0 5 rfl ?_ | refine tq1 5 rfl ?_
    try go_frame
    first | refine tq0 6 rfl ?_ | refine tq1 6 rfl ?_
    try go_frame
    first | refine tq0 7 rfl ?_ | refine tq1 7 rfl ?_
    try go_frame
    first | refine tq0 8 rfl ?_ | refine tq1 8 rfl ?_
    try go_frame
    first | refine tq0 9 rfl ?_ | refine tq1 9 rfl ?_
    try go_frame
    first | refine tq0 10 rfl ?_ | refine tq1 10 rfl ?_
    try go_frame
    first | refine tq0 11 rfl ?_ | refine tq1 11 rfl ?_
    try go_frame
    first | refine tq0 13 rfl ?_ | refine tq1 13 rfl ?_
    try go_frame
    first | refine tq0 14 rfl ?_ | refine tq1 14 rfl ?_
    try go_frame
    first | refine tq0 15 rfl ?_ | refine tq1 15 rfl ?_
    try go_frame
    first | refine tq0 16 rfl ?_ | refine tq1 16 rfl ?_
    try go_frame
    first | refine tq0 17 rfl ?_ | refine tq1 17 rfl ?_
    try go_frame
    first | refine tq0 18 rfl ?_ | refine tq1 18 rfl ?_
    try go_frame
    first | refine tq0 20 rfl ?_ | refine tq1 20 rfl ?_
    try go_frame
    first | refine tq0 21 rfl ?_ | refine tq1 21 rfl ?_
    try go_frame
    refine wpAnyH_ready (rs := [12]) (by kernel_rfl) (by simp) ?_
    refine AllReadyH.cons (o := ⟨_, _, _, _, _, _⟩) rfl (fun K hK => ?_) AllReadyH.nil
    refine step_append_lies _ rfl (.const (.slice none 0 0)) (.tmp 14) 53 rfl w.heap.size 3 i0 (.int .i64 0) 1 8 Tryz.underlying53 hi0 hz0 hz1 hz2 rfl (by decide) (.slice none 0 0) 0 [] (by simp [Act.eval]) (World.ownsRow_nil _ _ _ _) ⟨bw, ow, none⟩ i.nw cw (rowCells 1 (gW i.w) i.nw) (by simp [Act.eval]) (rowCells_len _ _ _) (at_news (HWA.out.below L2.out)) (row_one _ _) hnz (by unfold maxLen; omega) (by omega) L2.out.size _ rfl ?_
    intro g1 cap1 u3 hown hgr hor hgl
    rw [Nat.zero_add, List.nil_append] at hown
    rw [show 0 + i.nw = i.nw from Nat.zero_add _]
    have W3 := Lib.hid hown
    have L3 := Lib.hid (L2.out.trans (below_grown (World.ownsRow_nil _ _ _ _ : u0.ownsRow w.heap.size 3 1 (.slice none 0 0) 0 []) L2.out.size hgr))
    have X3 := Lib.hid (grown_keep8 hgr X2.out (by simp [Value.ownBlock]))
    refine hK.out _ _ ?_ (fun hHeld => ?_)
    · exact six_cells7 X3.out
    clear hK K
    try go_frame
    clear hown hgr hor hgl
    refine wpAnyH_ready (rs := [19]) (by kernel_rfl) (by simp) ?_
    refine AllReadyH.cons (o := ⟨_, _, _, _, _, _⟩) rfl (fun K hK => ?_) AllReadyH.nil
    go_simp
    go_at_call 103
    refine (HN.out _).mono ?_
    rintro e u4 ⟨rfl, hu4⟩
    have D4 := Lib.hid (heap_alloc_new u3 (.cells #[.int .u64 (wordN i.seed i.me), .int .i64 i.dice] 164))
    have W4 := Lib.hid (World.ownsRow.alloc W3.out (.cells #[.int .u64 (wordN i.seed i.me), .int .i64 i.dice] 164))
    have L4 := Lib.hid (L3.out.trans ((balloc u3 (.cells #[.int .u64 (wordN i.seed i.me), .int .i64 i.dice] 164)).mono L3.out.size))
    have X4 := Lib.hid ((Below.heap_alloc u3 (.cells #[.int .u64 (wordN i.seed i.me), .int .i64 i.dice] 164) _ (lt_of_block X3.out)).trans X3.out)
    have N4 : Hid (w.heap.size ≤ u3.heap.size) := L3.out.size
    rw [← hu4] at D4 W4 L4 X4
    generalize u3.heap.size = db at *
    clear hu4
    refine hK.out _ _ ?_ (fun hHeld => ?_)
    · exact six_cells7 X4.out
    clear hK K
    try go_frame
    first | refine tq0 22 rfl ?_ | refine tq1 22 rfl ?_
    try go_frame
    refine wpAnyH_ready (rs := [23]) (by kernel_rfl) (by simp) ?_
    refine AllReadyH.cons (o := ⟨_, _, _, _, _, _⟩) rfl (fun K hK => ?_) AllReadyH.nil
    go_simp
    have X5 := Lib.hid ((Below.heap_alloc u4 (.cells #[.int .i64 i.pay, .int .i64 i.me, .int .i64 i.lps, .int .i64 (i.nw : Int), .int .i64 0, .int .i64 0, .int .i64 0, .int .i64 0, .slice (some ⟨g1, 0, none⟩) i.nw cap1, .pointer (some ⟨db, 0, none⟩), .int .i64 i.lps, .slice none 0 0, .int .i64 0, .int .i64 0, .int .i64 0] 155) _ (lt_of_block X4.out)).trans X4.out)
    have L5 := Lib.hid (L4.out.trans ((balloc u4 (.cells #[.int .i64 i.pay, .int .i64 i.me, .int .i64 i.lps, .int .i64 (i.nw : Int), .int .i64 0, .int .i64 0, .int .i64 0, .int .i64 0, .slice (some ⟨g1, 0, none⟩) i.nw cap1, .pointer (some ⟨db, 0, none⟩), .int .i64 i.lps, .slice none 0 0, .int .i64 0, .int .i64 0, .int .i64 0] 155)).mono L4.out.size))
    have R5 : Hid (VmAt w.heap.size u4.heap.size db (wordN i.seed i.me) i.lps (.slice (some ⟨g1, 0, none⟩) i.nw cap1) (.slice none 0 0) (beginM i) (u4.alloc (.cells #[.int .i64 i.pay, .int .i64 i.me, .int .i64 i.lps, .int .i64 (i.nw : Int), .int .i64 0, .int .i64 0, .int .i64 0, .int .i64 0, .slice (some ⟨g1, 0, none⟩) i.nw cap1, .pointer (some ⟨db, 0, none⟩), .int .i64 i.lps, .slice none 0 0, .int .i64 0, .int .i64 0, .int .i64 0] 155))) :=
      ⟨L4.out.size, N4.out, by rw [vmC_begin]; exact heap_alloc_new u4 (.cells #[.int .i64 i.pay, .int .i64 i.me, .int .i64 i.lps, .int .i64 (i.nw : Int), .int .i64 0, .int .i64 0, .int .i64 0, .int .i64 0, .slice (some ⟨g1, 0, none⟩) i.nw cap1, .pointer (some ⟨db, 0, none⟩), .int .i64 i.lps, .slice none 0 0, .int .i64 0, .int .i64 0, .int .i64 0] 155), (Below.heap_alloc u4 (.cells #[.int .i64 i.pay, .int .i64 i.me, .int .i64 i.lps, .int .i64 (i.nw : Int), .int .i64 0, .int .i64 0, .int .i64 0, .int .i64 0, .slice (some ⟨g1, 0, none⟩) i.nw cap1, .pointer (some ⟨db, 0, none⟩), .int .i64 i.lps, .slice none 0 0, .int .i64 0, .int .i64 0, .int .i64 0] 155) _ (lt_of_block D4.out)).trans D4.out, World.ownsRow.alloc W4.out (.cells #[.int .i64 i.pay, .int .i64 i.me, .int .i64 i.lps, .int .i64 (i.nw : Int), .int .i64 0, .int .i64 0, .int .i64 0, .int .i64 0, .slice (some ⟨g1, 0, none⟩) i.nw cap1, .pointer (some ⟨db, 0, none⟩), .int .i64 i.lps, .slice none 0 0, .int .i64 0, .int .i64 0, .int .i64 0] 155), by rw [show (beginM i).ns = 0 from rfl, rowCells_zero]; exact World.ownsRow_nil _ _ _ _⟩
    refine hK.out _ _ ?_ (fun hHeld => ?_)
    · exact six_cells7 X5.out
    clear hK K
    try go_frame
    first | refine tq0 24 rfl ?_ | refine tq1 24 rfl ?_
    try go_frame
    refine wpAnyH_done (by kernel_rfl) ?_ _
    go_wp2_with fail
    go_ret
    exact ⟨_, _, _, _, rfl, R5.out, L5.out⟩

end Go.Proofs.YthkfaeplmmlnlaaGreat
namespace Go.Proofs.YthkfaeplmmlnlaaGreat
open Go.RowKit
set_option linter.unusedVariables false
set_option maxRecDepth 100000

theorem VmAt.lower {base b2 P bd a : Nat} {lps : Int} {vw vs : Value} {r : Mch} {u : World} (h : VmAt base P bd a lps vw vs r u) (hb : b2 ≤ base) : VmAt b2 P bd a lps vw vs r u :=
  ⟨Nat.le_trans hb h.lo, Nat.le_trans hb h.lo2, h.box, h.dice, own_lower h.w hb, own_lower h.s hb⟩
theorem setCells_other7 {B q : Nat} (hne : q ≠ B) : ∀ (l : List Value) (o : Nat) (W : World), (W.setCells B o l).heap[q]? = W.heap[q]?
  | [], _, _ => rfl
  | v :: l, o, W => (setCells_other7 hne l (o + 1) _).trans (Below.heap_setCell W ⟨B, o, none⟩ v q hne)
/-- what comes of a run -/
def ouOf (r : Mch) : Ou := if r.f = 0 then ⟨r.nw, r.w, r.ns, r.sn, r.dice, 0⟩ else { zeroU with f := r.f }
theorem ouOf_pc (r : Mch) (q : Nat) : ouOf { r with pc := q } = ouOf r := rfl
section
variable {base P bd a : Nat} {lps : Int} {vw vs : Value} {r : Mch}
set_option maxHeartbeats 3200000 in
theorem output7_any (w : World) (hr : VmAt base P bd a lps vw vs r w) :
    Calls Tryz.prog 85 #[.pointer (some ⟨P, 0, none⟩)] w fun e w' => ∃ v, e = .returned v ∧ OutAt base (ouOf r) v w' ∧ Below w.heap.size w w' := by
  have X1 := Lib.hid (heap_alloc_new w (.cells #[.slice none 0 0, .slice none 0 0, .int .i64 0, .int .i64 0] 90))
  have B1 := Lib.hid (balloc w (.cells #[.slice none 0 0, .slice none 0 0, .int .i64 0, .int .i64 0] 90))
  have RU := Lib.hid (hr.below B1.out)
  obtain ⟨aw, cw, rfl⟩ := hr.form
  obtain ⟨as_, cs, rfl⟩ := hr.form2
  clear hr
  go_enter Tryz.func85, Tryz.ntmps85
  go_upto_region 1 with fail
  generalize w.alloc (.cells #[.slice none 0 0, .slice none 0 0, .int .i64 0, .int .i64 0] 90) = u at *
  obtain ⟨p8, p9, p10, p11, p12, p13, p14, pf⟩ := RU.out.cells
  obtain ⟨z0, z1, z2, z3⟩ := four_cells X1.out
  have zf : ∀ q, u.frozen? ⟨w.heap.size, q, none⟩ = false := fun q => Lib.frozen_of_heap X1.out q
  by_cases hf : r.f = 0
  · have df : (r.f != 0) = false := by simp [hf]
    have E : Hid (ouOf r = ⟨r.nw, r.w, r.ns, r.sn, r.dice, 0⟩) := if_pos hf
    clear hf
    have HC := Lib.hid (count_any a r.dice bd u.drew RU.out.drew.dice)
    have hne : w.heap.size ≠ P := RU.out.notP X1.out (by decide)
    go_wp2_with fail
    have RD := Lib.hid RU.out.drew
    have LD := Lib.hid B1.out.drew
    have XD : Hid (u.drew.heap[w.heap.size]? = some (.cells #[.slice none 0 0, .slice none 0 0, .int .i64 0, .int .i64 0] 90 (0, 0))) := X1.out
    refine wp_region_held_drew (S := (fun w' => w'.cell? ⟨P, 8, none⟩ = some (.slice aw r.nw cw) ∧ w'.cell? ⟨P, 11, none⟩ = some (.slice as_ r.ns cs) ∧ w'.cell? ⟨P, 9, none⟩ = some (.pointer (some ⟨bd, 0, none⟩)))) (by kernel_rfl) ?_ (fun hHeld => ?_)
    · exact ⟨RD.out.cells.1, RD.out.cells.2.2.2.1, RD.out.cells.2.1⟩
    change wpAnyH _ _ _ _ _ _ _ _ (World.drew u)
    clear p8 p9 p10 p11 p12 p13 p14 pf RU B1 X1 z0 z1 z2 z3 zf
    generalize u.drew = u0 at *
    first | refine tq0 0 rfl ?_ | refine tq1 0 rfl ?_
    try go_frame
    first | refine tq0 1 rfl ?_ | refine tq1 1 rfl ?_
    try go_frame
    first | refine tq0 2 rfl ?_ | refine tq1 2 rfl ?_
    try go_frame
    first | refine tq0 3 rfl ?_ | refine tq1 3 rfl ?_
    try go_frame
    first | refine tq0 4 rfl ?_ | refine tq1 4 rfl ?_
    try go_frame
    first | refine tq0 5 rfl ?_ | refine tq1 5 rfl ?_
    try go_frame
    first | refine tq0 6 rfl ?_ | refine tq1 6 rfl ?_
    try go_frame
    first | refine tq0 7 rfl ?_ | refine tq1 7 rfl ?_
    try go_frame
    first | refine tq0 8 rfl ?_ | refine tq1 8 rfl ?_
    try go_frame
    first | refine tq0 9 rfl ?_ | refine tq1 9 rfl ?_
    try go_frame
    first | refine tq0 10 rfl ?_ | refine tq1 10 rfl ?_
    try go_frame
    first | refine tq0 11 rfl ?_ | refine tq1 11 rfl ?_
    try go_frame
    refine wpAnyH_ready (rs := [12]) (by kernel_rfl) (by simp) ?_
    refine AllReadyH.cons (o := ⟨_, _, _, _, _, _⟩) rfl (fun K hK => ?_) AllReadyH.nil
    go_simp
    go_at_call 97
    refine HC.out.mono ?_
    rintro e w1 ⟨rfl, hw1⟩
    subst w1
    refine hK.out _ _ ?_ (fun hHeld => ?_)
    · exact hHeld
    clear hK K
    try go_frame
    first | refine tq0 13 rfl ?_ | refine tq1 13 rfl ?_
    try go_frame
    obtain ⟨z0, z1, z2, z3⟩ := four_cells XD.out
    have zf : ∀ q, u0.frozen? ⟨w.heap.size, q, none⟩ = false := fun q => Lib.frozen_of_heap XD.out q
    have BX := Lib.hid ((setCells_other7 (Ne.symm hne) [.slice aw r.nw cw, .slice as_ r.ns cs, .int .i64 r.dice, .int .i64 0] 0 u0).trans RD.out.box)
    have SX : (fun w' => w'.cell? ⟨P, 8, none⟩ = some (.slice aw r.nw cw) ∧ w'.cell? ⟨P, 11, none⟩ = some (.slice as_ r.ns cs) ∧ w'.cell? ⟨P, 9, none⟩ = some (.pointer (some ⟨bd, 0, none⟩))) (u0.setCells w.heap.size 0 [.slice aw r.nw cw, .slice as_ r.ns cs, .int .i64 r.dice, .int .i64 0]) := by refine ⟨?_, ?_, ?_⟩ <;> (rw [Lib.cell_of_heap BX.out]; rfl)
    refine wpAnyH_ready (rs := [14]) (by kernel_rfl) (by simp) ?_
    refine AllReadyH.cons (o := ⟨_, _, _, _, _, _⟩) rfl (fun K hK => ?_) AllReadyH.nil
    go_simp
    change K _ (World.setCells u0 w.heap.size 0 [.slice aw r.nw cw, .slice as_ r.ns cs, .int .i64 r.dice, .int .i64 0])
    refine hK.out _ _ ?_ (fun hHeld => ?_)
    · exact SX
    clear hK K z0 z1 z2 z3 zf SX
    try go_frame
    refine wpAnyH_done (by kernel_rfl) ?_ _
    change Exit.then _ _ _ _ (World.setCells u0 w.heap.size 0 [.slice aw r.nw cw, .slice as_ r.ns cs, .int .i64 r.dice, .int .i64 0])
    have h5 := put_four XD.out (.slice aw r.nw cw) (.slice as_ r.ns cs) (.int .i64 r.dice) (.int .i64 0)
    have HO : Hid (OutAt base (ouOf r) (.agg #[.slice aw r.nw cw, .slice as_ r.ns cs, .int .i64 r.dice, .int .i64 0]) (World.setCells u0 w.heap.size 0 [.slice aw r.nw cw, .slice as_ r.ns cs, .int .i64 r.dice, .int .i64 0])) := by
      show OutAt _ _ _ _
      rw [E.out]
      exact ⟨aw, cw, as_, cs, rfl, own_setCells (own_not RD.out.w XD.out (by decide)) _ 0 _ RD.out.w, own_setCells (own_not RD.out.s XD.out (by decide)) _ 0 _ RD.out.s⟩
    have LZ := Lib.hid (LD.out.trans (put_low7 (Nat.le_refl w.heap.size) [.slice aw r.nw cw, .slice as_ r.ns cs, .int .i64 r.dice, .int .i64 0] 0 u0))
    obtain ⟨t0, t1, t2, t3⟩ := four_cells h5
    clear h5
    generalize World.setCells u0 w.heap.size 0 [.slice aw r.nw cw, .slice as_ r.ns cs, .int .i64 r.dice, .int .i64 0] = w9 at *
    go_wp2_with fail
    exact bodyPost_ret (v := .agg #[.slice aw r.nw cw, .slice as_ r.ns cs, .int .i64 r.dice, .int .i64 0]) (by simp [results, Tryz.results85, go_sem, t0, t1, t2, t3]) rfl ⟨_, rfl, HO.out, LZ.out⟩
  · have df : (r.f != 0) = true := by simp [hf]
    have E : Hid (ouOf r = { zeroU with f := r.f }) := if_neg hf
    clear hf
    go_wp2_with fail
    change bodyPost _ _ _ _ _ (World.setCells u w.heap.size 0 [.slice none 0 0, .slice none 0 0, .int .i64 0, .int .i64 r.f])
    have h5 := put_four X1.out (.slice none 0 0) (.slice none 0 0) (.int .i64 0) (.int .i64 r.f)
    have LZ := Lib.hid (B1.out.trans (put_low7 (Nat.le_refl w.heap.size) [.slice none 0 0, .slice none 0 0, .int .i64 0, .int .i64 r.f] 0 u))
    obtain ⟨t0, t1, t2, t3⟩ := four_cells h5
    clear h5
    generalize World.setCells u w.heap.size 0 [.slice none 0 0, .slice none 0 0, .int .i64 0, .int .i64 r.f] = w9 at *
    exact bodyPost_ret (v := .agg #[.slice none 0 0, .slice none 0 0, .int .i64 0, .int .i64 r.f]) (by simp [results, Tryz.results85, go_sem, t0, t1, t2, t3]) rfl ⟨_, rfl, by rw [E.out]; exact out_none (o := { zeroU with f := r.f }) _ _ rfl rfl, LZ.out⟩
end

end Go.Proofs.YthkfaeplmmlnlaaGreat
namespace Go.Proofs.YthkfaeplmmlnlaaGreat
open Go.RowKit
set_option linter.unusedVariables false
set_option maxRecDepth 100000

theorem mayN_zero {pr : Nat → I4} {pl : Nat} {i : Inp} (h0 : mayN pr pl i = 0) : ((1 ≤ pl ∧ pl ≤ 48) ∧ allN (fun k => insB (pr k) pl) pl = true) ∧ i.nw ≤ 8 := by
  unfold mayN at h0
  by_cases c : (1 ≤ pl ∧ pl ≤ 48) ∧ allN (fun k => insB (pr k) pl) pl = true
  · rw [if_pos c] at h0
    refine ⟨c, ?_⟩
    by_cases c2 : 8 < i.nw
    · rw [if_pos c2] at h0; exact absurd h0 (by decide)
    · omega
  · rw [if_neg c] at h0; exact absurd h0 (by decide)
/-- what a run that may be comes to -/
def RanPost (pr : Nat → I4) (pl : Nat) (i : Inp) (w : World) (e : Ending) (w' : World) : Prop :=
  ∃ P bd vw vs q, e = .returned (.tuple #[.pointer (some ⟨P, 0, none⟩), .int .i64 0]) ∧ VmAt w.heap.size P bd (wordN i.seed i.me) i.lps vw vs { wholeM pr pl i with pc := q } w' ∧ Below w.heap.size w w'
set_option maxHeartbeats 1600000 in
theorem ran_ok (pr : Nat → I4) (pl : Nat) (vp : Value) (i : Inp) (vI : Value) (w : World) (hp : Sl 4 (gI pr) pl vp w) (hw : Sl 1 (gW i.w) i.nw vI w) (hbd : Bd (beginM i)) (hb : ∀ k, r64v (pr k).b) (h0 : mayN pr pl i = 0) :
    Calls Tryz.prog 84 #[vp, .agg #[vI, .int .i64 i.pay, .int .i64 i.me, .int .i64 i.lps, .int .i64 i.seed, .int .i64 i.dice]] w (RanPost pr pl i w) := by
  obtain ⟨⟨⟨h1, h48⟩, hall⟩, h8⟩ := mayN_zero h0
  have HP := Lib.hid hp
  have HW := Lib.hid hw
  obtain ⟨ap, cp, rfl, hcp, hcp2, hpc⟩ := hp
  obtain ⟨B, O, rfl, hat⟩ := hpc (by omega)
  obtain ⟨aw, cw, rfl, hcw, hcw2, _⟩ := hw
  have HAT := Lib.hid hat
  have HIN := Lib.hid ((allN_iff _ _).1 hall)
  have HBD := Lib.hid hbd
  have HBB := Lib.hid hb
  have H48 := Lib.hid (And.intro h1 h48)
  have H8 := Lib.hid h8
  have d8 : decide ((8 : Int) < (i.nw : Int)) = false := by rw [decide_eq_false_iff_not]; omega
  have hm : mayB7 pr pl = true := by unfold mayB7; rw [hall, decide_eq_true ⟨h1, h48⟩]; rfl
  have HM : Hid (∀ u, Below w.heap.size w u → Calls Tryz.prog 94 #[.slice (some ⟨B, O, none⟩) pl cp] u fun e w' => e = .returned (.bool true) ∧ Below u.heap.size u w') := fun u k => by
    have := mayRun_any pr pl _ u (HP.out.below k)
    rwa [hm] at this
  have HG : Hid (∀ u, Below w.heap.size w u → Calls Tryz.prog 95 #[.agg #[.slice aw i.nw cw, .int .i64 i.pay, .int .i64 i.me, .int .i64 i.lps, .int .i64 i.seed, .int .i64 i.dice]] u (BeginPost i u)) := fun u k => begin7_any i _ u (HW.out.below k) H8.out
  have X1 := Lib.hid (heap_alloc_new w (.cells #[.slice aw i.nw cw, .int .i64 i.pay, .int .i64 i.me, .int .i64 i.lps, .int .i64 i.seed, .int .i64 i.dice] 87))
  have B1 := Lib.hid (balloc w (.cells #[.slice aw i.nw cw, .int .i64 i.pay, .int .i64 i.me, .int .i64 i.lps, .int .i64 i.seed, .int .i64 i.dice] 87))
  clear hat hall hbd hb h0 h1 h48 h8 hm hpc
  go_enter Tryz.func84, Tryz.ntmps84
  go_upto_region 1 with fail
  generalize w.alloc (.cells #[.slice aw i.nw cw, .int .i64 i.pay, .int .i64 i.me, .int .i64 i.lps, .int .i64 i.seed, .int .i64 i.dice] 87) = u at *
  go_upto_region 6 with (first
    | (go_at_call 94; refine (HM.out _ B1.out).mono ?_; rintro e u2 ⟨rfl, hb2⟩; have X2 := Lib.hid ((hb2.block _ (lt_of_block X1.out)).trans X1.out); have B2 := Lib.hid (bthen B1.out hb2); clear hb2; obtain ⟨n0, n1, n2, n3, n4, n5⟩ := six_cells7 X2.out)
    | (go_at_call 95; refine (HG.out _ B2.out).mono ?_; rintro e u3 ⟨P, bd, vw, vs, rfl, hv, hb3⟩; have V3 := Lib.hid (hv.lower B2.out.size); have B3 := Lib.hid (bthen B2.out hb3); clear hv hb3))
  have HT : Hid (Calls Tryz.prog 96 #[.pointer (some ⟨P, 0, none⟩), .slice (some ⟨B, O, none⟩) pl cp] u3 (ThroughPost w.heap.size P bd (wordN i.seed i.me) i.lps vw (wholeM pr pl i) u3)) :=
    through7_any pr pl i.seed i.me rfl B O cp (beginM i) u3 V3.out B3.out.size H48.out.2 H48.out.1 HIN.out (HAT.out.below B3.out) HAT.out.1 HBD.out HBB.out rfl
  go_wp2_with (go_at_call 96; refine HT.out.mono ?_; rintro e u4 ⟨rfl, ⟨vs4, q, hv⟩, hb4⟩; have V4 := Lib.hid hv; have B4 := Lib.hid (B3.out.trans hb4); clear hv hb4)
  exact bodyPost_ret (v := .tuple #[.pointer (some ⟨P, 0, none⟩), .int .i64 0]) (by simp [results, Tryz.results84, go_sem]) rfl ⟨P, bd, vw, vs4, q, rfl, V4.out, B4.out⟩
set_option maxHeartbeats 1600000 in
theorem ran_bad (pr : Nat → I4) (pl : Nat) (vp : Value) (i : Inp) (vI : Value) (w : World) (hp : Sl 4 (gI pr) pl vp w) (hw : Sl 1 (gW i.w) i.nw vI w) (h0 : mayN pr pl i ≠ 0) :
    Calls Tryz.prog 84 #[vp, .agg #[vI, .int .i64 i.pay, .int .i64 i.me, .int .i64 i.lps, .int .i64 i.seed, .int .i64 i.dice]] w fun e w' => e = .returned (.tuple #[.pointer none, .int .i64 (mayN pr pl i)]) ∧ Below w.heap.size w w' := by
  have HP := Lib.hid hp
  obtain ⟨ap, cp, rfl, hcp, hcp2, _⟩ := hp
  obtain ⟨aw, cw, rfl, hcw, hcw2, _⟩ := hw
  have HM : Hid (∀ u, Below w.heap.size w u → Calls Tryz.prog 94 #[.slice ap pl cp] u fun e w' => e = .returned (.bool (mayB7 pr pl)) ∧ Below u.heap.size u w') := fun u k => mayRun_any pr pl _ u (HP.out.below k)
  have X1 := Lib.hid (heap_alloc_new w (.cells #[.slice aw i.nw cw, .int .i64 i.pay, .int .i64 i.me, .int .i64 i.lps, .int .i64 i.seed, .int .i64 i.dice] 87))
  have B1 := Lib.hid (balloc w (.cells #[.slice aw i.nw cw, .int .i64 i.pay, .int .i64 i.me, .int .i64 i.lps, .int .i64 i.seed, .int .i64 i.dice] 87))
  have E : (mayB7 pr pl = false ∧ mayN pr pl i = 15) ∨ (mayB7 pr pl = true ∧ 8 < i.nw ∧ mayN pr pl i = 2) := by
    unfold mayN at h0 ⊢
    unfold mayB7
    by_cases c : (1 ≤ pl ∧ pl ≤ 48) ∧ allN (fun k => insB (pr k) pl) pl = true
    · rw [if_pos c] at h0 ⊢
      by_cases c2 : 8 < i.nw
      · rw [if_pos c2]; exact .inr ⟨by rw [decide_eq_true c.1, c.2]; rfl, c2, rfl⟩
      · rw [if_neg c2] at h0; exact absurd rfl h0
    · rw [if_neg c]
      refine .inl ⟨?_, rfl⟩
      rw [Bool.and_eq_false_iff, decide_eq_false_iff_not]
      by_cases c1 : 1 ≤ pl ∧ pl ≤ 48
      · exact .inr (by rw [← Bool.not_eq_true]; exact fun h => c ⟨c1, h⟩)
      · exact .inl c1
  clear h0
  generalize mayB7 pr pl = mb at *
  generalize mayN pr pl i = mn at *
  go_enter Tryz.func84, Tryz.ntmps84
  go_upto_region 1 with fail
  generalize w.alloc (.cells #[.slice aw i.nw cw, .int .i64 i.pay, .int .i64 i.me, .int .i64 i.lps, .int .i64 i.seed, .int .i64 i.dice] 87) = u at *
  rcases E with ⟨rfl, rfl⟩ | ⟨rfl, h8, rfl⟩
  · go_wp2_with (go_at_call 94; refine (HM.out _ B1.out).mono ?_; rintro e u2 ⟨rfl, hb2⟩; have B2 := Lib.hid (bthen B1.out hb2); clear hb2)
    exact bodyPost_ret (v := .tuple #[.pointer none, .int .i64 15]) (by simp [results, Tryz.results84, go_sem]) rfl ⟨rfl, B2.out⟩
  · have d8 : decide ((8 : Int) < (i.nw : Int)) = true := by rw [decide_eq_true_eq]; omega
    clear h8
    go_wp2_with (go_at_call 94; refine (HM.out _ B1.out).mono ?_; rintro e u2 ⟨rfl, hb2⟩; have X2 := Lib.hid ((hb2.block _ (lt_of_block X1.out)).trans X1.out); have B2 := Lib.hid (bthen B1.out hb2); clear hb2; obtain ⟨n0, n1, n2, n3, n4, n5⟩ := six_cells7 X2.out)
    exact bodyPost_ret (v := .tuple #[.pointer none, .int .i64 2]) (by simp [results, Tryz.results84, go_sem]) rfl ⟨rfl, B2.out⟩

set_option maxHeartbeats 1600000 in
theorem run_is : RunAny := by
  intro pr pl vp i vI w hp hw hbd hb
  have X1 : Hid (((w.alloc (.cells #[vI, .int .i64 i.pay, .int .i64 i.me, .int .i64 i.lps, .int .i64 i.seed, .int .i64 i.dice] 87)).alloc (.cells #[.slice none 0 0, .slice none 0 0, .int .i64 0, .int .i64 0] 90)).heap[w.heap.size]? = some (.cells #[vI, .int .i64 i.pay, .int .i64 i.me, .int .i64 i.lps, .int .i64 i.seed, .int .i64 i.dice] 87)) := (Below.heap_alloc _ _ _ (by rw [World.size_alloc]; omega)).trans (heap_alloc_new w _)
  have R1 : Hid (((w.alloc (.cells #[vI, .int .i64 i.pay, .int .i64 i.me, .int .i64 i.lps, .int .i64 i.seed, .int .i64 i.dice] 87)).alloc (.cells #[.slice none 0 0, .slice none 0 0, .int .i64 0, .int .i64 0] 90)).heap[w.heap.size + 1]? = some (.cells #[.slice none 0 0, .slice none 0 0, .int .i64 0, .int .i64 0] 90 (0, 0))) := by
    have := heap_alloc_new (w.alloc (.cells #[vI, .int .i64 i.pay, .int .i64 i.me, .int .i64 i.lps, .int .i64 i.seed, .int .i64 i.dice] 87)) (.cells #[.slice none 0 0, .slice none 0 0, .int .i64 0, .int .i64 0] 90)
    rwa [World.size_alloc] at this
  have B1 := Lib.hid (bthen (balloc w (.cells #[vI, .int .i64 i.pay, .int .i64 i.me, .int .i64 i.lps, .int .i64 i.seed, .int .i64 i.dice] 87)) (balloc _ (.cells #[.slice none 0 0, .slice none 0 0, .int .i64 0, .int .i64 0] 90)))
  have HO : Hid (mayN pr pl i = 0 → ∀ u, Below w.heap.size w u → Calls Tryz.prog 84 #[vp, .agg #[vI, .int .i64 i.pay, .int .i64 i.me, .int .i64 i.lps, .int .i64 i.seed, .int .i64 i.dice]] u (RanPost pr pl i u)) := fun h0 u k => ran_ok pr pl vp i vI u (hp.below k) (hw.below k) hbd hb h0
  have HZ : Hid (mayN pr pl i ≠ 0 → ∀ u, Below w.heap.size w u → Calls Tryz.prog 84 #[vp, .agg #[vI, .int .i64 i.pay, .int .i64 i.me, .int .i64 i.lps, .int .i64 i.seed, .int .i64 i.dice]] u fun e w' => e = .returned (.tuple #[.pointer none, .int .i64 (mayN pr pl i)]) ∧ Below u.heap.size u w') := fun h0 u k => ran_bad pr pl vp i vI u (hp.below k) (hw.below k) h0
  have hdo : Hid (doU pr pl i = if mayN pr pl i = 0 then ouOf (wholeM pr pl i) else zeroU) := rfl
  refine Calls.mono (R := fun e w' => ∃ v, e = .returned (.tuple #[v, .int .i64 (mayN pr pl i)]) ∧ OutAt w.heap.size (doU pr pl i) v w' ∧ Below w.heap.size w w') ?_ fun e w' h => tells_of h
  generalize doU pr pl i = ou at *
  generalize mayN pr pl i = mn at *
  clear hp hw hbd hb
  obtain ⟨n0, n1, n2, n3, n4, n5⟩ := six_cells7 X1.out
  obtain ⟨z0, z1, z2, z3⟩ := four_cells R1.out
  have zf : ∀ q, _ = false := fun q => Lib.frozen_of_heap R1.out q
  generalize hu : (w.alloc (.cells #[vI, .int .i64 i.pay, .int .i64 i.me, .int .i64 i.lps, .int .i64 i.seed, .int .i64 i.dice] 87)).alloc (.cells #[.slice none 0 0, .slice none 0 0, .int .i64 0, .int .i64 0] 90) = u at X1 R1 B1 n0 n1 n2 n3 n4 n5 z0 z1 z2 z3 zf
  go_enter Tryz.func62, Tryz.ntmps62
  go_upto_region 1 with fail
  try rw [hu]
  clear hu
  by_cases h0 : mn = 0
  · subst h0
    have HO2 := Lib.hid (HO.out rfl)
    have hdo1 : Hid (ou = ouOf (wholeM pr pl i)) := by show _ = _; rw [hdo.out, if_pos rfl]
    clear HO HZ hdo
    go_wp2_with (first
      | (go_at_call 84; refine (HO2.out _ B1.out).mono ?_; rintro e u2 ⟨P, bd, vw, vs, q, rfl, hv, hb2⟩; have V2 := Lib.hid hv; have R2 := Lib.hid ((hb2.block _ (lt_of_block R1.out)).trans R1.out); have B2 := Lib.hid (bthen B1.out hb2); clear hb2 hv n0 n1 n2 n3 n4 n5 z0 z1 z2 z3 zf)
      | (go_at_call 85; refine (output7_any _ V2.out).mono ?_; rintro e u3 ⟨v, rfl, hv3, hb3⟩; have O3 := Lib.hid (hv3.lower B1.out.size); have R3 := Lib.hid ((hb3.block _ (lt_of_block R2.out)).trans R2.out); have B3 := Lib.hid (bthen B2.out hb3); clear hb3 hv3; obtain ⟨aw, cw, as_, cs, rfl, o1, o2⟩ := id O3.out; obtain ⟨z0, z1, z2, z3⟩ := four_cells R3.out; have zf : ∀ q, u3.frozen? ⟨w.heap.size + 1, q, none⟩ = false := fun q => Lib.frozen_of_heap R3.out q; have O1 := Lib.hid (And.intro o1 o2); clear o1 o2))
    have eo : ouOf { wholeM pr pl i with pc := q } = ou := by rw [ouOf_pc, hdo1.out]
    rw [eo] at O1 ⊢
    change bodyPost _ _ _ _ _ (World.setCells u3 (w.heap.size + 1) 0 [.slice aw ou.nw cw, .slice as_ ou.ns cs, .int .i64 ou.dice, .int .i64 ou.f])
    have h5 := put_four R3.out (.slice aw ou.nw cw) (.slice as_ ou.ns cs) (.int .i64 ou.dice) (.int .i64 ou.f)
    have LZ := Lib.hid (B3.out.trans (put_low7 (show w.heap.size ≤ w.heap.size + 1 by omega) [.slice aw ou.nw cw, .slice as_ ou.ns cs, .int .i64 ou.dice, .int .i64 ou.f] 0 u3))
    have HOU : Hid (OutAt w.heap.size ou (.agg #[.slice aw ou.nw cw, .slice as_ ou.ns cs, .int .i64 ou.dice, .int .i64 ou.f]) (World.setCells u3 (w.heap.size + 1) 0 [.slice aw ou.nw cw, .slice as_ ou.ns cs, .int .i64 ou.dice, .int .i64 ou.f])) :=
      ⟨aw, cw, as_, cs, rfl, own_setCells (own_not O1.out.1 R3.out (by decide)) _ 0 _ O1.out.1, own_setCells (own_not O1.out.2 R3.out (by decide)) _ 0 _ O1.out.2⟩
    obtain ⟨t0, t1, t2, t3⟩ := four_cells h5
    clear h5
    generalize World.setCells u3 (w.heap.size + 1) 0 [.slice aw ou.nw cw, .slice as_ ou.ns cs, .int .i64 ou.dice, .int .i64 ou.f] = w9 at *
    exact bodyPost_ret (v := .tuple #[.agg #[.slice aw ou.nw cw, .slice as_ ou.ns cs, .int .i64 ou.dice, .int .i64 ou.f], .int .i64 0]) (by simp [results, Tryz.results62, go_sem, t0, t1, t2, t3]) rfl ⟨_, rfl, HOU.out, LZ.out⟩
  · have d0 : (mn != 0) = true := by simp [h0]
    have HZ2 := Lib.hid (HZ.out h0)
    have hdo1 : Hid (ou = zeroU) := by show _ = _; rw [hdo.out, if_neg h0]
    clear HO HZ hdo h0
    go_wp2_with (go_at_call 84; refine (HZ2.out _ B1.out).mono ?_; rintro e u2 ⟨rfl, hb2⟩; have R2 := Lib.hid ((hb2.block _ (lt_of_block R1.out)).trans R1.out); have B2 := Lib.hid (bthen B1.out hb2); clear hb2 n0 n1 n2 n3 n4 n5 z0 z1 z2 z3 zf; obtain ⟨z0, z1, z2, z3⟩ := four_cells R2.out; have zf : ∀ q, u2.frozen? ⟨w.heap.size + 1, q, none⟩ = false := fun q => Lib.frozen_of_heap R2.out q)
    change bodyPost _ _ _ _ _ (World.setCells u2 (w.heap.size + 1) 0 [.slice none 0 0, .slice none 0 0, .int .i64 0, .int .i64 0])
    have h5 := put_four R2.out (.slice none 0 0) (.slice none 0 0) (.int .i64 0) (.int .i64 0)
    have LZ := Lib.hid (B2.out.trans (put_low7 (show w.heap.size ≤ w.heap.size + 1 by omega) [.slice none 0 0, .slice none 0 0, .int .i64 0, .int .i64 0] 0 u2))
    obtain ⟨t0, t1, t2, t3⟩ := four_cells h5
    clear h5
    generalize World.setCells u2 (w.heap.size + 1) 0 [.slice none 0 0, .slice none 0 0, .int .i64 0, .int .i64 0] = w9 at *
    exact bodyPost_ret (v := .tuple #[.agg #[.slice none 0 0, .slice none 0 0, .int .i64 0, .int .i64 0], .int .i64 mn]) (by simp [results, Tryz.results62, go_sem, t0, t1, t2, t3]) rfl ⟨_, rfl, by rw [hdo1.out]; exact out_none (o := zeroU) _ _ rfl rfl, LZ.out⟩

end Go.Proofs.YthkfaeplmmlnlaaGreat
