/- The contract of model.Copy. -/
import Derived.Test.YthkfaeplmmlnlaaGreatRZ32
import Derived.Test.YthkfaeplmmlnlaaGreatRZ0
import Derived.Test.YthkfaeplmmlnlaaGreatRZ3
namespace Go.Proofs.YthkfaeplmmlnlaaGreat
open Go.RowKit
set_option linter.unusedVariables false

set_option maxHeartbeats 6400000 in
theorem copy_core (seed : Int) (fin nd np nl ni : Nat) (vd vp vl vi : Value) (d : Nat → Nat) (pl : Nat → Nat) (pr : Nat → Nat → I4) (lp : Nat → Int) (wl : Nat → Nat) (wd : Nat → Nat → Int) (ev : Nat → Ev) (g0 l0 : Nat → Value) (w : World)
    (hnp : np ≤ 1000) (hnl : nl ≤ 1000) (G0 : Hid (∀ i, i < np → ∃ a n c, g0 i = .slice a n c)) (L0 : Hid (∀ i, i < nl → ∃ a n c, l0 i = .slice a n c))
    (HP : Hid (∀ w2, Below w.heap.size w w2 → Calls Tryz.prog 48 #[vp] w2 fun e w' => ∃ v', e = .returned v' ∧ Fresh 1 61 (gV g0) np v' w2.heap.size w' ∧ Below w2.heap.size w2 w'))
    (HI : Hid (∀ i, i < np → ∀ w2, Below w.heap.size w w2 → Calls Tryz.prog 49 #[g0 i] w2 fun e w' => ∃ v', e = .returned v' ∧ Fresh 4 99 (gI (pr i)) (pl i) v' w2.heap.size w' ∧ Below w2.heap.size w2 w'))
    (HL : Hid (∀ w2, Below w.heap.size w w2 → Calls Tryz.prog 50 #[vl] w2 fun e w' => ∃ v', e = .returned v' ∧ Fresh 2 63 (gL lp l0) nl v' w2.heap.size w' ∧ Below w2.heap.size w2 w'))
    (HW : Hid (∀ i, i < nl → ∀ w2, Below w.heap.size w w2 → Calls Tryz.prog 51 #[l0 i] w2 fun e w' => ∃ v', e = .returned v' ∧ Fresh 1 3 (gW (wd i)) (wl i) v' w2.heap.size w' ∧ Below w2.heap.size w2 w'))
    (HD : Hid (∀ w2, Below w.heap.size w w2 → Calls Tryz.prog 52 #[vd] w2 fun e w' => ∃ v', e = .returned v' ∧ Fresh 1 22 (gF d) nd v' w2.heap.size w' ∧ Below w2.heap.size w2 w'))
    (HE : Hid (∀ w2, Below w.heap.size w w2 → Calls Tryz.prog 53 #[vi] w2 fun e w' => ∃ v', e = .returned v' ∧ Fresh 3 78 (gE ev) ni v' w2.heap.size w' ∧ Below w2.heap.size w2 w')) :
    Calls Tryz.prog 21 #[.agg #[.int .i64 seed, .float .f64 fin, vd, vp, vl, vi]] w fun e w' => ∃ vd' vp' vl' vi', e = .returned (.agg #[.int .i64 seed, .float .f64 fin, vd', vp', vl', vi']) ∧ (Fresh 1 22 (gF d) nd vd' w.heap.size w' ∧ NewP np pl pr vp' w.heap.size w' ∧ NewL nl lp wl wd vl' w.heap.size w' ∧ Fresh 3 78 (gE ev) ni vi' w.heap.size w') ∧ Below w.heap.size w w' := by
  have K1 := Keep.new w (.int .i64 seed) (.float .f64 fin) vd vp vl vi
  have HK1 := Lib.hid K1
  obtain ⟨_, x0, x1, x2, x3, x4, x5⟩ := K1.cells
  clear K1
  go_enter Tryz.func21, Tryz.ntmps21
  go_wp2_with fail
  refine (HP.out _ HK1.out.bel).mono ?_
  rintro e w2 ⟨v2, rfl, hf2, hb2⟩
  obtain ⟨aP, B, rfl, hz, hB⟩ := (hf2.mono HK1.out.bel.size).form
  have HK2 := Lib.hid (HK1.out.on hb2)
  have HZ := Lib.hid hz
  have HB := Lib.hid hB
  clear x0 x1 x2 x3 x4 x5 hf2 hb2 hz hB
  go_wp2_with fail
  go_loopw [12] (fun i wr => ∃ j : Nat, j ≤ np ∧ i = .int .i64 j ∧ LoopP w #[.int .i64 seed, .float .f64 fin, vd, vp, vl, vi] B np pl pr g0 j wr) (fun i _ => np - (intOf i).toNat)
  case atStart => exact ⟨0, by omega, rfl, g0, fun i hi => absurd hi (Nat.not_lt_zero i), fun _ _ => rfl, fun hn => (HB.out hn).2.2, HK2.out⟩
  case round =>
    obtain ⟨j, hj, rfl, g, q1, q2, q3, q4⟩ := hrel
    have HQ1 := Lib.hid q1
    have HQ2 := Lib.hid q2
    have HQ3 := Lib.hid q3
    have HK := Lib.hid q4
    by_cases hlt : j < np
    · obtain ⟨rfl, hbb, _⟩ := HB.out (by omega)
      have q5 := q3 (by omega)
      have c0 : wr.cell? ⟨B, j, none⟩ = some (g0 j) := by
        rw [Lib.cell_of_heap q5, List.getElem?_toArray]
        have := rowCells_at (gV g) hlt (show 0 < 1 by omega)
        rw [show j * 1 + 0 = j by omega] at this
        rw [this]
        show some (g j) = _
        rw [q2 j (Nat.le_refl _)]
      obtain ⟨aj, nj, cj, ej⟩ := G0.out j hlt
      have HI2 := Lib.hid (HI.out j hlt)
      rw [ej] at c0 HI2
      have hj2 : (j : Int) < (np : Int) := by omega
      have hj0 : (0 : Int) ≤ (j : Int) := by omega
      clear q1 q2 q3 q4 q5 ej
      go_wp2_with (go_at_call 49; refine (HI2.out _ HK.out.bel).mono ?_; rintro e w3 ⟨v3, rfl, hf3, hb3⟩; have HF3 := Lib.hid (hf3.mono HK.out.bel.size); obtain ⟨a3, B3, rfl, _, _⟩ := hf3.form; have HB3 := Lib.hid hb3; have h5 : w3.heap[B]? = some (.cells (rowCells 1 (gV g) np).toArray 61 (0, 0)) := (by rw [hb3.block _ (lt_of_block (HQ3.out (by omega)))]; exact HQ3.out (by omega)); have H5 := Lib.hid h5; have c3 : w3.cell? ⟨B, j, none⟩ = some (.slice aj nj cj) := (by rw [hb3.cell (p := ⟨B, j, none⟩) (lt_of_block (HQ3.out (by omega)))]; exact c0); have f3 : w3.frozen? ⟨B, j, none⟩ = false := Lib.frozen_of_heap h5 j; clear hf3 hb3 h5)
      go_roundw
      case rel =>
        obtain ⟨r1, r2, r3⟩ := newP_step (g0 := g0) hlt (fun i hi => (HQ1.out i hi).below HB3.out) HQ2.out H5.out HF3.out
        exact ⟨j + 1, by omega, by go_num, _, r1, r2, fun _ => r3, (HK.out.on HB3.out).set H5.out (by decide) hbb _ _⟩
      case measure => simp [intOf]; omega
    obtain rfl : np = j := by omega
    have HN : Hid (NewP np pl pr (.slice aP np np) w.heap.size wr) := ⟨g, Fresh.of HZ.out (fun hn => ⟨(HB.out hn).1, (HB.out hn).2.1, q3 hn⟩), q1⟩
    obtain ⟨_, x0, x1, x2, x3, x4, x5⟩ := q4.cells
    clear q1 q2 q3 q4 hlt hj HQ1 HQ2 HQ3
    go_wp2_with fail
    refine (HL.out _ HK.out.bel).mono ?_
    rintro e w4 ⟨v4, rfl, hf4, hb4⟩
    obtain ⟨aL, BL, rfl, hz4, hB4⟩ := (hf4.mono HK.out.bel.size).form
    have HK4 := Lib.hid (HK.out.on hb4)
    have HN4 := Lib.hid (HN.out.below hb4)
    have HZ4 := Lib.hid hz4
    have HBL := Lib.hid hB4
    clear x0 x1 x2 x3 x4 x5 hf4 hb4 hz4 hB4
    go_wp2_with fail
    go_loopw [29] (fun i wr => ∃ j : Nat, j ≤ nl ∧ i = .int .i64 j ∧ LoopL w #[.int .i64 seed, .float .f64 fin, vd, vp, vl, vi] BL nl lp wl wd l0 np pl pr (.slice aP np np) j wr) (fun i _ => nl - (intOf i).toNat)
    case atStart => exact ⟨0, by omega, rfl, l0, fun i hi => absurd hi (Nat.not_lt_zero i), fun _ _ => rfl, fun hn => (HBL.out hn).2.2, HK4.out, HN4.out⟩
    case round =>
      clear HK HN HK4 HN4
      obtain ⟨j, hj, rfl, g, q1, q2, q3, q4, q6⟩ := hrel
      have HQ1 := Lib.hid q1
      have HQ2 := Lib.hid q2
      have HQ3 := Lib.hid q3
      have HK := Lib.hid q4
      have HN := Lib.hid q6
      by_cases hlt : j < nl
      · obtain ⟨rfl, hbb, _⟩ := HBL.out (by omega)
        have q5 := q3 (by omega)
        have c0 : wr.cell? ⟨BL, j * 2 + 1, none⟩ = some (l0 j) := by
          rw [Lib.cell_of_heap q5, List.getElem?_toArray, rowCells_at (gL lp g) hlt (show 1 < 2 by omega)]
          show some (g j) = _
          rw [q2 j (Nat.le_refl _)]
        obtain ⟨aj, nj, cj, ej⟩ := L0.out j hlt
        have HI2 := Lib.hid (HW.out j hlt)
        rw [ej] at c0 HI2
        have hj2 : (j : Int) < (nl : Int) := by omega
        have hj0 : (0 : Int) ≤ (j : Int) := by omega
        clear q1 q2 q3 q4 q5 q6 ej
        go_wp2_with (go_at_call 51; refine (HI2.out _ HK.out.bel).mono ?_; rintro e w5 ⟨v5, rfl, hf5, hb5⟩; have HF5 := Lib.hid (hf5.mono HK.out.bel.size); obtain ⟨a5, B5, rfl, _, _⟩ := hf5.form; have HB5 := Lib.hid hb5; have h5 : w5.heap[BL]? = some (.cells (rowCells 2 (gL lp g) nl).toArray 63 (0, 0)) := (by rw [hb5.block _ (lt_of_block (HQ3.out (by omega)))]; exact HQ3.out (by omega)); have H5 := Lib.hid h5; have c3 : w5.cell? ⟨BL, j * 2 + 1, none⟩ = some (.slice aj nj cj) := (by rw [hb5.cell (p := ⟨BL, j * 2 + 1, none⟩) (lt_of_block (HQ3.out (by omega)))]; exact c0); have f3 : w5.frozen? ⟨BL, j * 2 + 1, none⟩ = false := Lib.frozen_of_heap h5 _; clear hf5 hb5 h5)
        go_roundw
        case rel =>
          obtain ⟨r1, r2, r3⟩ := newL_step (g0 := l0) hlt (fun i hi => (HQ1.out i hi).below HB5.out) HQ2.out H5.out HF5.out
          exact ⟨j + 1, by omega, by go_num, _, r1, r2, fun _ => r3, (HK.out.on HB5.out).set H5.out (by decide) hbb _ _, (HN.out.below HB5.out).set H5.out (by decide) (by decide) _ _⟩
        case measure => simp [intOf]; omega
      obtain rfl : nl = j := by omega
      have HM : Hid (NewL nl lp wl wd (.slice aL nl nl) w.heap.size wr) := ⟨g, Fresh.of HZ4.out (fun hn => ⟨(HBL.out hn).1, (HBL.out hn).2.1, q3 hn⟩), q1⟩
      obtain ⟨_, x0, x1, x2, x3, x4, x5⟩ := q4.cells
      clear q1 q2 q3 q4 q6 hlt hj HQ1 HQ2 HQ3
      go_wp2_with fail
      have HKd := Lib.hid (HK.out.on (bdrew _))
      have HNd := Lib.hid (HN.out.below (bdrew _))
      have HMd := Lib.hid (HM.out.below (bdrew _))
      refine wp_region_held_drew (S := (fun w' => w'.cell? ⟨w.heap.size, 0, none⟩ = some (.int .i64 seed) ∧ w'.cell? ⟨w.heap.size, 1, none⟩ = some (.float .f64 fin) ∧ w'.cell? ⟨w.heap.size, 2, none⟩ = some vd ∧ w'.cell? ⟨w.heap.size, 5, none⟩ = some vi)) (by kernel_rfl) ?_ (fun hHeld => ?_)
      · exact ⟨x0, x1, x2, x5⟩
      first | refine tq0 0 rfl ?_ | refine tq1 0 rfl ?_
      try go_frame
      first | refine tq0 1 rfl ?_ | refine tq1 1 rfl ?_
      try go_frame
      first | refine tq0 2 rfl ?_ | refine tq1 2 rfl ?_
      try go_frame
      first | refine tq0 3 rfl ?_ | refine tq1 3 rfl ?_
      try go_frame
      first | refine tq0 4 rfl ?_ | refine tq1 4 rfl ?_
      try go_frame
      first | refine tq0 5 rfl ?_ | refine tq1 5 rfl ?_
      try go_frame
      first | refine tq0 7 rfl ?_ | refine tq1 7 rfl ?_
      try go_frame
      first | refine tq0 8 rfl ?_ | refine tq1 8 rfl ?_
      try go_frame
      first | refine tq0 9 rfl ?_ | refine tq1 9 rfl ?_
      try go_frame
      first | refine tq0 10 rfl ?_ | refine tq1 10 rfl ?_
      try go_frame
      refine wpAnyH_ready (rs := [6]) (by kernel_rfl) (by simp) ?_
      refine AllReadyH.cons (o := ⟨_, _, _, _, _, _⟩) rfl (fun K hK => ?_) AllReadyH.nil
      go_simp
      go_at_call 52
      refine (HD.out _ HKd.out.bel).mono ?_
      rintro e w6 ⟨v6, rfl, hf6, hb6⟩
      have HF6 := Lib.hid (hf6.mono HKd.out.bel.size)
      obtain ⟨a6, B6, rfl, _, _⟩ := hf6.form
      have HK6 := Lib.hid (HKd.out.on hb6)
      have HN6 := Lib.hid (HNd.out.below hb6)
      have HM6 := Lib.hid (HMd.out.below hb6)
      clear hf6 hb6
      obtain ⟨_, p0, p1, p2, p3, p4, p5⟩ := HK6.out.cells
      refine hK.out _ _ ?_ (fun hHeld => ?_)
      · exact ⟨p0, p1, p2, p5⟩
      clear hK K
      try go_frame
      refine wpAnyH_ready (rs := [11]) (by kernel_rfl) (by simp) ?_
      refine AllReadyH.cons (o := ⟨_, _, _, _, _, _⟩) rfl (fun K hK => ?_) AllReadyH.nil
      go_simp
      go_at_call 53
      refine (HE.out _ HK6.out.bel).mono ?_
      rintro e w7 ⟨v7, rfl, hf7, hb7⟩
      have HF7 := Lib.hid (hf7.mono HK6.out.bel.size)
      obtain ⟨a7, B7, rfl, _, _⟩ := hf7.form
      have HK7 := Lib.hid (HK6.out.on hb7)
      have HN7 := Lib.hid (HN6.out.below hb7)
      have HM7 := Lib.hid (HM6.out.below hb7)
      have HG7 := Lib.hid (HF6.out.below hb7)
      clear hf7 hb7
      obtain ⟨_, p0, p1, p2, p3, p4, p5⟩ := HK7.out.cells
      refine hK.out _ _ ?_ (fun hHeld => ?_)
      · exact ⟨p0, p1, p2, p5⟩
      clear hK K
      try go_frame
      first | refine tq0 12 rfl ?_ | refine tq1 12 rfl ?_
      try go_frame
      have h7 := HK7.out.res
      have hsf := store_float
      have r0 : w7.cell? ⟨w.heap.size + 1, 0, none⟩ = some (.int .i64 0) := by rw [Lib.cell_of_heap h7]; rfl
      have r1 : w7.cell? ⟨w.heap.size + 1, 1, none⟩ = some (.float .f64 0) := by rw [Lib.cell_of_heap h7]; rfl
      have r2 : w7.cell? ⟨w.heap.size + 1, 2, none⟩ = some (.slice none 0 0) := by rw [Lib.cell_of_heap h7]; rfl
      have r3 : w7.cell? ⟨w.heap.size + 1, 3, none⟩ = some (.slice none 0 0) := by rw [Lib.cell_of_heap h7]; rfl
      have r4 : w7.cell? ⟨w.heap.size + 1, 4, none⟩ = some (.slice none 0 0) := by rw [Lib.cell_of_heap h7]; rfl
      have r5 : w7.cell? ⟨w.heap.size + 1, 5, none⟩ = some (.slice none 0 0) := by rw [Lib.cell_of_heap h7]; rfl
      have fz : ∀ q, w7.frozen? ⟨w.heap.size + 1, q, none⟩ = false := fun q => Lib.frozen_of_heap h7 q
      clear h7
      refine wpAnyH_ready (rs := [13]) (by kernel_rfl) (by simp) ?_
      refine AllReadyH.cons (o := ⟨_, _, _, _, _, _⟩) rfl (fun K hK => ?_) AllReadyH.nil
      go_simp
      have e8 : ∀ q : Nat, (six w7 (w.heap.size + 1) (.int .i64 seed) (.float .f64 fin) (.slice a6 nd nd) (.slice aP np np) (.slice aL nl nl) (.slice a7 ni ni)).cell? ⟨w.heap.size, q, none⟩ = w7.cell? ⟨w.heap.size, q, none⟩ := fun q => World.cell?_of_block (w := w7) (six_other (show w.heap.size ≠ w.heap.size + 1 by omega) ..)
      change K _ (six w7 (w.heap.size + 1) (.int .i64 seed) (.float .f64 fin) (.slice a6 nd nd) (.slice aP np np) (.slice aL nl nl) (.slice a7 ni ni))
      refine hK.out _ _ ?_ (fun hHeld => ?_)
      · exact ⟨by rw [e8]; exact p0, by rw [e8]; exact p1, by rw [e8]; exact p2, by rw [e8]; exact p5⟩
      clear hK K
      try go_frame
      refine wpAnyH_done (by kernel_rfl) ?_ _
      have h8 : (six w7 (w.heap.size + 1) (.int .i64 seed) (.float .f64 fin) (.slice a6 nd nd) (.slice aP np np) (.slice aL nl nl) (.slice a7 ni ni)).heap[w.heap.size + 1]? = some (.cells #[.int .i64 seed, .float .f64 fin, .slice a6 nd nd, .slice aP np np, .slice aL nl nl, .slice a7 ni ni] 28 (0, 0)) := six_heap HK7.out.res ..
      have t0 := Lib.cell_of_heap h8 0
      have t1 := Lib.cell_of_heap h8 1
      have t2 := Lib.cell_of_heap h8 2
      have t3 := Lib.cell_of_heap h8 3
      have t4 := Lib.cell_of_heap h8 4
      have t5 := Lib.cell_of_heap h8 5
      simp only [List.getElem?_toArray, List.getElem?_cons_zero, List.getElem?_cons_succ] at t0 t1 t2 t3 t4 t5
      have HE8 := Lib.hid (And.intro (six_fresh HG7.out HK7.out.res (by decide) (.int .i64 seed) (.float .f64 fin) (.slice a6 nd nd) (.slice aP np np) (.slice aL nl nl) (.slice a7 ni ni)) (And.intro (six_newP HN7.out HK7.out.res (.int .i64 seed) (.float .f64 fin) (.slice a6 nd nd) (.slice aP np np) (.slice aL nl nl) (.slice a7 ni ni)) (And.intro (six_newL HM7.out HK7.out.res (.int .i64 seed) (.float .f64 fin) (.slice a6 nd nd) (.slice aP np np) (.slice aL nl nl) (.slice a7 ni ni)) (six_fresh HF7.out HK7.out.res (by decide) (.int .i64 seed) (.float .f64 fin) (.slice a6 nd nd) (.slice aP np np) (.slice aL nl nl) (.slice a7 ni ni)))))
      have HB8 := Lib.hid (six_below HK7.out.bel (show w.heap.size ≤ w.heap.size + 1 by omega) (.int .i64 seed) (.float .f64 fin) (.slice a6 nd nd) (.slice aP np np) (.slice aL nl nl) (.slice a7 ni ni))
      generalize six w7 (w.heap.size + 1) (.int .i64 seed) (.float .f64 fin) (.slice a6 nd nd) (.slice aP np np) (.slice aL nl nl) (.slice a7 ni ni) = w8 at *
      clear hHeld e8 h8 fz r0 r1 r2 r3 r4 r5
      go_wp2_with fail
      exact bodyPost_ret (v := .agg #[.int .i64 seed, .float .f64 fin, .slice a6 nd nd, .slice aP np np, .slice aL nl nl, .slice a7 ni ni]) (by simp [results, Tryz.results21, go_sem, t0, t1, t2, t3, t4, t5]) rfl ⟨_, _, _, _, rfl, HE8.out, HB8.out⟩

theorem copy_any (m : Mdl) (s : Small m) (vd vp vl vi : Value) (w : World) (h : MdlAt m vd vp vl vi w) :
    Calls Tryz.prog 21 #[mval m vd vp vl vi] w fun e w' => ∃ vd' vp' vl' vi', e = .returned (mval m vd' vp' vl' vi') ∧ NewM m vd' vp' vl' vi' w.heap.size w' ∧ Below w.heap.size w w' := by
  obtain ⟨hd, ⟨g0, hp1, hp2⟩, ⟨l0, hl1, hl2⟩, hi⟩ := h
  have G0 : ∀ i, i < m.np → ∃ a n c, g0 i = .slice a n c := fun i hi => by obtain ⟨a, c, e, _⟩ := hp2 i hi; exact ⟨a, _, c, e⟩
  have L0 : ∀ i, i < m.nl → ∃ a n c, l0 i = .slice a n c := fun i hi => by obtain ⟨a, c, e, _⟩ := hl2 i hi; exact ⟨a, _, c, e⟩
  refine (copy_core m.seed m.fin m.nd m.np m.nl m.ni vd vp vl vi m.d m.pl m.pr m.lp m.wl m.wd m.ev g0 l0 w s.p s.l G0 L0
    (fun w2 k => copyP_any (gV g0) m.np s.p vp w2 (hp1.below k) (fun i hi j hj => by obtain ⟨a, n, c, e⟩ := G0 i hi; show (g0 i).oneCell' = true; rw [e]; rfl))
    (fun i hi w2 k => copyI_any (gI (m.pr i)) (m.pl i) (s.pl i hi) _ w2 ((hp2 i hi).below k) (fun q hq j hj => by rcases (show j = 0 ∨ j = 1 ∨ j = 2 ∨ j = 3 by omega) with rfl | rfl | rfl | rfl <;> rfl))
    (fun w2 k => copyL_any (gL m.lp l0) m.nl s.l vl w2 (hl1.below k) (fun i hi j hj => by
      rcases (show j = 0 ∨ j = 1 by omega) with rfl | rfl
      · rfl
      · obtain ⟨a, n, c, e⟩ := L0 i hi; show (l0 i).oneCell' = true; rw [e]; rfl))
    (fun i hi w2 k => copyW_any (gW (m.wd i)) (m.wl i) (s.wl i hi) _ w2 ((hl2 i hi).below k) (fun q hq j hj => rfl))
    (fun w2 k => copyF_any (gF m.d) m.nd s.d vd w2 (hd.below k) (fun q hq j hj => rfl))
    (fun w2 k => copyE_any (gE m.ev) m.ni s.i vi w2 (hi.below k) (fun q hq j hj => by rcases (show j = 0 ∨ j = 1 ∨ j = 2 by omega) with rfl | rfl | rfl <;> rfl))).mono ?_
  rintro e w' ⟨vd', vp', vl', vi', rfl, ⟨h1, h2, h3, h4⟩, hb⟩
  exact ⟨vd', vp', vl', vi', rfl, ⟨h1, h2, h3, h4⟩, hb⟩


end Go.Proofs.YthkfaeplmmlnlaaGreat
