/- The contract of the document's sends. The contract of the document's one, whole. -/
import Derived.Deep.AppendLies
import Derived.Deep.RegionLaw
import Derived.StillTailTactics
import Derived.Test.YthkfaeplmmlnlaaGreatRZ3
import Derived.Test.YthkfaeplmmlnlaaGreatRZ0
namespace Go.Proofs.YthkfaeplmmlnlaaGreat
open Go.RowKit Go.Deep
set_option linter.unusedVariables false
set_option maxRecDepth 100000

/-- an append turns no block of another type -/
theorem grown_keep7 {w w4 : World} {b C n q : Nat} {E t : TypeId} {v : Value} {xs : List Value} {c : Array Value} {f : Nat × Nat} (h : w.ownsRow b E C v n xs) (hg : w.grownBy w4 v.ownBlock) (hq : w.heap[q]? = some (.cells c t f)) (hne : t ≠ E) : w4.heap[q]? = some (.cells c t f) := by
  rw [hg.block q (lt_of_block hq) ?_]
  · exact hq
  · intro he
    exact own_not h hq hne he.symm
theorem grown_own {w w4 : World} {b b2 C C2 n n2 : Nat} {E E2 : TypeId} {v v2 : Value} {xs xs2 : List Value} (h : w.ownsRow b E C v n xs) (hg : w.grownBy w4 v.ownBlock) (k : w.ownsRow b2 E2 C2 v2 n2 xs2) (hne : E2 ≠ E) : w4.ownsRow b2 E2 C2 v2 n2 xs2 :=
  own_kept k fun g e => hg.block g (own_lt k e).2 fun he => own_apart k h hne e he.symm
theorem below_grown {w w4 : World} {b C n : Nat} {E : TypeId} {v : Value} {xs : List Value} (h : w.ownsRow b E C v n xs) (hb : b ≤ w.heap.size) (hg : w.grownBy w4 v.ownBlock) : Below b w w4 :=
  ⟨hg.os, hg.tape, hg.output, hg.size, fun k hk => hg.block k (by omega) fun e => by have := own_lt h e.symm; omega⟩
theorem news_cells7 (w2 : World) (cs : Array Value) (E : TypeId) : ∀ j u, cs.toList[j]? = some u → (w2.alloc (.cells cs E)).cell? ((⟨w2.heap.size, 0, none⟩ : Addr).add j) = some u := by
  intro j u h
  rw [add_plain, Nat.zero_add, Lib.cell_of_heap (heap_alloc_new w2 _), ← Array.getElem?_toList]
  exact h
theorem info_sent7 : (Tryz.prog.info? 97).map (fun i => (i.zero, i.size, i.bytes)) = some (some (.agg #[.int .i64 0, .int .i64 0, .int .i64 0]), 3, 24) := by kernel_rfl
section
variable {base P bg : Nat} {vw vs : Value} {r : Mch}
/-- one was sent -/
theorem RunAt.sent {u : World} (h : RunAt base P bg vw vs r u) (x : Snt) {w4 : World} {v' : Value}
    (hown : w4.ownsRow base 97 3 v' (r.ns + 1) (rowCells 3 (gS r.sn) r.ns ++ [.int .i64 x.dst, .int .i64 x.dl, .int .i64 x.pay])) (hg : u.grownBy w4 vs.ownBlock) :
    w4.heap[P]? = some (.cells #[.slice (some ⟨bg, 0, none⟩) 8 8, vw, vs, .int .i64 r.dice, .int .i64 (r.pc : Int), .int .i64 (r.n : Int), .int .i64 r.f] 131 (0, 0)) ∧
    RunAt base P bg vw v' { r with ns := r.ns + 1, sn := fun i => if i = r.ns then x else r.sn i } (w4.setCell ⟨P, 2, none⟩ v') := by
  have e1 : rowCells 3 (gS r.sn) r.ns = rowCells 3 (gS fun i => if i = r.ns then x else r.sn i) r.ns := by
    unfold rowCells
    refine List.map_congr_left fun k hk => ?_
    rw [List.mem_range] at hk
    have : k / 3 ≠ r.ns := by have := (Nat.div_lt_iff_lt_mul (show 0 < 3 by omega)).2 hk; omega
    simp only [gS, if_neg this]
  rw [e1, rowCells_succ (C := 3) (by omega) (gS fun i => if i = r.ns then x else r.sn i) r.ns [.int .i64 x.dst, .int .i64 x.dl, .int .i64 x.pay] rfl (fun j hj => by
    have : j = 0 ∨ j = 1 ∨ j = 2 := by omega
    rcases this with rfl | rfl | rfl <;> simp [gS])] at hown
  have hp := grown_keep7 h.s hg h.box (by decide)
  have hb := grown_keep7 h.s hg h.regs (by decide)
  have hne := h.ne
  refine ⟨hp, h.lo, h.lo2, (Below.heap_setCell w4 ⟨P, 2, none⟩ _ _ (by show bg ≠ P; omega)).trans hb, ?_, own_setCell (grown_own h.s hg h.w (by decide)) (own_not h.w h.box (by decide)), h.wne, own_setCell hown (own_not hown hp (by decide))⟩
  exact Joins.block_setCell (i := 2) hp v'

set_option maxHeartbeats 3200000 in
theorem sends7_any (op : Int) (i : Nat) (hi : i < 8) (j : Nat) (hj : j < 8) (k : Nat) (hk : k < 8) (lps : Int) (w : World) (hr : RunAt base P bg vw vs r w) (hbase : base ≤ w.heap.size) :
    Calls Tryz.prog 100 #[.pointer (some ⟨P, 0, none⟩), .agg #[.int .i64 op, .int .i64 (i : Int), .int .i64 (j : Int), .int .i64 (k : Int)], .int .i64 lps] w fun e w' =>
      e = .returned (.int .i64 (if r.g i < 0 ∨ lps ≤ r.g i then 6 else if 4 ≤ r.ns then 5 else 0)) ∧
      (∃ vs', RunAt base P bg vw vs' (if r.g i < 0 ∨ lps ≤ r.g i then r else if 4 ≤ r.ns then r else { r with ns := r.ns + 1, sn := fun q => if q = r.ns then ⟨r.g i, r.g j, r.g k⟩ else r.sn q }) w') ∧ Below base w w' := by
  obtain ⟨i0, hi0, hz0, hz1, hz2⟩ := info_parts info_sent7
  have X1 : (w.alloc (.cells #[.int .i64 op, .int .i64 (i : Int), .int .i64 (j : Int), .int .i64 (k : Int)] 99)).heap[w.heap.size]? = some (.cells #[.int .i64 op, .int .i64 (i : Int), .int .i64 (j : Int), .int .i64 (k : Int)] 99) := heap_alloc_new w _
  have B0 := Lib.hid (balloc w (.cells #[.int .i64 op, .int .i64 (i : Int), .int .i64 (j : Int), .int .i64 (k : Int)] 99))
  have RU := Lib.hid (hr.below B0.out)
  have HB := Lib.hid hbase
  have hXB0 := Lib.hid X1
  have hXP : Hid (w.heap.size ≠ P) := by show _ ≠ _; have := lt_of_block hr.box; omega
  obtain ⟨x0, x1, x2, x3⟩ := four_cells X1
  clear X1 hr hbase
  generalize hu : w.alloc (.cells #[.int .i64 op, .int .i64 (i : Int), .int .i64 (j : Int), .int .i64 (k : Int)] 99) = u at RU B0 x0 x1 x2 x3 hXB0
  have hXB := Lib.hid hXB0.out
  obtain ⟨p0, p1, p2, p3, p4, p5, p6, pf⟩ := RU.out.cells
  have gi := RU.out.reg hi
  have bi : ((i : Nat) : Int) < 8 := by omega
  have li : (0 : Int) ≤ ((i : Nat) : Int) := by omega
  have ti : ((i : Nat) : Int).toNat = i := by omega
  have gj := RU.out.reg hj
  have bj : ((j : Nat) : Int) < 8 := by omega
  have lj : (0 : Int) ≤ ((j : Nat) : Int) := by omega
  have tj : ((j : Nat) : Int).toNat = j := by omega
  have gk := RU.out.reg hk
  have bk : ((k : Nat) : Int) < 8 := by omega
  have lk : (0 : Int) ≤ ((k : Nat) : Int) := by omega
  have tk : ((k : Nat) : Int).toNat = k := by omega
  obtain ⟨az, cz, rfl⟩ := RU.out.form2
  by_cases h0 : r.g i < 0
  · have d0 : decide (r.g i < 0) = true := by simp [h0]
    rw [if_pos (Or.inl h0), if_pos (Or.inl h0)]
    clear h0
    go_enter Tryz.func100, Tryz.ntmps100
    go_upto_region 1 with fail
    try rw [hu]
    clear hu
    go_region
    go_wp2_with fail
    go_ret
    exact ⟨rfl, ⟨_, RU.out.drew⟩, (B0.out.mono HB.out).drew⟩
  · have d0 : decide (r.g i < 0) = false := by simp [h0]
    by_cases h1 : lps ≤ r.g i
    · have d1 : decide (lps ≤ r.g i) = true := by simp [h1]
      rw [if_pos (Or.inr h1), if_pos (Or.inr h1)]
      clear h0 h1
      go_enter Tryz.func100, Tryz.ntmps100
      go_upto_region 1 with fail
      try rw [hu]
      clear hu
      go_region
      go_wp2_with fail
      go_ret
      exact ⟨rfl, ⟨_, RU.out.drew⟩, (B0.out.mono HB.out).drew⟩
    · have d1 : decide (lps ≤ r.g i) = false := by simp [h1]
      have e1 : ¬ (r.g i < 0 ∨ lps ≤ r.g i) := by omega
      rw [if_neg e1, if_neg e1]
      clear e1
      by_cases h4 : 4 ≤ r.ns
      · have d4 : decide ((4 : Int) ≤ (r.ns : Int)) = true := by rw [decide_eq_true_eq]; omega
        rw [if_pos h4, if_pos h4]
        clear h0 h1 h4
        go_enter Tryz.func100, Tryz.ntmps100
        go_upto_region 1 with fail
        try rw [hu]
        clear hu
        go_region
        go_wp2_with fail
        go_ret
        exact ⟨rfl, ⟨_, RU.out.drew⟩, (B0.out.mono HB.out).drew⟩
      · have d4 : decide ((4 : Int) ≤ (r.ns : Int)) = false := by rw [decide_eq_false_iff_not]; omega
        rw [if_neg h4, if_neg h4]
        have hns : r.ns < 4 := by omega
        clear h0 h1 h4
        go_enter Tryz.func100, Tryz.ntmps100
        go_upto_region 1 with fail
        try rw [hu]
        clear hu
        go_region
        go_wp2_with fail
        have RD := Lib.hid RU.out.drew.drew
        have LD := Lib.hid (B0.out.mono HB.out).drew.drew
        have hX2 := Lib.hid (show u.drew.drew.heap[w.heap.size]? = some (.cells #[.int .i64 op, .int .i64 (i : Int), .int .i64 (j : Int), .int .i64 (k : Int)] 99) from hXB.out)
        have hus : base ≤ u.drew.drew.heap.size := Nat.le_trans HB.out B0.out.size
        clear x0 x1 x2 x3 p0 p1 p2 p3 p4 p5 p6 pf gi gj gk
        have ss : (fun w' => w'.cell? ⟨P, 0, none⟩ = some (.slice (some ⟨bg, 0, none⟩) 8 8) ∧ w'.cell? ⟨w.heap.size, 2, none⟩ = some (.int .i64 (j : Int)) ∧ w'.cell? ⟨w.heap.size, 3, none⟩ = some (.int .i64 (k : Int)) ∧ w'.cell? ⟨bg, j, none⟩ = some (.int .i64 (r.g j)) ∧ w'.cell? ⟨bg, k, none⟩ = some (.int .i64 (r.g k))) u.drew.drew := ⟨RD.out.cells.1, (four_cells hX2.out).2.2.1, (four_cells hX2.out).2.2.2, RD.out.reg hj, RD.out.reg hk⟩
        refine wp_region_held_drew (S := (fun w' => w'.cell? ⟨P, 0, none⟩ = some (.slice (some ⟨bg, 0, none⟩) 8 8) ∧ w'.cell? ⟨w.heap.size, 2, none⟩ = some (.int .i64 (j : Int)) ∧ w'.cell? ⟨w.heap.size, 3, none⟩ = some (.int .i64 (k : Int)) ∧ w'.cell? ⟨bg, j, none⟩ = some (.int .i64 (r.g j)) ∧ w'.cell? ⟨bg, k, none⟩ = some (.int .i64 (r.g k)))) (by kernel_rfl) ?_ (fun hHeld => ?_)
        · exact ss
        change wpAnyH _ _ _ _ _ _ _ _ (World.drew (World.drew u))
        clear RU B0 ss
        generalize u.drew.drew = u2 at *
        have RA := Lib.hid (RD.out.below (balloc u2 (.cells #[.int .i64 (r.g i), .int .i64 (r.g j), .int .i64 (r.g k)] 97)))
        have HN := Lib.hid (news_cells7 u2 #[.int .i64 (r.g i), .int .i64 (r.g j), .int .i64 (r.g k)] 97)
        have HBS : Hid (base ≤ (u2.alloc (.cells #[.int .i64 (r.g i), .int .i64 (r.g j), .int .i64 (r.g k)] 97)).heap.size) := by show _ ≤ _; rw [World.size_alloc]; omega
        have LA := Lib.hid (LD.out.trans ((balloc u2 (.cells #[.int .i64 (r.g i), .int .i64 (r.g j), .int .i64 (r.g k)] 97)).mono hus))
        have HXA := Lib.hid ((Below.heap_alloc u2 (.cells #[.int .i64 (r.g i), .int .i64 (r.g j), .int .i64 (r.g k)] 97) _ (lt_of_block hX2.out)).trans hX2.out)
        first | refine tq0 0 rfl ?_ | refine tq1 0 rfl ?_
        try go_frame
        first | refine tq0 1 rfl ?_ | refine tq1 1 rfl ?_
        try go_frame
        first | refine tq0 2 rfl ?_ | refine tq1 2 rfl ?_
        try go_frame
        first | refine tq0 3 rfl ?_ | refine tq1 3 rfl ?_
        try go_frame
        first | refine tq0 5 rfl ?_ | refine tq1 5 rfl ?_
        try go_frame
        first | refine tq0 6 rfl ?_ | refine tq1 6 rfl ?_
        try go_frame
        first | refine tq0 7 rfl ?_ | refine tq1 7 rfl ?_
        try go_frame
        first | refine tq0 8 rfl ?_ | refine tq1 8 rfl ?_
        try go_frame
        first | refine tq0 9 rfl ?_ | refine tq1 9 rfl ?_
        try go_frame
        first | refine tq0 10 rfl ?_ | refine tq1 10 rfl ?_
        try go_frame
        first | refine tq0 11 rfl ?_ | refine tq1 11 rfl ?_
        try go_frame
        first | refine tq0 12 rfl ?_ | refine tq1 12 rfl ?_
        try go_frame
        first | refine tq0 13 rfl ?_ | refine tq1 13 rfl ?_
        try go_frame
        first | refine tq0 14 rfl ?_ | refine tq1 14 rfl ?_
        try go_frame
        first | refine tq0 15 rfl ?_ | refine tq1 15 rfl ?_
        try go_frame
        first | refine tq0 16 rfl ?_ | refine tq1 16 rfl ?_
        try go_frame
        first | refine tq0 17 rfl ?_ | refine tq1 17 rfl ?_
        try go_frame
        first | refine tq0 18 rfl ?_ | refine tq1 18 rfl ?_
        try go_frame
        first | refine tq0 19 rfl ?_ | refine tq1 19 rfl ?_
        try go_frame
        first | refine tq0 20 rfl ?_ | refine tq1 20 rfl ?_
        try go_frame
        first | refine tq0 21 rfl ?_ | refine tq1 21 rfl ?_
        try go_frame
        first | refine tq0 22 rfl ?_ | refine tq1 22 rfl ?_
        try go_frame
        refine wpAnyH_ready (rs := [4, 23]) (by kernel_rfl) (by simp) ?_
        refine AllReadyH.cons (o := ⟨_, _, _, _, _, _⟩) rfl (fun K hK => ?_) (AllReadyH.cons (o := ⟨_, _, _, _, _, _⟩) rfl (fun K hK => ?_) AllReadyH.nil)
        · have p2 := RD.out.cells.2.2.1
          go_simp
          refine hK.out _ _ ?_ (fun hHeld => ?_)
          · exact hHeld
          clear hK K p2
          try go_frame
          refine wpAnyH_ready (rs := [23]) (by kernel_rfl) (by simp) ?_
          refine AllReadyH.cons (o := ⟨_, _, _, _, _, _⟩) rfl (fun K hK => ?_) AllReadyH.nil
          go_simp
          refine hK.out _ _ ?_ (fun hHeld => ?_)
          · exact ⟨RA.out.cells.1, (four_cells HXA.out).2.2.1, (four_cells HXA.out).2.2.2, RA.out.reg hj, RA.out.reg hk⟩
          clear hK K
          try go_frame
          refine wpAnyH_ready (rs := [24]) (by kernel_rfl) (by simp) ?_
          refine AllReadyH.cons (o := ⟨_, _, _, _, _, _⟩) rfl (fun K hK => ?_) AllReadyH.nil
          refine step_append_lies _ rfl (.tmp 33) (.tmp 52) 88 rfl base 97 i0 (.agg #[.int .i64 0, .int .i64 0, .int .i64 0]) 3 24 Tryz.underlying88 hi0 hz0 hz1 hz2 rfl (by decide) (.slice az r.ns cz) r.ns _ (by simp [Act.eval]) RA.out.s ⟨u2.heap.size, 0, none⟩ 1 1 [.int .i64 (r.g i), .int .i64 (r.g j), .int .i64 (r.g k)] (by simp [Act.eval]) rfl HN.out (by simp [Value.oneCell']) (by decide) (by unfold maxLen; omega) (by omega) HBS.out _ rfl ?_
          intro g1 cap1 w10 hown10 hgr _ _
          have R := Lib.hid (RA.out.sent ⟨r.g i, r.g j, r.g k⟩ hown10 hgr)
          have LG := Lib.hid (LA.out.trans (below_grown RA.out.s HBS.out hgr))
          have hX10 := Lib.hid (grown_keep7 RA.out.s hgr HXA.out (by decide))
          have hG10 := Lib.hid (grown_keep7 RA.out.s hgr RA.out.regs (by decide))
          have z2 : w10.cell? ⟨P, 2, none⟩ = some (.slice az r.ns cz) := by rw [Lib.cell_of_heap R.out.1]; rfl
          have zf : w10.frozen? ⟨P, 2, none⟩ = false := Lib.frozen_of_heap R.out.1 2
          have HP := Lib.hid RA.out.lo
          refine hK.out _ _ ?_ (fun hHeld => ?_)
          · exact ⟨by rw [Lib.cell_of_heap R.out.1]; rfl, (four_cells hX10.out).2.2.1, (four_cells hX10.out).2.2.2, by rw [Lib.cell_of_heap hG10.out]; exact regs_at r.g hj, by rw [Lib.cell_of_heap hG10.out]; exact regs_at r.g hk⟩
          clear hK K hown10 hgr
          try go_frame
          first | refine tq0 25 rfl ?_ | refine tq1 25 rfl ?_
          try go_frame
          first | refine tq0 26 rfl ?_ | refine tq1 26 rfl ?_
          try go_frame
          refine wpAnyH_ready (rs := [27]) (by kernel_rfl) (by simp) ?_
          refine AllReadyH.cons (o := ⟨_, _, _, _, _, _⟩) rfl (fun K hK => ?_) AllReadyH.nil
          go_simp
          have hXZ := Lib.hid ((Below.heap_setCell w10 ⟨P, 2, none⟩ (.slice (some ⟨g1, 0, none⟩) (r.ns + 1) cap1) w.heap.size hXP.out).trans hX10.out)
          refine hK.out _ _ ?_ (fun hHeld => ?_)
          · exact ⟨R.out.2.cells.1, (four_cells hXZ.out).2.2.1, (four_cells hXZ.out).2.2.2, R.out.2.reg hj, R.out.2.reg hk⟩
          clear hK K
          try go_frame
          refine wpAnyH_done (by kernel_rfl) ?_ _
          go_wp2_with fail
          go_ret
          exact ⟨rfl, ⟨_, R.out.2⟩, LG.out.setCell (p := ⟨P, 2, none⟩) HP.out _⟩
        · go_simp
          refine hK.out _ _ ?_ (fun hHeld => ?_)
          · exact ⟨RA.out.cells.1, (four_cells HXA.out).2.2.1, (four_cells HXA.out).2.2.2, RA.out.reg hj, RA.out.reg hk⟩
          clear hK K
          try go_frame
          refine wpAnyH_ready (rs := [4]) (by kernel_rfl) (by simp) ?_
          refine AllReadyH.cons (o := ⟨_, _, _, _, _, _⟩) rfl (fun K hK => ?_) AllReadyH.nil
          have p2 := RA.out.cells.2.2.1
          go_simp
          refine hK.out _ _ ?_ (fun hHeld => ?_)
          · exact hHeld
          clear hK K p2
          try go_frame
          refine wpAnyH_ready (rs := [24]) (by kernel_rfl) (by simp) ?_
          refine AllReadyH.cons (o := ⟨_, _, _, _, _, _⟩) rfl (fun K hK => ?_) AllReadyH.nil
          refine step_append_lies _ rfl (.tmp 33) (.tmp 52) 88 rfl base 97 i0 (.agg #[.int .i64 0, .int .i64 0, .int .i64 0]) 3 24 Tryz.underlying88 hi0 hz0 hz1 hz2 rfl (by decide) (.slice az r.ns cz) r.ns _ (by simp [Act.eval]) RA.out.s ⟨u2.heap.size, 0, none⟩ 1 1 [.int .i64 (r.g i), .int .i64 (r.g j), .int .i64 (r.g k)] (by simp [Act.eval]) rfl HN.out (by simp [Value.oneCell']) (by decide) (by unfold maxLen; omega) (by omega) HBS.out _ rfl ?_
          intro g1 cap1 w10 hown10 hgr _ _
          have R := Lib.hid (RA.out.sent ⟨r.g i, r.g j, r.g k⟩ hown10 hgr)
          have LG := Lib.hid (LA.out.trans (below_grown RA.out.s HBS.out hgr))
          have hX10 := Lib.hid (grown_keep7 RA.out.s hgr HXA.out (by decide))
          have hG10 := Lib.hid (grown_keep7 RA.out.s hgr RA.out.regs (by decide))
          have z2 : w10.cell? ⟨P, 2, none⟩ = some (.slice az r.ns cz) := by rw [Lib.cell_of_heap R.out.1]; rfl
          have zf : w10.frozen? ⟨P, 2, none⟩ = false := Lib.frozen_of_heap R.out.1 2
          have HP := Lib.hid RA.out.lo
          refine hK.out _ _ ?_ (fun hHeld => ?_)
          · exact ⟨by rw [Lib.cell_of_heap R.out.1]; rfl, (four_cells hX10.out).2.2.1, (four_cells hX10.out).2.2.2, by rw [Lib.cell_of_heap hG10.out]; exact regs_at r.g hj, by rw [Lib.cell_of_heap hG10.out]; exact regs_at r.g hk⟩
          clear hK K hown10 hgr
          try go_frame
          first | refine tq0 25 rfl ?_ | refine tq1 25 rfl ?_
          try go_frame
          first | refine tq0 26 rfl ?_ | refine tq1 26 rfl ?_
          try go_frame
          refine wpAnyH_ready (rs := [27]) (by kernel_rfl) (by simp) ?_
          refine AllReadyH.cons (o := ⟨_, _, _, _, _, _⟩) rfl (fun K hK => ?_) AllReadyH.nil
          go_simp
          have hXZ := Lib.hid ((Below.heap_setCell w10 ⟨P, 2, none⟩ (.slice (some ⟨g1, 0, none⟩) (r.ns + 1) cap1) w.heap.size hXP.out).trans hX10.out)
          refine hK.out _ _ ?_ (fun hHeld => ?_)
          · exact ⟨R.out.2.cells.1, (four_cells hXZ.out).2.2.1, (four_cells hXZ.out).2.2.2, R.out.2.reg hj, R.out.2.reg hk⟩
          clear hK K
          try go_frame
          refine wpAnyH_done (by kernel_rfl) ?_ _
          go_wp2_with fail
          go_ret
          exact ⟨rfl, ⟨_, R.out.2⟩, LG.out.setCell (p := ⟨P, 2, none⟩) HP.out _⟩
end

end Go.Proofs.YthkfaeplmmlnlaaGreat
namespace Go.Proofs.YthkfaeplmmlnlaaGreat
open Go.RowKit
set_option linter.unusedVariables false
set_option maxRecDepth 100000

section
variable {base P bg : Nat} {vw vs : Value} {r : Mch}
set_option maxHeartbeats 1600000 in
theorem one7_send (i : Nat) (hi : i < 8) (j : Nat) (hj : j < 8) (k : Nat) (hk : k < 8) (vI : Value) (pay me lps seed dice : Int) (w : World) (hr : RunAt base P bg vw vs r w) (hbase : base ≤ w.heap.size) :
    Calls Tryz.prog 89 #[.pointer (some ⟨P, 0, none⟩), .agg #[.int .i64 12, .int .i64 (i : Int), .int .i64 (j : Int), .int .i64 (k : Int)], .agg #[vI, .int .i64 pay, .int .i64 me, .int .i64 lps, .int .i64 seed, .int .i64 dice]] w fun e w' =>
      e = .returned (.int .i64 (if r.g i < 0 ∨ lps ≤ r.g i then 6 else if 4 ≤ r.ns then 5 else 0)) ∧
      (∃ vs', RunAt base P bg vw vs' (if r.g i < 0 ∨ lps ≤ r.g i then r else if 4 ≤ r.ns then r else { r with ns := r.ns + 1, sn := fun q => if q = r.ns then ⟨r.g i, r.g j, r.g k⟩ else r.sn q }) w') ∧ Below base w w' := by
  have B0 := Lib.hid (bthen (balloc w (.cells #[.int .i64 12, .int .i64 (i : Int), .int .i64 (j : Int), .int .i64 (k : Int)] 99)) (balloc _ (.cells #[vI, .int .i64 pay, .int .i64 me, .int .i64 lps, .int .i64 seed, .int .i64 dice] 87)))
  have RU := Lib.hid (hr.below B0.out)
  have HU := Lib.hid (sends7_any 12 i hi j hj k hk lps _ RU.out (Nat.le_trans hbase B0.out.size))
  have HB := Lib.hid hbase
  have X1 : ((w.alloc (.cells #[.int .i64 12, .int .i64 (i : Int), .int .i64 (j : Int), .int .i64 (k : Int)] 99)).alloc (.cells #[vI, .int .i64 pay, .int .i64 me, .int .i64 lps, .int .i64 seed, .int .i64 dice] 87)).heap[w.heap.size]? = some (.cells #[.int .i64 12, .int .i64 (i : Int), .int .i64 (j : Int), .int .i64 (k : Int)] 99) := (Below.heap_alloc _ _ _ (by rw [World.size_alloc]; omega)).trans (heap_alloc_new w _)
  have X2 : ((w.alloc (.cells #[.int .i64 12, .int .i64 (i : Int), .int .i64 (j : Int), .int .i64 (k : Int)] 99)).alloc (.cells #[vI, .int .i64 pay, .int .i64 me, .int .i64 lps, .int .i64 seed, .int .i64 dice] 87)).heap[w.heap.size + 1]? = some (.cells #[vI, .int .i64 pay, .int .i64 me, .int .i64 lps, .int .i64 seed, .int .i64 dice] 87) := by
    have := heap_alloc_new (w.alloc (.cells #[.int .i64 12, .int .i64 (i : Int), .int .i64 (j : Int), .int .i64 (k : Int)] 99)) (.cells #[vI, .int .i64 pay, .int .i64 me, .int .i64 lps, .int .i64 seed, .int .i64 dice] 87)
    rwa [World.size_alloc] at this
  obtain ⟨x0, x1, x2, x3⟩ := four_cells X1
  obtain ⟨n0, n1, n2, n3, n4, n5⟩ := six_cells7 X2
  clear X1 X2 hr hbase
  generalize (if r.g i < 0 ∨ lps ≤ r.g i then (6 : Int) else if 4 ≤ r.ns then 5 else 0) = fv at HU ⊢
  generalize (if r.g i < 0 ∨ lps ≤ r.g i then r else if 4 ≤ r.ns then r else { r with ns := r.ns + 1, sn := fun q => if q = r.ns then ⟨r.g i, r.g j, r.g k⟩ else r.sn q }) = r2 at HU ⊢
  generalize hu : (w.alloc (.cells #[.int .i64 12, .int .i64 (i : Int), .int .i64 (j : Int), .int .i64 (k : Int)] 99)).alloc (.cells #[vI, .int .i64 pay, .int .i64 me, .int .i64 lps, .int .i64 seed, .int .i64 dice] 87) = u at RU B0 HU x0 x1 x2 x3 n0 n1 n2 n3 n4 n5
  go_enter Tryz.func89, Tryz.ntmps89
  go_upto_region 1 with fail
  try rw [hu]
  clear hu
  go_wp2_with (go_at_call 100; refine HU.out.mono ?_; rintro e w5 ⟨rfl, hrun, hb5⟩)
  go_ret
  exact ⟨rfl, hrun, (B0.out.mono HB.out).trans hb5⟩

/-- all numbers within their 64 bits -/
structure Bd (r : Mch) : Prop where
  g : ∀ i, r64v (r.g i)
  w : ∀ k, r64v (r.w k)
theorem wrap64_r64 (x : Int) : r64v (wrap64 x) := by unfold r64v wrap64; omega
theorem upd_r64 {g : Nat → Int} {i : Nat} {v : Int} (h : ∀ i, r64v (g i)) (hv : r64v v) : ∀ k, r64v (upd g i v k) := by
  intro k
  unfold upd
  split
  · exact hv
  · exact h k
theorem oneR_bd {x : I4} {seed me : Int} {r : Mch} (hb : r64v x.b) (h : Bd r) : Bd (oneR x seed me r) := by
  unfold oneR
  split
  · exact ⟨upd_r64 h.g hb, h.w⟩
  split
  · exact ⟨upd_r64 h.g (h.g _), h.w⟩
  split
  · exact ⟨h.g, h.w⟩
  split
  · split
    · exact ⟨h.g, h.w⟩
    · exact h
  split
  · refine ⟨upd_r64 h.g ?_, h.w⟩
    unfold belowN
    split
    · constructor <;> decide
    · have := Int.emod_lt_of_pos (rollN seed me r.dice : Int) (show 0 < r.g x.b.toNat by omega)
      have := Int.emod_nonneg (rollN seed me r.dice : Int) (show r.g x.b.toNat ≠ 0 by omega)
      have := (h.g x.b.toNat).2
      constructor <;> omega
  split
  · exact ⟨h.g, h.w⟩
  split
  · exact ⟨upd_r64 h.g (h.w _), h.w⟩
  split
  · exact ⟨h.g, upd_r64 h.w (h.g _)⟩
  · refine ⟨upd_r64 h.g ?_, h.w⟩
    unfold twoV quotQ quotR
    repeat' split
    all_goals first | exact wrap64_r64 _ | (constructor <;> decide)

/-- each instruction that may be, but the end -/
theorem one7_any (x : I4) (len : Int) (hx : insB x len = true) (h0 : x.op ≠ 0) (hbd : Bd r) (vI : Value) (pay me lps seed dice : Int) (w : World) (hr : RunAt base P bg vw vs r w) (hbase : base ≤ w.heap.size) :
    Calls Tryz.prog 89 #[.pointer (some ⟨P, 0, none⟩), .agg #[.int .i64 x.op, .int .i64 x.a, .int .i64 x.b, .int .i64 x.c], .agg #[vI, .int .i64 pay, .int .i64 me, .int .i64 lps, .int .i64 seed, .int .i64 dice]] w fun e w' =>
      e = .returned (.int .i64 (oneF x lps r)) ∧ (∃ vs', RunAt base P bg vw vs' (if oneF x lps r = 0 then oneR x seed me r else r) w') ∧ Below base w w' := by
  obtain ⟨op, a, b, c⟩ := x
  have reg : ∀ n, regB n = true → ∃ i : Nat, n = (i : Int) ∧ i < 8 := fun n h => by
    obtain ⟨h1, h2⟩ := reg_bd h
    exact ⟨n.toNat, by omega, by omega⟩
  have plc : ∀ n, plcB n len = true → ∃ i : Nat, n = (i : Int) := fun n h => ⟨n.toNat, by have := plc_bd h; omega⟩
  unfold insB at hx
  simp only at hx h0 ⊢
  have hop : op = 1 ∨ op = 2 ∨ (3 ≤ op ∧ op ≤ 8) ∨ op = 9 ∨ op = 10 ∨ op = 11 ∨ op = 12 ∨ op = 13 ∨ op = 14 := by
    refine Classical.byContradiction fun hc => ?_
    have : kindI op = 6 := by unfold kindI; rw [if_neg (by omega), if_neg (by omega), if_neg (by omega), if_neg (by omega), if_neg (by omega), if_neg (by omega)]
    rw [this] at hx
    simp [kindB] at hx
  rcases hop with rfl | rfl | ⟨h3, h8⟩ | rfl | rfl | rfl | rfl | rfl | rfl
  · simp [kindI, kindB] at hx
    obtain ⟨i, rfl, hi⟩ := reg a hx
    refine (one7_set i hi b c vI pay me lps seed dice w hr hbase).mono fun e w' ⟨h1, h2, h3⟩ => ⟨h1, ⟨vs, ?_⟩, h3⟩
    simpa [oneF, oneR] using h2
  · simp [kindI, kindB] at hx
    obtain ⟨i, rfl, hi⟩ := reg a hx.1
    obtain ⟨j, rfl, hj⟩ := reg b hx.2
    refine (one7_move i hi j hj c vI pay me lps seed dice w hr hbase).mono fun e w' ⟨h1, h2, h3⟩ => ⟨h1, ⟨vs, ?_⟩, h3⟩
    simpa [oneF, oneR] using h2
  · have hk : kindI op = 5 := by unfold kindI; rw [if_neg (by omega), if_neg (by omega), if_neg (by omega), if_neg (by omega), if_neg (by omega), if_pos (by omega)]
    rw [hk] at hx
    simp [kindB] at hx
    obtain ⟨i, rfl, hi⟩ := reg a hx.1.1
    obtain ⟨j, rfl, hj⟩ := reg b hx.1.2
    obtain ⟨k, rfl, hk⟩ := reg c hx.2
    have e1 : oneF ⟨op, i, j, k⟩ lps r = twoF op (r.g k) := by
      unfold oneF twoF
      simp only [Int.toNat_natCast]
      rw [if_neg (by omega), if_neg (by omega), if_neg (by omega), if_neg (by omega)]
      by_cases h : op = 6 ∨ op = 7
      · rw [if_pos h]
        by_cases h2 : r.g k = 0
        · rw [if_pos h2, if_pos ⟨h, h2⟩]
        · rw [if_neg h2, if_neg fun h => h2 h.2]
      · rw [if_neg h, if_neg fun h2 => h h2.1]
    have e2 : oneR ⟨op, i, j, k⟩ seed me r = { r with g := upd r.g i (twoV op (r.g j) (r.g k)) } := by
      unfold oneR
      simp only [Int.toNat_natCast]
      rw [if_neg (by omega), if_neg (by omega), if_neg (by omega), if_neg (by omega), if_neg (by omega), if_neg (by omega), if_neg (by omega), if_neg (by omega)]
    rw [e1, e2]
    exact (one7_two op i hi j hj k hk vI pay me lps seed dice w hr hbase h3 h8).mono fun e w' ⟨h1, h2, h3⟩ => ⟨h1, ⟨vs, h2⟩, h3⟩
  · simp [kindI, kindB] at hx
    obtain ⟨p, rfl⟩ := plc a hx
    refine (one7_jump p b c vI pay me lps seed dice w hr hbase).mono fun e w' ⟨h1, h2, h3⟩ => ⟨h1, ⟨vs, ?_⟩, h3⟩
    simpa [oneF, oneR] using h2
  · simp [kindI, kindB] at hx
    obtain ⟨i, rfl, hi⟩ := reg a hx.1
    obtain ⟨p, rfl⟩ := plc b hx.2
    refine (one7_zero i hi p c vI pay me lps seed dice w hr hbase).mono fun e w' ⟨h1, h2, h3⟩ => ⟨h1, ⟨vs, ?_⟩, h3⟩
    simpa [oneF, oneR] using h2
  · simp [kindI, kindB] at hx
    obtain ⟨i, rfl, hi⟩ := reg a hx.1
    obtain ⟨j, rfl, hj⟩ := reg b hx.2
    refine (one7_roll i hi j hj c vI pay me lps seed dice w hr hbase (hbd.g j).2).mono fun e w' ⟨h1, h2, h3⟩ => ⟨?_, ⟨vs, ?_⟩, h3⟩
    · simpa [oneF] using h1
    · by_cases h : r.g j < 1
      · simpa [oneF, oneR, h] using h2
      · simpa [oneF, oneR, h] using h2
  · simp [kindI, kindB] at hx
    obtain ⟨i, rfl, hi⟩ := reg a hx.1.1
    obtain ⟨j, rfl, hj⟩ := reg b hx.1.2
    obtain ⟨k, rfl, hk⟩ := reg c hx.2
    refine (one7_send i hi j hj k hk vI pay me lps seed dice w hr hbase).mono fun e w' ⟨h1, ⟨vs', h2⟩, h3⟩ => ⟨?_, ⟨vs', ?_⟩, h3⟩
    · simpa [oneF] using h1
    · by_cases h : r.g i < 0 ∨ lps ≤ r.g i
      · simpa [oneF, oneR, h] using h2
      · by_cases h4 : 4 ≤ r.ns
        · simpa [oneF, oneR, h, h4] using h2
        · simpa [oneF, oneR, h, h4] using h2
  · simp [kindI, kindB] at hx
    obtain ⟨i, rfl, hi⟩ := reg a hx.1
    obtain ⟨j, rfl, hj⟩ := reg b hx.2
    refine (one7_load i hi j hj c vI pay me lps seed dice w hr hbase).mono fun e w' ⟨h1, h2, h3⟩ => ⟨?_, ⟨vs, ?_⟩, h3⟩
    · simpa [oneF] using h1
    · by_cases h : r.g j < 0 ∨ (r.nw : Int) ≤ r.g j
      · simpa [oneF, oneR, h] using h2
      · simpa [oneF, oneR, h] using h2
  · simp [kindI, kindB] at hx
    obtain ⟨i, rfl, hi⟩ := reg a hx.1
    obtain ⟨j, rfl, hj⟩ := reg b hx.2
    refine (one7_store i hi j hj c vI pay me lps seed dice w hr hbase).mono fun e w' ⟨h1, h2, h3⟩ => ⟨?_, ⟨vs, ?_⟩, h3⟩
    · simpa [oneF] using h1
    · by_cases h : r.g i < 0 ∨ (r.nw : Int) ≤ r.g i
      · simpa [oneF, oneR, h] using h2
      · simpa [oneF, oneR, h] using h2
end

end Go.Proofs.YthkfaeplmmlnlaaGreat
