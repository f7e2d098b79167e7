/- A call of both pools. -/
import Derived.Test.YtmflkkkbahghgaaGreatYZ29
namespace Go.Proofs.YtmflkkkbahghgaaGreat
open Go.RowKit Go.Deep
set_option linter.unusedVariables false
set_option linter.unusedSimpArgs false
set_option maxRecDepth 100000

theorem short15_any (kind l : Int) (s : ByteArray) (u : World) : Calls Tryz.prog 11 #[.agg #[.int .i64 kind, .int .i64 l, .string s]] u fun r u' => r = .returned (.bool (decide (s.size < 500))) ∧ Below u.heap.size u u' := by
  have B1 := Lib.hid (balloc u (.cells #[.int .i64 kind, .int .i64 l, .string s] 30))
  go_enter Tryz.func11, Tryz.ntmps11
  go_wp2_with fail
  go_ret
  refine ⟨?_, B1.out⟩
  first
    | rfl
    | (show Ending.returned (.bool (decide ((s.size : Int) < 500))) = _
       congr 2
       exact decide_eq_decide.2 (by omega))
theorem str_ne15 {a b : ByteArray} (h : a ≠ b) : ¬ a.toList = b.toList ∧ (a.toList == b.toList) = false ∧ decide (a.toList = b.toList) = false := by
  have : ¬ a.toList = b.toList := fun e => h (Go.WideShapes.bytes_inj (by rw [Lib.toList_data, Lib.toList_data] at e; exact e))
  exact ⟨this, by simp [this], by simp [this]⟩
section
variable {PM : StM} {PF PC : FlM} {base D P Y F c Q R : Nat} {p q : Plt} {S : Nat → Bool} {u : World}
/-- what a call of both leaves -/
def Did (PM : StM) (base D P Y F c Q R : Nat) (S : Nat → Bool) (p2 q2 : Plt) (u : World) (r : Ending) (u' : World) : Prop := ∃ b : Bool, r = .returned (.bool b) ∧ BqTo PM base D P Y F c Q R S p2 q2 u u'
set_option maxHeartbeats 12800000 in
theorem do15_any (I : Sh14 PM PF PC) (h : Bq PM base D P Y F c Q R p q S u) {c0 h0 c1 h1 : Nat} {e0 e1 : Int} (kp : OkW c0 e0 h0 p) (kq : OkW c1 e1 h1 q) (hc0 : c0 + 2112 ≤ 900000) (he0 : e0 ≤ 1000000) (hh0 : h0 ≤ 1000000) (he1 : e1 ≤ 1000000) (hh1 : h1 ≤ 1000000) (kind l : Int) (s : ByteArray) (hs : s.size ≤ 1000000) : Calls Tryz.prog 9 #[.pointer (some ⟨Y, 0, none⟩), .pointer (some ⟨R, 0, none⟩), .agg #[.int .i64 kind, .int .i64 l, .string s]] u (Did PM base D P Y F c Q R S (doQ p kind l s) (do15 q kind l s) u) := by
  have X1 := Lib.hid (heap_alloc_new u (.cells #[.int .i64 kind, .int .i64 l, .string s] 30))
  have B1 := Lib.hid (balloc u (.cells #[.int .i64 kind, .int .i64 l, .string s] 30))
  have H1 := Lib.hid (h.below I B1.out)
  have HI := Lib.hid I
  have LP := Lib.hid (kp.p (by omega) he0 hh0)
  have LX := Lib.hid (kq.lx he1 hh1)
  have KP := Lib.hid kp
  have KC := Lib.hid (And.intro hc0 (And.intro he0 hh0))
  obtain ⟨C, hC⟩ : ∃ C, C = u.heap.size := ⟨_, rfl⟩
  have NC : Hid (bqS S Y F Q R C = false) := Lib.hid (by
    cases x : bqS S Y F Q R C with
    | false => rfl
    | true => have := (h.lo I C x).2; omega)
  have HS := Lib.hid hs
  rw [← hC] at X1
  clear h hs I kp kq hc0 he0 hh0 he1 hh1
  go_enter Tryz.func9, Tryz.ntmps9
  go_upto_region 1 with fail
  rw [← hC]
  clear hC
  generalize u.alloc (.cells #[.int .i64 kind, .int .i64 l, .string s] 30) = w1 at *
  have x0 : w1.cell? ⟨C, 0, none⟩ = some (.int .i64 kind) := by rw [Lib.cell_of_heap X1.out]; rfl
  have x1 : w1.cell? ⟨C, 1, none⟩ = some (.int .i64 l) := by rw [Lib.cell_of_heap X1.out]; rfl
  have x2 : w1.cell? ⟨C, 2, none⟩ = some (.string s) := by rw [Lib.cell_of_heap X1.out]; rfl
  by_cases k01 : kind = 0 ∨ kind = 1
  · have E := Lib.hid (show doQ p kind l s = nwpP p s from by unfold doQ; rw [if_pos k01])
    have E2 := Lib.hid (show do15 q kind l s = nwpP q s from by unfold do15; rw [if_pos k01])
    rcases k01 with rfl | rfl
    · have H2 := Lib.hid (pNew_bq HI.out H1.out LP.out s HS.out)
      go_wp2_with fail
      refine (H2.out).mono ?_
      rintro r w2 ⟨rfl, t1⟩
      have X2 := Lib.hid (t1.blk NC.out X1.out)
      have y1 : w2.cell? ⟨C, 1, none⟩ = some (.int .i64 l) := by rw [Lib.cell_of_heap X2.out]; rfl
      have y2 : w2.cell? ⟨C, 2, none⟩ = some (.string s) := by rw [Lib.cell_of_heap X2.out]; rfl
      have T1 := Lib.hid t1
      have BN := Lib.hid (bdrew w2)
      have TD := Lib.hid (T1.out.trans fun S2 b2 => b2.stays HI.out BN.out)
      have H3 := Lib.hid (TD.out.call fun S2 b2 => xNew_bq HI.out b2 LX.out s HS.out)
      have z0 : w2.cell? ⟨R, 0, none⟩ = some (.pointer (some ⟨Q, 0, none⟩)) := by
        obtain ⟨S2, b2, _⟩ := T1.out
        exact b2.r.cells.choose_spec.choose_spec.1
      clear t1 H2 x0 x1 x2
      go_upto_region 5 with fail
      refine wp_region_held_drew (S := (fun w' => w'.cell? ⟨C, 2, none⟩ = some (.string s) ∧ w'.cell? ⟨R, 0, none⟩ = some (.pointer (some ⟨Q, 0, none⟩)))) (by kernel_rfl) ⟨y2, z0⟩ (fun hHeld => ?_)
      change wpAnyH _ _ _ _ _ _ _ _ (World.drew w2)
      have XD := Lib.hid ((BN.out.block C (lt_of_block X2.out)).trans X2.out)
      clear y1 y2 z0
      generalize World.drew w2 = w2d at *
      first | refine tq0 0 rfl ?_ | refine tq1 0 rfl ?_
      try go_frame
      first | refine tq0 1 rfl ?_ | refine tq1 1 rfl ?_
      try go_frame
      first | refine tq0 2 rfl ?_ | refine tq1 2 rfl ?_
      try go_frame
      first | refine tq0 3 rfl ?_ | refine tq1 3 rfl ?_
      try go_frame
      first | refine tq0 4 rfl ?_ | refine tq1 4 rfl ?_
      try go_frame
      first | refine tq0 5 rfl ?_ | refine tq1 5 rfl ?_
      try go_frame
      refine wpAnyH_ready (rs := [6]) (by kernel_rfl) (by simp) ?_
      refine AllReadyH.cons (o := ⟨_, _, _, _, _, _⟩) rfl (fun Kx hKx => ?_) AllReadyH.nil
      go_simp
      refine (H3.out).mono ?_
      rintro r w3 ⟨rfl, t2⟩
      have T2 := Lib.hid t2
      have X3 := Lib.hid (t2.blk NC.out X1.out)
      have z3 : w3.cell? ⟨R, 0, none⟩ = some (.pointer (some ⟨Q, 0, none⟩)) := by
        obtain ⟨S2, b2, _⟩ := t2
        exact b2.r.cells.choose_spec.choose_spec.1
      clear t2 H3
      refine hKx.out _ _ ⟨by rw [Lib.cell_of_heap X3.out]; rfl, z3⟩ (fun hHeld => ?_)
      clear hKx Kx z3
      try simp only [Act.put, List.setIfInBounds_toArray, List.set_cons_zero, List.set_cons_succ]
      first | refine tq0 7 rfl ?_ | refine tq1 7 rfl ?_
      try go_frame
      first | refine tq0 8 rfl ?_ | refine tq1 8 rfl ?_
      try go_frame
      first | refine tq0 9 rfl ?_ | refine tq1 9 rfl ?_
      try go_frame
      first | refine tq0 10 rfl ?_ | refine tq1 10 rfl ?_
      try go_frame
      first | refine tq0 11 rfl ?_ | refine tq1 11 rfl ?_
      try go_frame
      refine wpAnyH_done (by kernel_rfl) ?_ _
      clear hHeld
      have FF := Lib.hid (BqTo.from B1.out T2.out)
      clear T2
      generalize newE p.x s = g1 at *
      generalize newE q.x s = g2 at *
      generalize newI p.x s = f1 at *
      generalize newI q.x s = f2 at *
      by_cases c1 : f1 = f2
      · subst c1
        go_wp2_with fail
        go_ret
        exact ⟨_, rfl, by rw [E.out, E2.out]; exact FF.out⟩
      · have d1 : (f1 == f2) = false := by simp [c1]
        clear c1
        go_wp2_with fail
        go_ret
        exact ⟨_, rfl, by rw [E.out, E2.out]; exact FF.out⟩
    · have H2 := Lib.hid (pNew_bq HI.out H1.out LP.out s HS.out)
      go_wp2_with fail
      refine (H2.out).mono ?_
      rintro r w2 ⟨rfl, t1⟩
      have X2 := Lib.hid (t1.blk NC.out X1.out)
      have y1 : w2.cell? ⟨C, 1, none⟩ = some (.int .i64 l) := by rw [Lib.cell_of_heap X2.out]; rfl
      have y2 : w2.cell? ⟨C, 2, none⟩ = some (.string s) := by rw [Lib.cell_of_heap X2.out]; rfl
      have T1 := Lib.hid t1
      have BN := Lib.hid (bdrew w2)
      have TD := Lib.hid (T1.out.trans fun S2 b2 => b2.stays HI.out BN.out)
      have H3 := Lib.hid (TD.out.call fun S2 b2 => xNew_bq HI.out b2 LX.out s HS.out)
      have z0 : w2.cell? ⟨R, 0, none⟩ = some (.pointer (some ⟨Q, 0, none⟩)) := by
        obtain ⟨S2, b2, _⟩ := T1.out
        exact b2.r.cells.choose_spec.choose_spec.1
      clear t1 H2 x0 x1 x2
      go_upto_region 5 with fail
      refine wp_region_held_drew (S := (fun w' => w'.cell? ⟨C, 2, none⟩ = some (.string s) ∧ w'.cell? ⟨R, 0, none⟩ = some (.pointer (some ⟨Q, 0, none⟩)))) (by kernel_rfl) ⟨y2, z0⟩ (fun hHeld => ?_)
      change wpAnyH _ _ _ _ _ _ _ _ (World.drew w2)
      have XD := Lib.hid ((BN.out.block C (lt_of_block X2.out)).trans X2.out)
      clear y1 y2 z0
      generalize World.drew w2 = w2d at *
      first | refine tq0 0 rfl ?_ | refine tq1 0 rfl ?_
      try go_frame
      first | refine tq0 1 rfl ?_ | refine tq1 1 rfl ?_
      try go_frame
      first | refine tq0 2 rfl ?_ | refine tq1 2 rfl ?_
      try go_frame
      first | refine tq0 3 rfl ?_ | refine tq1 3 rfl ?_
      try go_frame
      first | refine tq0 4 rfl ?_ | refine tq1 4 rfl ?_
      try go_frame
      first | refine tq0 5 rfl ?_ | refine tq1 5 rfl ?_
      try go_frame
      refine wpAnyH_ready (rs := [6]) (by kernel_rfl) (by simp) ?_
      refine AllReadyH.cons (o := ⟨_, _, _, _, _, _⟩) rfl (fun Kx hKx => ?_) AllReadyH.nil
      go_simp
      refine (H3.out).mono ?_
      rintro r w3 ⟨rfl, t2⟩
      have T2 := Lib.hid t2
      have X3 := Lib.hid (t2.blk NC.out X1.out)
      have z3 : w3.cell? ⟨R, 0, none⟩ = some (.pointer (some ⟨Q, 0, none⟩)) := by
        obtain ⟨S2, b2, _⟩ := t2
        exact b2.r.cells.choose_spec.choose_spec.1
      clear t2 H3
      refine hKx.out _ _ ⟨by rw [Lib.cell_of_heap X3.out]; rfl, z3⟩ (fun hHeld => ?_)
      clear hKx Kx z3
      try simp only [Act.put, List.setIfInBounds_toArray, List.set_cons_zero, List.set_cons_succ]
      first | refine tq0 7 rfl ?_ | refine tq1 7 rfl ?_
      try go_frame
      first | refine tq0 8 rfl ?_ | refine tq1 8 rfl ?_
      try go_frame
      first | refine tq0 9 rfl ?_ | refine tq1 9 rfl ?_
      try go_frame
      first | refine tq0 10 rfl ?_ | refine tq1 10 rfl ?_
      try go_frame
      first | refine tq0 11 rfl ?_ | refine tq1 11 rfl ?_
      try go_frame
      refine wpAnyH_done (by kernel_rfl) ?_ _
      clear hHeld
      have FF := Lib.hid (BqTo.from B1.out T2.out)
      clear T2
      generalize newE p.x s = g1 at *
      generalize newE q.x s = g2 at *
      generalize newI p.x s = f1 at *
      generalize newI q.x s = f2 at *
      by_cases c1 : f1 = f2
      · subst c1
        go_wp2_with fail
        go_ret
        exact ⟨_, rfl, by rw [E.out, E2.out]; exact FF.out⟩
      · have d1 : (f1 == f2) = false := by simp [c1]
        clear c1
        go_wp2_with fail
        go_ret
        exact ⟨_, rfl, by rw [E.out, E2.out]; exact FF.out⟩
  · by_cases k2 : kind = 2
    · have E := Lib.hid (show doQ p kind l s = (holQ p l).1 from by unfold doQ; rw [if_neg k01, if_pos k2])
      have E2 := Lib.hid (show do15 q kind l s = (holR q l).1 from by unfold do15; rw [if_neg k01, if_pos k2])
      clear k01
      subst k2
      have H2 := Lib.hid (pHold_bq HI.out H1.out LP.out l)
      go_wp2_with fail
      refine (H2.out).mono ?_
      rintro r w2 ⟨rfl, t1⟩
      have X2 := Lib.hid (t1.blk NC.out X1.out)
      have y1 : w2.cell? ⟨C, 1, none⟩ = some (.int .i64 l) := by rw [Lib.cell_of_heap X2.out]; rfl
      have y2 : w2.cell? ⟨C, 2, none⟩ = some (.string s) := by rw [Lib.cell_of_heap X2.out]; rfl
      have H3 := Lib.hid (t1.call fun S2 b2 => xHold_bq HI.out b2 LX.out l)
      clear t1 H2 x0 x1 x2
      go_wp2_with fail
      refine (H3.out).mono ?_
      rintro r w3 ⟨rfl, t2⟩
      have T2 := Lib.hid t2
      clear t2 H3
      clear y1 y2
      have FF := Lib.hid (BqTo.from B1.out T2.out)
      clear T2
      generalize (holQ p l).2.2 = g1 at *
      generalize (holR q l).2.2 = g2 at *
      generalize (holQ p l).2.1 = f1 at *
      generalize (holR q l).2.1 = f2 at *
      by_cases c1 : f1 = f2
      · subst c1
        go_wp2_with fail
        go_ret
        exact ⟨_, rfl, by rw [E.out, E2.out]; exact FF.out⟩
      · obtain ⟨n1, n2, n3⟩ := str_ne15 c1
        clear c1
        go_wp2_with fail
        go_ret
        exact ⟨_, rfl, by rw [E.out, E2.out]; exact FF.out⟩
    · by_cases k3 : kind = 3
      · have E := Lib.hid (show doQ p kind l s = letP p l from by unfold doQ; rw [if_neg k01, if_neg k2, if_pos k3])
        have E2 := Lib.hid (show do15 q kind l s = letP q l from by unfold do15; rw [if_neg k01, if_neg k2, if_pos k3])
        clear k01 k2
        subst k3
        have H2 := Lib.hid (fun w (b2 : Bq PM base D P Y F c Q R p q S w) => pLet_bq HI.out b2 LP.out l)
        go_upto_region 12 with fail
        refine wp_region_held_drew (S := (fun w' => w'.cell? ⟨C, 1, none⟩ = some (.int .i64 l) ∧ w'.cell? ⟨C, 2, none⟩ = some (.string s))) (by kernel_rfl) ⟨x1, x2⟩ (fun hHeld => ?_)
        change wpAnyH _ _ _ _ _ _ _ _ (World.drew w1)
        have XD := Lib.hid (((bdrew w1).block C (lt_of_block X1.out)).trans X1.out)
        have HD := Lib.hid (H1.out.below HI.out (bdrew w1))
        have BD := Lib.hid (B1.out.trans ((bdrew w1).mono B1.out.size))
        clear x0 x1 x2
        generalize World.drew w1 = wd at *
        first | refine tq0 0 rfl ?_ | refine tq1 0 rfl ?_
        try go_frame
        first | refine tq0 1 rfl ?_ | refine tq1 1 rfl ?_
        try go_frame
        first | refine tq0 2 rfl ?_ | refine tq1 2 rfl ?_
        try go_frame
        first | refine tq0 4 rfl ?_ | refine tq1 4 rfl ?_
        try go_frame
        first | refine tq0 5 rfl ?_ | refine tq1 5 rfl ?_
        try go_frame
        first | refine tq0 6 rfl ?_ | refine tq1 6 rfl ?_
        try go_frame
        refine wpAnyH_ready (rs := [3]) (by kernel_rfl) (by simp) ?_
        refine AllReadyH.cons (o := ⟨_, _, _, _, _, _⟩) rfl (fun Kx hKx => ?_) AllReadyH.nil
        go_simp
        refine (H2.out wd HD.out).mono ?_
        rintro r w2 ⟨rfl, t1⟩
        have T1 := Lib.hid t1
        have X2 := Lib.hid (t1.blk NC.out XD.out)
        have H3 := Lib.hid (t1.call fun S2 b2 => xLet_bq HI.out b2 LX.out l)
        clear t1
        refine hKx.out _ _ ⟨by rw [Lib.cell_of_heap X2.out]; rfl, by rw [Lib.cell_of_heap X2.out]; rfl⟩ (fun hHeld => ?_)
        clear hKx Kx
        try simp only [Act.put, List.setIfInBounds_toArray, List.set_cons_zero, List.set_cons_succ]
        refine wpAnyH_ready (rs := [7]) (by kernel_rfl) (by simp) ?_
        refine AllReadyH.cons (o := ⟨_, _, _, _, _, _⟩) rfl (fun Kx hKx => ?_) AllReadyH.nil
        go_simp
        refine (H3.out).mono ?_
        rintro r w3 ⟨rfl, t2⟩
        have T2 := Lib.hid t2
        have X3 := Lib.hid (t2.blk NC.out XD.out)
        clear t2
        refine hKx.out _ _ ⟨by rw [Lib.cell_of_heap X3.out]; rfl, by rw [Lib.cell_of_heap X3.out]; rfl⟩ (fun hHeld => ?_)
        clear hKx Kx
        try simp only [Act.put, List.setIfInBounds_toArray, List.set_cons_zero, List.set_cons_succ]
        first | refine tq0 8 rfl ?_ | refine tq1 8 rfl ?_
        try go_frame
        first | refine tq0 9 rfl ?_ | refine tq1 9 rfl ?_
        try go_frame
        refine wpAnyH_done (by kernel_rfl) ?_ _
        clear hHeld
        have FF := Lib.hid (BqTo.from BD.out T2.out)
        clear T2
        go_wp2_with fail
        go_ret
        exact ⟨_, rfl, by rw [E.out, E2.out]; exact FF.out⟩
      · by_cases k4 : kind = 4
        · have E := Lib.hid (show doQ p kind l s = setP p l s from by unfold doQ; rw [if_neg k01, if_neg k2, if_neg k3, if_pos k4])
          have E2 := Lib.hid (show do15 q kind l s = setP q l s from by unfold do15; rw [if_neg k01, if_neg k2, if_neg k3, if_pos k4])
          clear k01 k2 k3
          subst k4
          have H2 := Lib.hid (fun w (b2 : Bq PM base D P Y F c Q R p q S w) => pSet_bq HI.out b2 LP.out l s)
          go_upto_region 14 with fail
          refine wp_region_held_drew (S := (fun w' => w'.cell? ⟨C, 1, none⟩ = some (.int .i64 l) ∧ w'.cell? ⟨C, 2, none⟩ = some (.string s))) (by kernel_rfl) ⟨x1, x2⟩ (fun hHeld => ?_)
          change wpAnyH _ _ _ _ _ _ _ _ (World.drew w1)
          have XD := Lib.hid (((bdrew w1).block C (lt_of_block X1.out)).trans X1.out)
          have HD := Lib.hid (H1.out.below HI.out (bdrew w1))
          have BD := Lib.hid (B1.out.trans ((bdrew w1).mono B1.out.size))
          clear x0 x1 x2
          generalize World.drew w1 = wd at *
          first | refine tq0 0 rfl ?_ | refine tq1 0 rfl ?_
          try go_frame
          first | refine tq0 1 rfl ?_ | refine tq1 1 rfl ?_
          try go_frame
          first | refine tq0 2 rfl ?_ | refine tq1 2 rfl ?_
          try go_frame
          first | refine tq0 3 rfl ?_ | refine tq1 3 rfl ?_
          try go_frame
          first | refine tq0 4 rfl ?_ | refine tq1 4 rfl ?_
          try go_frame
          first | refine tq0 6 rfl ?_ | refine tq1 6 rfl ?_
          try go_frame
          first | refine tq0 7 rfl ?_ | refine tq1 7 rfl ?_
          try go_frame
          first | refine tq0 8 rfl ?_ | refine tq1 8 rfl ?_
          try go_frame
          first | refine tq0 9 rfl ?_ | refine tq1 9 rfl ?_
          try go_frame
          first | refine tq0 10 rfl ?_ | refine tq1 10 rfl ?_
          try go_frame
          refine wpAnyH_ready (rs := [5]) (by kernel_rfl) (by simp) ?_
          refine AllReadyH.cons (o := ⟨_, _, _, _, _, _⟩) rfl (fun Kx hKx => ?_) AllReadyH.nil
          go_simp
          refine (H2.out wd HD.out).mono ?_
          rintro r w2 ⟨rfl, t1⟩
          have T1 := Lib.hid t1
          have X2 := Lib.hid (t1.blk NC.out XD.out)
          have H3 := Lib.hid (t1.call fun S2 b2 => xSet_bq HI.out b2 LX.out l s HS.out)
          clear t1
          refine hKx.out _ _ ⟨by rw [Lib.cell_of_heap X2.out]; rfl, by rw [Lib.cell_of_heap X2.out]; rfl⟩ (fun hHeld => ?_)
          clear hKx Kx
          try simp only [Act.put, List.setIfInBounds_toArray, List.set_cons_zero, List.set_cons_succ]
          refine wpAnyH_ready (rs := [11]) (by kernel_rfl) (by simp) ?_
          refine AllReadyH.cons (o := ⟨_, _, _, _, _, _⟩) rfl (fun Kx hKx => ?_) AllReadyH.nil
          go_simp
          refine (H3.out).mono ?_
          rintro r w3 ⟨rfl, t2⟩
          have T2 := Lib.hid t2
          have X3 := Lib.hid (t2.blk NC.out XD.out)
          clear t2
          refine hKx.out _ _ ⟨by rw [Lib.cell_of_heap X3.out]; rfl, by rw [Lib.cell_of_heap X3.out]; rfl⟩ (fun hHeld => ?_)
          clear hKx Kx
          try simp only [Act.put, List.setIfInBounds_toArray, List.set_cons_zero, List.set_cons_succ]
          first | refine tq0 12 rfl ?_ | refine tq1 12 rfl ?_
          try go_frame
          first | refine tq0 13 rfl ?_ | refine tq1 13 rfl ?_
          try go_frame
          refine wpAnyH_done (by kernel_rfl) ?_ _
          clear hHeld
          have FF := Lib.hid (BqTo.from BD.out T2.out)
          clear T2
          go_wp2_with fail
          go_ret
          exact ⟨_, rfl, by rw [E.out, E2.out]; exact FF.out⟩
        · by_cases k5 : kind = 5 ∨ kind = 6 ∨ kind = 7
          · have E := Lib.hid (show doQ p kind l s = (getQ p l).1 from by unfold doQ; rw [if_neg k01, if_neg k2, if_neg k3, if_neg k4, if_pos k5])
            have E2 := Lib.hid (show do15 q kind l s = (getR q l).1 from by unfold do15; rw [if_neg k01, if_neg k2, if_neg k3, if_neg k4, if_pos k5])
            clear k01 k2 k3 k4
            rcases k5 with rfl | rfl | rfl
            · have H2 := Lib.hid (pGet_bq HI.out H1.out LP.out l)
              go_wp2_with fail
              refine (H2.out).mono ?_
              rintro r w2 ⟨rfl, t1⟩
              have X2 := Lib.hid (t1.blk NC.out X1.out)
              have y1 : w2.cell? ⟨C, 1, none⟩ = some (.int .i64 l) := by rw [Lib.cell_of_heap X2.out]; rfl
              have y2 : w2.cell? ⟨C, 2, none⟩ = some (.string s) := by rw [Lib.cell_of_heap X2.out]; rfl
              have H3 := Lib.hid (t1.call fun S2 b2 => xGet_bq HI.out b2 LX.out l)
              clear t1 H2 x0 x1 x2
              go_wp2_with fail
              refine (H3.out).mono ?_
              rintro r w3 ⟨rfl, t2⟩
              have T2 := Lib.hid t2
              clear t2 H3
              clear y1 y2
              have FF := Lib.hid (BqTo.from B1.out T2.out)
              clear T2
              generalize (getQ p l).2.2 = g1 at *
              generalize (getR q l).2.2 = g2 at *
              generalize (getQ p l).2.1 = f1 at *
              generalize (getR q l).2.1 = f2 at *
              by_cases c1 : f1 = f2
              · subst c1
                go_wp2_with fail
                go_ret
                exact ⟨_, rfl, by rw [E.out, E2.out]; exact FF.out⟩
              · obtain ⟨n1, n2, n3⟩ := str_ne15 c1
                clear c1
                go_wp2_with fail
                go_ret
                exact ⟨_, rfl, by rw [E.out, E2.out]; exact FF.out⟩
            · have H2 := Lib.hid (pGet_bq HI.out H1.out LP.out l)
              go_wp2_with fail
              refine (H2.out).mono ?_
              rintro r w2 ⟨rfl, t1⟩
              have X2 := Lib.hid (t1.blk NC.out X1.out)
              have y1 : w2.cell? ⟨C, 1, none⟩ = some (.int .i64 l) := by rw [Lib.cell_of_heap X2.out]; rfl
              have y2 : w2.cell? ⟨C, 2, none⟩ = some (.string s) := by rw [Lib.cell_of_heap X2.out]; rfl
              have H3 := Lib.hid (t1.call fun S2 b2 => xGet_bq HI.out b2 LX.out l)
              clear t1 H2 x0 x1 x2
              go_wp2_with fail
              refine (H3.out).mono ?_
              rintro r w3 ⟨rfl, t2⟩
              have T2 := Lib.hid t2
              clear t2 H3
              clear y1 y2
              have FF := Lib.hid (BqTo.from B1.out T2.out)
              clear T2
              generalize (getQ p l).2.2 = g1 at *
              generalize (getR q l).2.2 = g2 at *
              generalize (getQ p l).2.1 = f1 at *
              generalize (getR q l).2.1 = f2 at *
              by_cases c1 : f1 = f2
              · subst c1
                go_wp2_with fail
                go_ret
                exact ⟨_, rfl, by rw [E.out, E2.out]; exact FF.out⟩
              · obtain ⟨n1, n2, n3⟩ := str_ne15 c1
                clear c1
                go_wp2_with fail
                go_ret
                exact ⟨_, rfl, by rw [E.out, E2.out]; exact FF.out⟩
            · have H2 := Lib.hid (pGet_bq HI.out H1.out LP.out l)
              go_wp2_with fail
              refine (H2.out).mono ?_
              rintro r w2 ⟨rfl, t1⟩
              have X2 := Lib.hid (t1.blk NC.out X1.out)
              have y1 : w2.cell? ⟨C, 1, none⟩ = some (.int .i64 l) := by rw [Lib.cell_of_heap X2.out]; rfl
              have y2 : w2.cell? ⟨C, 2, none⟩ = some (.string s) := by rw [Lib.cell_of_heap X2.out]; rfl
              have H3 := Lib.hid (t1.call fun S2 b2 => xGet_bq HI.out b2 LX.out l)
              clear t1 H2 x0 x1 x2
              go_wp2_with fail
              refine (H3.out).mono ?_
              rintro r w3 ⟨rfl, t2⟩
              have T2 := Lib.hid t2
              clear t2 H3
              clear y1 y2
              have FF := Lib.hid (BqTo.from B1.out T2.out)
              clear T2
              generalize (getQ p l).2.2 = g1 at *
              generalize (getR q l).2.2 = g2 at *
              generalize (getQ p l).2.1 = f1 at *
              generalize (getR q l).2.1 = f2 at *
              by_cases c1 : f1 = f2
              · subst c1
                go_wp2_with fail
                go_ret
                exact ⟨_, rfl, by rw [E.out, E2.out]; exact FF.out⟩
              · obtain ⟨n1, n2, n3⟩ := str_ne15 c1
                clear c1
                go_wp2_with fail
                go_ret
                exact ⟨_, rfl, by rw [E.out, E2.out]; exact FF.out⟩
          · by_cases k11 : kind = 11
            · have E := Lib.hid (show doQ p kind l s = drpP p l from by unfold doQ; rw [if_neg k01, if_neg k2, if_neg k3, if_neg k4, if_neg k5, if_pos k11])
              have E2 := Lib.hid (show do15 q kind l s = drpP q l from by unfold do15; rw [if_neg k01, if_neg k2, if_neg k3, if_neg k4, if_neg k5, if_pos k11])
              clear k01 k2 k3 k4 k5
              subst k11
              have H2 := Lib.hid (fun w (b2 : Bq PM base D P Y F c Q R p q S w) => pDrop_bq HI.out b2 LP.out l)
              go_upto_region 22 with fail
              refine wp_region_held_drew (S := (fun w' => w'.cell? ⟨C, 1, none⟩ = some (.int .i64 l) ∧ w'.cell? ⟨C, 2, none⟩ = some (.string s))) (by kernel_rfl) ⟨x1, x2⟩ (fun hHeld => ?_)
              change wpAnyH _ _ _ _ _ _ _ _ (World.drew w1)
              have XD := Lib.hid (((bdrew w1).block C (lt_of_block X1.out)).trans X1.out)
              have HD := Lib.hid (H1.out.below HI.out (bdrew w1))
              have BD := Lib.hid (B1.out.trans ((bdrew w1).mono B1.out.size))
              clear x0 x1 x2
              generalize World.drew w1 = wd at *
              first | refine tq0 0 rfl ?_ | refine tq1 0 rfl ?_
              try go_frame
              first | refine tq0 1 rfl ?_ | refine tq1 1 rfl ?_
              try go_frame
              first | refine tq0 2 rfl ?_ | refine tq1 2 rfl ?_
              try go_frame
              first | refine tq0 4 rfl ?_ | refine tq1 4 rfl ?_
              try go_frame
              first | refine tq0 5 rfl ?_ | refine tq1 5 rfl ?_
              try go_frame
              first | refine tq0 6 rfl ?_ | refine tq1 6 rfl ?_
              try go_frame
              refine wpAnyH_ready (rs := [3]) (by kernel_rfl) (by simp) ?_
              refine AllReadyH.cons (o := ⟨_, _, _, _, _, _⟩) rfl (fun Kx hKx => ?_) AllReadyH.nil
              go_simp
              refine (H2.out wd HD.out).mono ?_
              rintro r w2 ⟨rfl, t1⟩
              have T1 := Lib.hid t1
              have X2 := Lib.hid (t1.blk NC.out XD.out)
              have H3 := Lib.hid (t1.call fun S2 b2 => xDrop_bq HI.out b2 LX.out l)
              clear t1
              refine hKx.out _ _ ⟨by rw [Lib.cell_of_heap X2.out]; rfl, by rw [Lib.cell_of_heap X2.out]; rfl⟩ (fun hHeld => ?_)
              clear hKx Kx
              try simp only [Act.put, List.setIfInBounds_toArray, List.set_cons_zero, List.set_cons_succ]
              refine wpAnyH_ready (rs := [7]) (by kernel_rfl) (by simp) ?_
              refine AllReadyH.cons (o := ⟨_, _, _, _, _, _⟩) rfl (fun Kx hKx => ?_) AllReadyH.nil
              go_simp
              refine (H3.out).mono ?_
              rintro r w3 ⟨rfl, t2⟩
              have T2 := Lib.hid t2
              have X3 := Lib.hid (t2.blk NC.out XD.out)
              clear t2
              refine hKx.out _ _ ⟨by rw [Lib.cell_of_heap X3.out]; rfl, by rw [Lib.cell_of_heap X3.out]; rfl⟩ (fun hHeld => ?_)
              clear hKx Kx
              try simp only [Act.put, List.setIfInBounds_toArray, List.set_cons_zero, List.set_cons_succ]
              first | refine tq0 8 rfl ?_ | refine tq1 8 rfl ?_
              try go_frame
              first | refine tq0 9 rfl ?_ | refine tq1 9 rfl ?_
              try go_frame
              refine wpAnyH_done (by kernel_rfl) ?_ _
              clear hHeld
              have FF := Lib.hid (BqTo.from BD.out T2.out)
              clear T2
              go_wp2_with fail
              go_ret
              exact ⟨_, rfl, by rw [E.out, E2.out]; exact FF.out⟩
            · by_cases k12 : kind = 12
              · have E := Lib.hid (show doQ p kind l s = evcP p l from by unfold doQ; rw [if_neg k01, if_neg k2, if_neg k3, if_neg k4, if_neg k5, if_neg k11, if_pos k12])
                have E2 := Lib.hid (show do15 q kind l s = evcP q l from by unfold do15; rw [if_neg k01, if_neg k2, if_neg k3, if_neg k4, if_neg k5, if_neg k11, if_pos k12])
                clear k01 k2 k3 k4 k5 k11
                subst k12
                have H2 := Lib.hid (fun w (b2 : Bq PM base D P Y F c Q R p q S w) => pEvict_bq HI.out b2 LP.out l)
                go_upto_region 24 with fail
                refine wp_region_held_drew (S := (fun w' => w'.cell? ⟨C, 1, none⟩ = some (.int .i64 l) ∧ w'.cell? ⟨C, 2, none⟩ = some (.string s))) (by kernel_rfl) ⟨x1, x2⟩ (fun hHeld => ?_)
                change wpAnyH _ _ _ _ _ _ _ _ (World.drew w1)
                have XD := Lib.hid (((bdrew w1).block C (lt_of_block X1.out)).trans X1.out)
                have HD := Lib.hid (H1.out.below HI.out (bdrew w1))
                have BD := Lib.hid (B1.out.trans ((bdrew w1).mono B1.out.size))
                clear x0 x1 x2
                generalize World.drew w1 = wd at *
                first | refine tq0 0 rfl ?_ | refine tq1 0 rfl ?_
                try go_frame
                first | refine tq0 1 rfl ?_ | refine tq1 1 rfl ?_
                try go_frame
                first | refine tq0 2 rfl ?_ | refine tq1 2 rfl ?_
                try go_frame
                first | refine tq0 4 rfl ?_ | refine tq1 4 rfl ?_
                try go_frame
                first | refine tq0 5 rfl ?_ | refine tq1 5 rfl ?_
                try go_frame
                first | refine tq0 6 rfl ?_ | refine tq1 6 rfl ?_
                try go_frame
                refine wpAnyH_ready (rs := [3]) (by kernel_rfl) (by simp) ?_
                refine AllReadyH.cons (o := ⟨_, _, _, _, _, _⟩) rfl (fun Kx hKx => ?_) AllReadyH.nil
                go_simp
                refine (H2.out wd HD.out).mono ?_
                rintro r w2 ⟨rfl, t1⟩
                have T1 := Lib.hid t1
                have X2 := Lib.hid (t1.blk NC.out XD.out)
                have H3 := Lib.hid (t1.call fun S2 b2 => xEvict_bq HI.out b2 LX.out l)
                clear t1
                refine hKx.out _ _ ⟨by rw [Lib.cell_of_heap X2.out]; rfl, by rw [Lib.cell_of_heap X2.out]; rfl⟩ (fun hHeld => ?_)
                clear hKx Kx
                try simp only [Act.put, List.setIfInBounds_toArray, List.set_cons_zero, List.set_cons_succ]
                refine wpAnyH_ready (rs := [7]) (by kernel_rfl) (by simp) ?_
                refine AllReadyH.cons (o := ⟨_, _, _, _, _, _⟩) rfl (fun Kx hKx => ?_) AllReadyH.nil
                go_simp
                refine (H3.out).mono ?_
                rintro r w3 ⟨rfl, t2⟩
                have T2 := Lib.hid t2
                have X3 := Lib.hid (t2.blk NC.out XD.out)
                clear t2
                refine hKx.out _ _ ⟨by rw [Lib.cell_of_heap X3.out]; rfl, by rw [Lib.cell_of_heap X3.out]; rfl⟩ (fun hHeld => ?_)
                clear hKx Kx
                try simp only [Act.put, List.setIfInBounds_toArray, List.set_cons_zero, List.set_cons_succ]
                first | refine tq0 8 rfl ?_ | refine tq1 8 rfl ?_
                try go_frame
                first | refine tq0 9 rfl ?_ | refine tq1 9 rfl ?_
                try go_frame
                refine wpAnyH_done (by kernel_rfl) ?_ _
                clear hHeld
                have FF := Lib.hid (BqTo.from BD.out T2.out)
                clear T2
                go_wp2_with fail
                go_ret
                exact ⟨_, rfl, by rw [E.out, E2.out]; exact FF.out⟩
              · by_cases k13 : kind = 13
                · have E := Lib.hid (show doQ p kind l s = cmtP p from by unfold doQ; rw [if_neg k01, if_neg k2, if_neg k3, if_neg k4, if_neg k5, if_neg k11, if_neg k12, if_pos k13])
                  have E2 := Lib.hid (show do15 q kind l s = cmtP q from by unfold do15; rw [if_neg k01, if_neg k2, if_neg k3, if_neg k4, if_neg k5, if_neg k11, if_neg k12, if_pos k13])
                  clear k01 k2 k3 k4 k5 k11 k12
                  subst k13
                  have H2 := Lib.hid (pCommit_bq HI.out H1.out KP.out KC.out.1 KC.out.2.1 KC.out.2.2)
                  clear x1 x2
                  go_wp2_with fail
                  refine (H2.out).mono ?_
                  rintro r w2 ⟨rfl, t1⟩
                  have H3 := Lib.hid (t1.call fun S2 b2 => xCommit_bq HI.out b2 LX.out)
                  clear t1 H2
                  go_wp2_with fail
                  refine (H3.out).mono ?_
                  rintro r w3 ⟨rfl, t2⟩
                  have T2 := Lib.hid t2
                  clear t2 H3
                  have FF := Lib.hid (BqTo.from B1.out T2.out)
                  clear T2
                  go_wp2_with fail
                  go_ret
                  exact ⟨_, rfl, by rw [E.out, E2.out]; exact FF.out⟩
                · by_cases k14 : kind = 14
                  · have E := Lib.hid (show doQ p kind l s = aboP p from by unfold doQ; rw [if_neg k01, if_neg k2, if_neg k3, if_neg k4, if_neg k5, if_neg k11, if_neg k12, if_neg k13, if_pos k14])
                    have E2 := Lib.hid (show do15 q kind l s = aboP q from by unfold do15; rw [if_neg k01, if_neg k2, if_neg k3, if_neg k4, if_neg k5, if_neg k11, if_neg k12, if_neg k13, if_pos k14])
                    clear k01 k2 k3 k4 k5 k11 k12 k13
                    subst k14
                    have H2 := Lib.hid (xAbort_bq HI.out H1.out LX.out)
                    clear x1 x2
                    go_wp2_with fail
                    refine (H2.out).mono ?_
                    rintro r w2 ⟨rfl, t1⟩
                    have H3 := Lib.hid (t1.call fun S2 b2 => pAbort_bq HI.out b2 LP.out)
                    clear t1 H2
                    go_wp2_with fail
                    refine (H3.out).mono ?_
                    rintro r w3 ⟨rfl, t2⟩
                    have T2 := Lib.hid t2
                    clear t2 H3
                    have FF := Lib.hid (BqTo.from B1.out T2.out)
                    clear T2
                    go_wp2_with fail
                    go_ret
                    exact ⟨_, rfl, by rw [E.out, E2.out]; exact FF.out⟩
                  · have E := Lib.hid (show doQ p kind l s = putQ p l s from by unfold doQ; rw [if_neg k01, if_neg k2, if_neg k3, if_neg k4, if_neg k5, if_neg k11, if_neg k12, if_neg k13, if_neg k14])
                    have E2 := Lib.hid (show do15 q kind l s = putP q l s from by unfold do15; rw [if_neg k01, if_neg k2, if_neg k3, if_neg k4, if_neg k5, if_neg k11, if_neg k12, if_neg k13, if_neg k14])
                    obtain ⟨n0, n1⟩ : kind ≠ 0 ∧ kind ≠ 1 := by omega
                    obtain ⟨n5, n6, n7⟩ : kind ≠ 5 ∧ kind ≠ 6 ∧ kind ≠ 7 := by omega
                    have d0 : (kind == 0) = false := by simp [n0]
                    have d1 : (kind == 1) = false := by simp [n1]
                    have d2 : (kind == 2) = false := by simp [k2]
                    have d3 : (kind == 3) = false := by simp [k3]
                    have d4 : (kind == 4) = false := by simp [k4]
                    have d5 : (kind == 5) = false := by simp [n5]
                    have d6 : (kind == 6) = false := by simp [n6]
                    have d7 : (kind == 7) = false := by simp [n7]
                    have d11 : (kind == 11) = false := by simp [k11]
                    have d12 : (kind == 12) = false := by simp [k12]
                    have d13 : (kind == 13) = false := by simp [k13]
                    have d14 : (kind == 14) = false := by simp [k14]
                    clear k01 k5 n0 n1 n5 n6 n7 k2 k3 k4 k11 k12 k13 k14
                    have H2 := Lib.hid (fun w (b2 : Bq PM base D P Y F c Q R p q S w) => pPut_bq HI.out b2 LP.out l s)
                    go_upto_region 30 with fail
                    refine wp_region_held_drew (S := (fun w' => w'.cell? ⟨C, 1, none⟩ = some (.int .i64 l) ∧ w'.cell? ⟨C, 2, none⟩ = some (.string s))) (by kernel_rfl) ⟨x1, x2⟩ (fun hHeld => ?_)
                    change wpAnyH _ _ _ _ _ _ _ _ (World.drew w1)
                    have XD := Lib.hid (((bdrew w1).block C (lt_of_block X1.out)).trans X1.out)
                    have HD := Lib.hid (H1.out.below HI.out (bdrew w1))
                    have BD := Lib.hid (B1.out.trans ((bdrew w1).mono B1.out.size))
                    clear x0 x1 x2
                    generalize World.drew w1 = wd at *
                    first | refine tq0 0 rfl ?_ | refine tq1 0 rfl ?_
                    try go_frame
                    first | refine tq0 1 rfl ?_ | refine tq1 1 rfl ?_
                    try go_frame
                    first | refine tq0 2 rfl ?_ | refine tq1 2 rfl ?_
                    try go_frame
                    first | refine tq0 3 rfl ?_ | refine tq1 3 rfl ?_
                    try go_frame
                    first | refine tq0 4 rfl ?_ | refine tq1 4 rfl ?_
                    try go_frame
                    first | refine tq0 6 rfl ?_ | refine tq1 6 rfl ?_
                    try go_frame
                    first | refine tq0 7 rfl ?_ | refine tq1 7 rfl ?_
                    try go_frame
                    first | refine tq0 8 rfl ?_ | refine tq1 8 rfl ?_
                    try go_frame
                    first | refine tq0 9 rfl ?_ | refine tq1 9 rfl ?_
                    try go_frame
                    first | refine tq0 10 rfl ?_ | refine tq1 10 rfl ?_
                    try go_frame
                    refine wpAnyH_ready (rs := [5]) (by kernel_rfl) (by simp) ?_
                    refine AllReadyH.cons (o := ⟨_, _, _, _, _, _⟩) rfl (fun Kx hKx => ?_) AllReadyH.nil
                    go_simp
                    refine (H2.out wd HD.out).mono ?_
                    rintro r w2 ⟨rfl, t1⟩
                    have T1 := Lib.hid t1
                    have X2 := Lib.hid (t1.blk NC.out XD.out)
                    have H3 := Lib.hid (t1.call fun S2 b2 => xPut_bq HI.out b2 LX.out l s HS.out)
                    clear t1
                    refine hKx.out _ _ ⟨by rw [Lib.cell_of_heap X2.out]; rfl, by rw [Lib.cell_of_heap X2.out]; rfl⟩ (fun hHeld => ?_)
                    clear hKx Kx
                    try simp only [Act.put, List.setIfInBounds_toArray, List.set_cons_zero, List.set_cons_succ]
                    refine wpAnyH_ready (rs := [11]) (by kernel_rfl) (by simp) ?_
                    refine AllReadyH.cons (o := ⟨_, _, _, _, _, _⟩) rfl (fun Kx hKx => ?_) AllReadyH.nil
                    go_simp
                    refine (H3.out).mono ?_
                    rintro r w3 ⟨rfl, t2⟩
                    have T2 := Lib.hid t2
                    have X3 := Lib.hid (t2.blk NC.out XD.out)
                    clear t2
                    refine hKx.out _ _ ⟨by rw [Lib.cell_of_heap X3.out]; rfl, by rw [Lib.cell_of_heap X3.out]; rfl⟩ (fun hHeld => ?_)
                    clear hKx Kx
                    try simp only [Act.put, List.setIfInBounds_toArray, List.set_cons_zero, List.set_cons_succ]
                    first | refine tq0 12 rfl ?_ | refine tq1 12 rfl ?_
                    try go_frame
                    first | refine tq0 13 rfl ?_ | refine tq1 13 rfl ?_
                    try go_frame
                    refine wpAnyH_done (by kernel_rfl) ?_ _
                    clear hHeld
                    have FF := Lib.hid (BqTo.from BD.out T2.out)
                    clear T2
                    go_wp2_with fail
                    go_ret
                    exact ⟨_, rfl, by rw [E.out, E2.out]; exact FF.out⟩
end
end Go.Proofs.YtmflkkkbahghgaaGreat
