/- The law VmAgain, over whatever the program's Run is known to answer. -/
import Derived.Test.YtehdlpgopcoecaaVmAgainAid
namespace Go.Proofs.Ytehdlpgopcoecaa
open Go.RowKit Go.Deep
set_option linter.unusedVariables false
set_option maxRecDepth 100000

/-- what stays from the first run on -/
structure Ag (w : World) (pr : Nat → I4) (pl : Nat) (wd : Nat → Int) (nw : Nat) (inb : Array Value) (vc vw : Value) (ou : Ou) (m1 m2 ya yb : Nat) (oa ob : Array Value) (u : World) : Prop where
  code : u.ownsRow (w.heap.size + 1) 45 4 vc pl (rowCells 4 (gI pr) pl)
  words : u.ownsRow (w.heap.size + 1) 3 1 vw nw (rowCells 1 (gW wd) nw)
  low : Below w.heap.size w u
  inb : u.heap[w.heap.size]? = some (.cells inb 25 (0, 0))
  ya : u.heap[ya]? = some (.cells oa 30 (0, 0))
  yb : u.heap[yb]? = some (.cells ob 30 (0, 0))
  oa : OutAt m1 ou (.agg oa) u
  ob : OutAt m2 ou (.agg ob) u
theorem Ag.below {w : World} {pr : Nat → I4} {pl : Nat} {wd : Nat → Int} {nw : Nat} {inb : Array Value} {vc vw : Value} {ou : Ou} {m1 m2 ya yb : Nat} {oa ob : Array Value} {u u2 : World} (h : Ag w pr pl wd nw inb vc vw ou m1 m2 ya yb oa ob u) (k : Below u.heap.size u u2) : Ag w pr pl wd nw inb vc vw ou m1 m2 ya yb oa ob u2 :=
  ⟨own_below h.code k, own_below h.words k, bthen h.low k, (k.block _ (lt_of_block h.inb)).trans h.inb, (k.block _ (lt_of_block h.ya)).trans h.ya, (k.block _ (lt_of_block h.yb)).trans h.yb, h.oa.below k, h.ob.below k⟩

set_option maxHeartbeats 3200000 in
theorem vmAgain_core (pr : Nat → I4) (wd : Nat → Int) (ap aw ax : Option Addr) (pl cp nw cw xl cx : Nat) (pay me lps seed dice : Int) (w : World) (hp : Sl 4 (gI pr) pl (.slice ap pl cp) w) (hw : Sl 1 (gW wd) nw (.slice aw nw cw) w)
    (ou : Ou) (mn : Int)
    (HR : Hid (∀ u, Below w.heap.size w u → Calls Try.prog 10 #[.slice ap pl cp, .agg #[.slice aw nw cw, .int .i64 pay, .int .i64 me, .int .i64 lps, .int .i64 seed, .int .i64 dice]] u (Tells ou mn u)))
    (HRX : Hid (∀ u, Below w.heap.size w u → Calls Try.prog 10 #[.slice ax xl cx, .agg #[.slice aw nw cw, .int .i64 pay, .int .i64 me, .int .i64 lps, .int .i64 seed, .int .i64 dice]] u fun e w' => (∃ v, e = .returned v) ∧ Below u.heap.size u w'))
    (HD : Hid (∀ u, Below w.heap.size w u → Calls Try.prog 11 #[.slice ap pl cp, .agg #[.slice aw nw cw, .int .i64 pay, .int .i64 me, .int .i64 lps, .int .i64 seed, .int .i64 dice]] u (Tells ou mn u)))
    (HAW : Hid (∀ w, Calls Try.prog 9 #[] w fun e w' => e = .returned (.bool true) ∧ Below w.heap.size w w')) :
    Calls Try.prog 6 #[.slice ap pl cp, .agg #[.slice aw nw cw, .int .i64 pay, .int .i64 me, .int .i64 lps, .int .i64 seed, .int .i64 dice], .slice ax xl cx] w fun e w' => e = .returned (.bool true) ∧ Below w.heap.size w w' := by
  obtain ⟨i0, hi0, hz0, hz1, hz2⟩ := info_parts info_int7
  obtain ⟨j0, hj0, hk0, hk1, hk2⟩ := info_parts info_ins7
  have X1 := Lib.hid (heap_alloc_new w (.cells #[.slice aw nw cw, .int .i64 pay, .int .i64 me, .int .i64 lps, .int .i64 seed, .int .i64 dice] 25))
  have B1 := Lib.hid (balloc w (.cells #[.slice aw nw cw, .int .i64 pay, .int .i64 me, .int .i64 lps, .int .i64 seed, .int .i64 dice] 25))
  have HF := Lib.hid (few7_any ap aw pl cp nw cw pay me lps seed dice)
  have HPP := Lib.hid hp
  have HWW := Lib.hid hw
  have HFB : Hid (fewB pl nw = true → pl ≤ 100 ∧ nw ≤ 60) := fun h => by simpa [fewB] using h
  clear hp hw
  obtain ⟨n0, n1, n2, n3, n4, n5⟩ := six_cells7 X1.out
  generalize hu : w.alloc (.cells #[.slice aw nw cw, .int .i64 pay, .int .i64 me, .int .i64 lps, .int .i64 seed, .int .i64 dice] 25) = u at X1 B1 n0 n1 n2 n3 n4 n5
  generalize fewB pl nw = fb at HF HFB
  cases fb
  · go_enter Try.func6, Try.ntmps6
    go_upto_region 1 with fail
    try rw [hu]
    clear hu
    go_wp2_with (first
      | (go_at_call 8; refine (HF.out _).mono ?_; rintro e w1 ⟨rfl, hb1⟩; have B2 := Lib.hid (bthen B1.out hb1); clear hb1)
      | (go_at_call 9; refine (HAW.out _).mono ?_; rintro e w2 ⟨rfl, hb2⟩; have B3 := Lib.hid (bthen B2.out hb2); clear hb2))
    go_ret
    exact ⟨rfl, B3.out⟩
  · obtain ⟨hpl, hnw⟩ := HFB.out rfl
    by_cases hx : 100 < xl
    · have dx : decide ((100 : Int) < (xl : Int)) = true := by rw [decide_eq_true_eq]; omega
      clear hx
      go_enter Try.func6, Try.ntmps6
      go_upto_region 1 with fail
      try rw [hu]
      clear hu
      go_wp2_with (first
        | (go_at_call 8; refine (HF.out _).mono ?_; rintro e w1 ⟨rfl, hb1⟩; have B2 := Lib.hid (bthen B1.out hb1); clear hb1)
        | (go_at_call 9; refine (HAW.out _).mono ?_; rintro e w2 ⟨rfl, hb2⟩; have B3 := Lib.hid (bthen B2.out hb2); clear hb2))
      go_ret
      exact ⟨rfl, B3.out⟩
    · have dx : decide ((100 : Int) < (xl : Int)) = false := by rw [decide_eq_false_iff_not]; omega
      clear hx
      go_enter Try.func6, Try.ntmps6
      go_upto_region 1 with fail
      try rw [hu]
      clear hu
      go_upto_region 3 with (go_at_call 8; refine (HF.out _).mono ?_; rintro e w1 ⟨rfl, hb1⟩; have B2 := Lib.hid (bthen B1.out hb1); have X2 := Lib.hid ((hb1.block _ (lt_of_block X1.out)).trans X1.out); clear hb1 n0 n1 n2 n3 n4 n5; obtain ⟨n0, n1, n2, n3, n4, n5⟩ := six_cells7 X2.out)
      go_cut [7] (fun v wx => ∃ a c, v = .slice a nw c ∧ wx.ownsRow (w.heap.size + 1) 3 1 v nw (rowCells 1 (gW wd) nw) ∧ Below w.heap.size w wx ∧ wx.heap[w.heap.size]? = some (.cells #[.slice aw nw cw, .int .i64 pay, .int .i64 me, .int .i64 lps, .int .i64 seed, .int .i64 dice] 25))
      case first =>
        have XA := Lib.hid ((Below.heap_alloc w1 (.cells #[] 3) _ (lt_of_block X2.out)).trans X2.out)
        have BA := Lib.hid (bthen B2.out (balloc w1 (.cells #[] 3)))
        have EA := Lib.hid (World.ownsRow_lit (base := w.heap.size + 1) (e := 3) (size := 1) w1 #[] 0 (lt_of_block X2.out) (by decide) rfl)
        have WA := Lib.hid (HWW.out.below BA.out)
        obtain ⟨m0, m1, m2, m3, m4, m5⟩ := six_cells7 XA.out
        rcases Nat.eq_zero_or_pos nw with hz | hnz
        · have HZ := Lib.hid hz
          clear hz
          have hsrc : Src Try.prog i0.size 23 (.slice aw nw cw) 0 [] (w1.alloc (.cells #[] 3)) := by
            rw [HZ.out]
            cases aw with
            | none => exact Src.ofNil _ Try.underlying23 cw
            | some ad => exact Src.ofSlice _ Try.underlying23 ad 0 cw [] (by simp) (by simp) (by simp)
          have HS := Lib.hid hsrc
          clear hsrc
          go_wp2_with (at_builtin; refine wpList_append_nothing7 rfl _ _ 23 rfl 3 i0 Try.underlying23 hi0 _ 0 0 rfl (Nat.le_refl _) _ rfl HS.out ?_)
          go_meet
          exact ⟨_, 0, by rw [HZ.out], by rw [HZ.out, rowCells_zero]; exact EA.out, BA.out, XA.out⟩
        · obtain ⟨a2, c2, e2, l2, l3, k2⟩ := WA.out
          simp only [Value.slice.injEq, true_and] at e2
          obtain ⟨rfl, rfl⟩ := e2
          obtain ⟨bw, ow, rfl, hat⟩ := k2 hnz
          have HN := Lib.hid (at_news hat)
          have HB := Lib.hid (Nat.le_trans (lt_of_block X2.out) (balloc w1 (.cells #[] 3)).size)
          clear hat
          go_wp2_with (at_builtin; refine wpList_append_own _ rfl _ _ 23 rfl (w.heap.size + 1) 3 i0 (.int .i64 0) 1 8 Try.underlying23 hi0 hz0 hz1 hz2 rfl (by decide) _ 0 _ rfl EA.out ⟨bw, ow, none⟩ nw cw (rowCells 1 (gW wd) nw) rfl (rowCells_len _ _ _) HN.out (row_one _ _) (by unfold maxLen; omega) (by omega) HB.out ?_)
          intro v1 w10 hown hgr hnn
          have W10 := Lib.hid hown
          have B10 := Lib.hid (BA.out.trans ((below_grown EA.out HB.out hgr).mono (Nat.le_succ _)))
          have X10 := Lib.hid (grown_keep7 EA.out hgr XA.out (by decide))
          obtain ⟨a1, c1, rfl⟩ : ∃ a c, v1 = .slice a nw c := by
            rcases hown.2 with ⟨rfl, h⟩ | ⟨g, cap, cur, rfl, _⟩
            · omega
            · exact ⟨_, _, rfl⟩
          clear hown hgr hnn
          go_wp2_with fail
          go_meet
          exact ⟨_, _, rfl, W10.out, B10.out, X10.out⟩
      case rest =>
        obtain ⟨a7, c7, rfl, hw7, hb7, hx7⟩ := hcut
        have W7 := Lib.hid hw7
        have B7 := Lib.hid hb7
        have X7 := Lib.hid hx7
        clear hw7 hb7 hx7 B2 X2 n0 n1 n2 n3 n4 n5
        go_upto_region 4 with fail
        go_cut [8] (fun v wx => ∃ a c, v = .slice a pl c ∧ wx.ownsRow (w.heap.size + 1) 45 4 v pl (rowCells 4 (gI pr) pl) ∧ Below w.heap.size w wx ∧ wx.heap[w.heap.size]? = some (.cells #[.slice aw nw cw, .int .i64 pay, .int .i64 me, .int .i64 lps, .int .i64 seed, .int .i64 dice] 25) ∧ wx.ownsRow (w.heap.size + 1) 3 1 (.slice a7 nw c7) nw (rowCells 1 (gW wd) nw))
        case first =>
          have XA := Lib.hid ((Below.heap_alloc wc (.cells #[] 45) _ (lt_of_block X7.out)).trans X7.out)
          have BA := Lib.hid (B7.out.trans ((balloc wc (.cells #[] 45)).mono B7.out.size))
          have EA := Lib.hid (World.ownsRow_lit (base := w.heap.size + 1) (e := 45) (size := 4) wc #[] 0 (lt_of_block X7.out) (by decide) rfl)
          have WA := Lib.hid (World.ownsRow.alloc W7.out (.cells #[] 45))
          have PA := Lib.hid (HPP.out.below BA.out)
          rcases Nat.eq_zero_or_pos pl with hz | hnz
          · have HZ := Lib.hid hz
            clear hz
            have hsrc : Src Try.prog j0.size 22 (.slice ap pl cp) 0 [] (wc.alloc (.cells #[] 45)) := by
              rw [HZ.out]
              cases ap with
              | none => exact Src.ofNil _ Try.underlying22 cp
              | some ad => exact Src.ofSlice _ Try.underlying22 ad 0 cp [] (by simp) (by simp) (by simp)
            have HS := Lib.hid hsrc
            clear hsrc
            go_wp2_with (at_builtin; refine wpList_append_nothing7 rfl _ _ 22 rfl 45 j0 Try.underlying22 hj0 _ 0 0 rfl (Nat.le_refl _) _ rfl HS.out ?_)
            go_meet
            exact ⟨_, 0, by rw [HZ.out], by rw [HZ.out, rowCells_zero]; exact EA.out, BA.out, XA.out, WA.out⟩
          · obtain ⟨a2, c2, e2, l2, l3, k2⟩ := PA.out
            simp only [Value.slice.injEq, true_and] at e2
            obtain ⟨rfl, rfl⟩ := e2
            obtain ⟨bp, op, rfl, hat⟩ := k2 hnz
            have HN := Lib.hid (at_newsC (by decide) hat)
            have HB := Lib.hid (Nat.le_trans (lt_of_block X7.out) (balloc wc (.cells #[] 45)).size)
            clear hat
            go_wp2_with (at_builtin; refine wpList_append_own _ rfl _ _ 22 rfl (w.heap.size + 1) 45 j0 (.agg #[.int .i64 0, .int .i64 0, .int .i64 0, .int .i64 0]) 4 32 Try.underlying22 hj0 hk0 hk1 hk2 rfl (by decide) _ 0 _ rfl EA.out ⟨bp, op, none⟩ pl cp (rowCells 4 (gI pr) pl) rfl (rowCells_len _ _ _) HN.out (row_four _ _) (by unfold maxLen; omega) (by omega) HB.out ?_)
            intro v1 w10 hown hgr hnn
            have W10 := Lib.hid hown
            have B10 := Lib.hid (BA.out.trans ((below_grown EA.out HB.out hgr).mono (Nat.le_succ _)))
            have X10 := Lib.hid (grown_keep7 EA.out hgr XA.out (by decide))
            have Q10 := Lib.hid (grown_own EA.out hgr WA.out (by decide))
            obtain ⟨a1, c1, rfl⟩ : ∃ a c, v1 = .slice a pl c := by
              rcases hown.2 with ⟨rfl, h⟩ | ⟨g, cap, cur, rfl, _⟩
              · omega
              · exact ⟨_, _, rfl⟩
            clear hown hgr hnn
            go_wp2_with fail
            go_meet
            exact ⟨_, _, rfl, W10.out, B10.out, X10.out, Q10.out⟩
        case rest =>
          obtain ⟨a8, c8, rfl, hp8, hb8, hx8, hw8⟩ := hcut
          have P8 := Lib.hid hp8
          have B8 := Lib.hid hb8
          have X8 := Lib.hid hx8
          have W8 := Lib.hid hw8
          have hm8 : w.heap.size ≤ wc.heap.size := hb8.size
          obtain ⟨n0, n1, n2, n3, n4, n5⟩ := six_cells7 hx8
          clear hp8 hb8 hx8 hw8 W7 B7 X7
          go_wp2_with fail
          refine (HR.out _ B8.out).mono ?_
          rintro e w3 ⟨aw3, cw3, as3, cs3, rfl, ho3, hb3⟩
          have B3 := Lib.hid (bthen (bthen B8.out hb3) (balloc w3 (.cells #[.slice aw3 ou.nw cw3, .slice as3 ou.ns cs3, .int .i64 ou.dice, .int .i64 ou.f] 30)))
          have k3 := bthen hb3 (balloc w3 (.cells #[.slice aw3 ou.nw cw3, .slice as3 ou.ns cs3, .int .i64 ou.dice, .int .i64 ou.f] 30))
          have X3 := Lib.hid ((k3.block _ (lt_of_block X8.out)).trans X8.out)
          have P3 := Lib.hid (own_below P8.out k3)
          have W3 := Lib.hid (own_below W8.out k3)
          have O3 := Lib.hid (ho3.below (balloc w3 (.cells #[.slice aw3 ou.nw cw3, .slice as3 ou.ns cs3, .int .i64 ou.dice, .int .i64 ou.f] 30)))
          have Y3 := Lib.hid (heap_alloc_new w3 (.cells #[.slice aw3 ou.nw cw3, .slice as3 ou.ns cs3, .int .i64 ou.dice, .int .i64 ou.f] 30))
          have LWS : Hid (wc.heap.size ≤ (w3.alloc (.cells #[.slice aw3 ou.nw cw3, .slice as3 ou.ns cs3, .int .i64 ou.dice, .int .i64 ou.f] 30)).heap.size) := k3.size
          clear hb3 ho3 k3 n0 n1 n2 n3 n4 n5
          go_upto_region 6 with fail
          generalize w3.alloc (.cells #[.slice aw3 ou.nw cw3, .slice as3 ou.ns cs3, .int .i64 ou.dice, .int .i64 ou.f] 30) = u3 at *
          generalize w3.heap.size = ya at *
          obtain ⟨n0, n1, n2, n3, n4, n5⟩ := six_cells7 X3.out
          go_wp2_with fail
          refine (HRX.out _ B3.out).mono ?_
          rintro e w4 ⟨⟨v4, rfl⟩, hb4⟩
          have B4 := Lib.hid (bthen B3.out hb4)
          have X4 := Lib.hid ((hb4.block _ (lt_of_block X3.out)).trans X3.out)
          have P4 := Lib.hid (own_below P3.out hb4)
          have W4 := Lib.hid (own_below W3.out hb4)
          have O4 := Lib.hid (O3.out.below hb4)
          have Y4 := Lib.hid ((hb4.block _ (lt_of_block Y3.out)).trans Y3.out)
          have HGA : Hid (∀ g, (Value.slice aw3 ou.nw cw3).ownBlock = some g → g < w4.heap.size) := fun g hg => by
            obtain ⟨_, _, _, _, e9, r1, _⟩ := O4.out
            simp only [Value.agg.injEq, Array.mk.injEq, List.cons.injEq, Value.slice.injEq, true_and, and_true] at e9
            obtain ⟨⟨rfl, rfl⟩, _⟩ := e9
            exact (own_lt r1 hg).2
          have HGW : Hid (∀ g, (Value.slice a7 nw c7).ownBlock = some g → g < wc.heap.size) := fun g hg => (own_lt W8.out hg).2
          have hwc4 : wc.heap.size ≤ w4.heap.size := by have := LWS.out; have := hb4.size; omega
          clear hb4 n0 n1 n2 n3 n4 n5
          obtain ⟨n0, n1, n2, n3, n4, n5⟩ := six_cells7 X4.out
          go_wp2_with fail
          refine (HR.out _ B4.out).mono ?_
          rintro e w5 ⟨aw5, cw5, as5, cs5, rfl, ho5, hb5⟩
          have k5 := bthen hb5 (balloc w5 (.cells #[.slice aw5 ou.nw cw5, .slice as5 ou.ns cs5, .int .i64 ou.dice, .int .i64 ou.f] 30))
          have AG : Hid (Ag w pr pl wd nw #[.slice aw nw cw, .int .i64 pay, .int .i64 me, .int .i64 lps, .int .i64 seed, .int .i64 dice] (.slice a8 pl c8) (.slice a7 nw c7) ou wc.heap.size w4.heap.size ya w5.heap.size #[.slice aw3 ou.nw cw3, .slice as3 ou.ns cs3, .int .i64 ou.dice, .int .i64 ou.f] #[.slice aw5 ou.nw cw5, .slice as5 ou.ns cs5, .int .i64 ou.dice, .int .i64 ou.f] (w5.alloc (.cells #[.slice aw5 ou.nw cw5, .slice as5 ou.ns cs5, .int .i64 ou.dice, .int .i64 ou.f] 30))) :=
            ⟨own_below P4.out k5, own_below W4.out k5, bthen (bthen B4.out hb5) (balloc w5 _), (k5.block _ (lt_of_block X4.out)).trans X4.out, (k5.block _ (lt_of_block Y4.out)).trans Y4.out, heap_alloc_new w5 _, O4.out.below k5, ho5.below (balloc w5 _)⟩
          have hyb : wc.heap.size ≤ w5.heap.size := Nat.le_trans hwc4 hb5.size
          clear hb5 ho5 k5 n0 n1 n2 n3 n4 n5
          go_upto_region 8 with fail
          generalize w5.alloc (.cells #[.slice aw5 ou.nw cw5, .slice as5 ou.ns cs5, .int .i64 ou.dice, .int .i64 ou.f] 30) = u5 at *
          generalize w5.heap.size = yb at *
          have HS := Lib.hid (same7_refl ou _ _ u5 AG.out.oa AG.out.ob)
          have HI7 : Hid (∀ v, Below u5.heap.size u5 v → Calls Try.prog 16 #[.slice a7 nw c7, .slice aw nw cw] v fun e w' => e = .returned (.bool true) ∧ Below v.heap.size v w') := fun v k => by
            have := ints5_any wd wd nw nw _ _ v (own_sl (own_below AG.out.words k)) (HWW.out.below (bthen AG.out.low k))
            rw [sameW_refl] at this
            exact this
          have hmn : (mn != mn) = false := by simp
          obtain ⟨n0, n1, n2, n3, n4, n5⟩ := six_cells7 AG.out.inb
          obtain ⟨y0, y1, y2, y3⟩ := four_cells AG.out.ya
          obtain ⟨z0, z1, z2, z3⟩ := four_cells AG.out.yb
          go_upto_region 10 with (first
            | (go_at_call 12; refine HS.out.mono ?_; rintro e w6 ⟨rfl, hb6⟩; have L6 := Lib.hid hb6; clear n0 n1 n2 n3 n4 n5 y0 y1 y2 y3 z0 z1 z2 z3; obtain ⟨n0, n1, n2, n3, n4, n5⟩ := six_cells7 (AG.out.below hb6).inb; clear hb6)
            | (go_at_call 16; refine (HI7.out _ L6.out).mono ?_; rintro e w7 ⟨rfl, hb7⟩; have A7 := Lib.hid (AG.out.below (bthen L6.out hb7)); clear hb7))
          have HYB : Hid (wc.heap.size ≤ yb) := hyb
          clear HS HI7 AG n0 n1 n2 n3 n4 n5 hyb
          go_wp2_with fail
          go_loopw [13] (fun x wr => ∃ j : Nat, j ≤ pl ∧ x = .int .i64 j ∧ Below w7.heap.size w7 wr) (fun x _ => pl - (intOf x).toNat)
          case atStart => exact ⟨0, Nat.zero_le _, rfl, Below.refl _ _⟩
          case round =>
            obtain ⟨j, hj, rfl, hl⟩ := hrel
            have HL := Lib.hid hl
            have A9 := Lib.hid (A7.out.below hl)
            clear hl
            by_cases hlt : j < pl
            · obtain ⟨q1, q2, e1, m1, m2, k1⟩ := HPP.out.below A9.out.low
              obtain ⟨q3, q4, e2, m3, m4, k2⟩ := own_sl A9.out.code
              simp only [Value.slice.injEq, true_and] at e1 e2
              obtain ⟨rfl, rfl⟩ := e1
              obtain ⟨rfl, rfl⟩ := e2
              obtain ⟨b1, o1, rfl, hA⟩ := k1 (by omega)
              obtain ⟨b2, o2, rfl, hB⟩ := k2 (by omega)
              have c0 : wr.cell? ⟨b1, o1 + j * 4, none⟩ = some (.int .i64 (pr j).op) := hA.2 j hlt 0 (by omega)
              have c1 : wr.cell? ⟨b1, o1 + j * 4 + 1, none⟩ = some (.int .i64 (pr j).a) := hA.2 j hlt 1 (by omega)
              have c2 : wr.cell? ⟨b1, o1 + j * 4 + 2, none⟩ = some (.int .i64 (pr j).b) := hA.2 j hlt 2 (by omega)
              have c3 : wr.cell? ⟨b1, o1 + j * 4 + 3, none⟩ = some (.int .i64 (pr j).c) := hA.2 j hlt 3 (by omega)
              have d0 : wr.cell? ⟨b2, o2 + j * 4, none⟩ = some (.int .i64 (pr j).op) := hB.2 j hlt 0 (by omega)
              have d1 : wr.cell? ⟨b2, o2 + j * 4 + 1, none⟩ = some (.int .i64 (pr j).a) := hB.2 j hlt 1 (by omega)
              have d2 : wr.cell? ⟨b2, o2 + j * 4 + 2, none⟩ = some (.int .i64 (pr j).b) := hB.2 j hlt 2 (by omega)
              have d3 : wr.cell? ⟨b2, o2 + j * 4 + 3, none⟩ = some (.int .i64 (pr j).c) := hB.2 j hlt 3 (by omega)
              have hj2 : (j : Int) < (pl : Int) := by omega
              have hj0 : (0 : Int) ≤ (j : Int) := by omega
              have hjt : ((j : Nat) : Int).toNat = j := by omega
              clear hA hB k1 k2 m1 m2 m3 m4
              go_wp2_with fail
              go_region
              go_wp2_with fail
              go_roundw
              case rel => exact ⟨j + 1, by omega, by go_num, HL.out.drew⟩
              case measure => simp [intOf]; omega
            · obtain rfl : j = pl := by omega
              go_upto_region 15 with fail
              obtain ⟨u9, rfl⟩ : ∃ x, x = wr := ⟨wr, rfl⟩
              have RW : Hid (u9.ownsRow wc.heap.size 3 1 (.slice aw3 ou.nw cw3) ou.nw (rowCells 1 (gW ou.w) ou.nw)) := by
                obtain ⟨_, _, _, _, e9, r1, _⟩ := A9.out.oa
                simp only [Value.agg.injEq, Array.mk.injEq, List.cons.injEq, Value.slice.injEq, true_and, and_true] at e9
                obtain ⟨⟨rfl, rfl⟩, _⟩ := e9
                exact r1
              have hlow9 : wc.heap.size ≤ u9.heap.size := by have := lt_of_block A9.out.yb; have := HYB.out; omega
              have hnwb : ou.nw ≤ 9223372036854775807 := by
                obtain ⟨_, _, _, l1, l2, _⟩ := own_sl RW.out
                omega
              clear HL A7
              go_wp2_with fail
              go_loopw [14] (fun x wr => ∃ (j : Nat) (f : Nat → Int), j ≤ ou.nw ∧ x = .int .i64 j ∧ wr.ownsRow wc.heap.size 3 1 (.slice aw3 ou.nw cw3) ou.nw (rowCells 1 (gW f) ou.nw) ∧ u9.grownBy wr (Value.slice aw3 ou.nw cw3).ownBlock) (fun x _ => ou.nw - (intOf x).toNat)
              case atStart => exact ⟨0, ou.w, Nat.zero_le _, rfl, RW.out, ⟨rfl, rfl, rfl, Nat.le_refl _, fun _ _ _ => rfl⟩⟩
              case round =>
                obtain ⟨j, f, hj, rfl, hrow, hg⟩ := hrel
                have HG := Lib.hid hg
                have HROW := Lib.hid hrow
                have YR := Lib.hid ((hg.block _ (lt_of_block A9.out.ya) (fun h => own_not RW.out A9.out.ya (by decide) h.symm)).trans A9.out.ya)
                obtain ⟨y0, y1, y2, y3⟩ := four_cells YR.out
                by_cases hlt : j < ou.nw
                · obtain ⟨bw, cap, e1, hb1, cw1, cwf, hset⟩ := own_set hrow hlt
                  simp only [Value.slice.injEq, true_and] at e1
                  obtain ⟨rfl, rfl⟩ := e1
                  have HSET := Lib.hid hset
                  have cwf1 := cwf j
                  have hj2 : (j : Int) < (ou.nw : Int) := by omega
                  have hj0 : (0 : Int) ≤ (j : Int) := by omega
                  have hjt : ((j : Nat) : Int).toNat = j := by omega
                  clear hrow hg hset cwf
                  go_wp2_with fail
                  go_roundw
                  case rel => exact ⟨j + 1, _, by omega, by go_num, HSET.out 77, World.grownBy.trans HG.out ⟨rfl, rfl, rfl, by rw [World.size_setCell]; exact Nat.le_refl _, fun k _ hne => Below.heap_setCell _ _ _ _ (fun h => hne (by rw [h]; rfl))⟩⟩
                  case measure => simp [intOf]; omega
                · obtain rfl : j = ou.nw := by omega
                  have LR : Hid (Below wc.heap.size u9 wr) := below_grown RW.out hlow9 hg
                  have LW9 : Hid (Below w.heap.size w wr) := A9.out.low.trans (LR.out.mono hm8)
                  have XR : Hid (wr.heap[w.heap.size]? = _) := (hg.block _ (lt_of_block A9.out.inb) (fun h => own_not RW.out A9.out.inb (by decide) h.symm)).trans A9.out.inb
                  have ZR : Hid (wr.heap[yb]? = _) := (hg.block _ (lt_of_block A9.out.yb) (fun h => own_not RW.out A9.out.yb (by decide) h.symm)).trans A9.out.yb
                  have hga : ∀ g, (Value.slice aw3 ou.nw cw3).ownBlock = some g → wc.heap.size ≤ g := fun g hg => (own_lt RW.out hg).1
                  have WR : Hid (wr.ownsRow (w.heap.size + 1) 3 1 (.slice a7 nw c7) nw (rowCells 1 (gW wd) nw)) := own_kept A9.out.words fun g hgg => hg.block g (own_lt A9.out.words hgg).2 (fun h => by
                    have h1 := HGW.out g hgg
                    have h2 := hga g h.symm
                    omega)
                  have OR : Hid (OutAt w4.heap.size ou (.agg #[.slice aw5 ou.nw cw5, .slice as5 ou.ns cs5, .int .i64 ou.dice, .int .i64 ou.f]) wr) := by
                    obtain ⟨q1, q2, q3, q4, e9, r1, r2⟩ := A9.out.ob
                    refine ⟨q1, q2, q3, q4, e9, own_kept r1 fun g hgg => hg.block g (own_lt r1 hgg).2 (fun h => ?_), own_kept r2 fun g hgg => hg.block g (own_lt r2 hgg).2 (fun h => ?_)⟩
                    · have h1 := (own_lt r1 hgg).1
                      have h2 := HGA.out g h.symm
                      omega
                    · have h1 := (own_lt r2 hgg).1
                      have h2 := HGA.out g h.symm
                      omega
                  clear hg hrow HG HROW RW hga
                  go_upto_region 19 with fail
                  clear YR y0 y1 y2 y3
                  have HI9 : Hid (∀ v, Below w.heap.size w v → v.ownsRow (w.heap.size + 1) 3 1 (.slice a7 nw c7) nw (rowCells 1 (gW wd) nw) → Calls Try.prog 16 #[.slice a7 nw c7, .slice aw nw cw] v fun e w' => e = .returned (.bool true) ∧ Below v.heap.size v w') := fun v k kr => by
                    have := ints5_any wd wd nw nw _ _ v (own_sl kr) (HWW.out.below k)
                    rw [sameW_refl] at this
                    exact this
                  have HMU := Lib.hid (fun v (k : Below w.heap.size w v) => must7_any ou mn ap aw _ cp nw cw pay me lps seed dice v (fun u2 k2 => HD.out u2 (bthen k k2)))
                  have XD : Hid (wr.drew.heap[w.heap.size]? = some (.cells #[.slice aw nw cw, .int .i64 pay, .int .i64 me, .int .i64 lps, .int .i64 seed, .int .i64 dice] 25 (0, 0))) := XR.out
                  have ZD : Hid (wr.drew.heap[yb]? = some (.cells #[.slice aw5 ou.nw cw5, .slice as5 ou.ns cs5, .int .i64 ou.dice, .int .i64 ou.f] 30 (0, 0))) := ZR.out
                  have LD := Lib.hid LW9.out.drew
                  have WD := Lib.hid (own_below WR.out (bdrew wr))
                  have OD := Lib.hid (OR.out.below (bdrew wr))
                  clear LR LW9 XR ZR WR OR
                  by_cases hz : ou.nw = 0
                  · have dz : ((ou.nw : Int) == 0) = true := by simp [hz]
                    clear hz
                    refine wp_region_held_drew (S := (fun w' => (w'.cell? ⟨w.heap.size, 0, none⟩ = some (.slice aw nw cw) ∧ w'.cell? ⟨w.heap.size, 1, none⟩ = some (.int .i64 pay) ∧ w'.cell? ⟨w.heap.size, 2, none⟩ = some (.int .i64 me) ∧ w'.cell? ⟨w.heap.size, 3, none⟩ = some (.int .i64 lps) ∧ w'.cell? ⟨w.heap.size, 4, none⟩ = some (.int .i64 seed) ∧ w'.cell? ⟨w.heap.size, 5, none⟩ = some (.int .i64 dice)) ∧ (w'.cell? ⟨yb, 0, none⟩ = some (.slice aw5 ou.nw cw5) ∧ w'.cell? ⟨yb, 1, none⟩ = some (.slice as5 ou.ns cs5) ∧ w'.cell? ⟨yb, 2, none⟩ = some (.int .i64 ou.dice) ∧ w'.cell? ⟨yb, 3, none⟩ = some (.int .i64 ou.f)))) (by kernel_rfl) ?_ (fun hHeld => ?_)
                    · exact ⟨six_cells7 XD.out, four_cells ZD.out⟩
                    refine wpAnyH_ready (rs := [0]) (by kernel_rfl) (by simp) ?_
                    refine AllReadyH.cons (o := ⟨_, _, _, _, _, _⟩) rfl (fun K hK => ?_) AllReadyH.nil
                    go_simp
                    refine (HAW.out _).mono ?_
                    rintro e w10 ⟨rfl, hb10⟩
                    have L10 := Lib.hid (bthen LD.out hb10)
                    have X10 := Lib.hid ((hb10.block _ (lt_of_block XD.out)).trans XD.out)
                    have Z10 := Lib.hid ((hb10.block _ (lt_of_block ZD.out)).trans ZD.out)
                    have W10 := Lib.hid (own_below WD.out hb10)
                    have Q10 := Lib.hid (OD.out.below hb10)
                    clear hb10
                    go_wp2_with fail
                    refine hK.out _ _ ?_ (fun hHeld => ?_)
                    · exact ⟨six_cells7 X10.out, four_cells Z10.out⟩
                    clear hK K
                    try simp only [Act.put, List.setIfInBounds_toArray, List.set_cons_zero, List.set_cons_succ]
                    first
                      | (refine wpAnyH_take (i := 1) (oi := ⟨_, _, _, _, _, _⟩) (v := undef) rfl (by kernel_rfl) (by kernel_rfl) (by kernel_rfl) (fun _ _ _ h => h) (Or.inr ⟨by rfl, rfl⟩) (by assumption) ?_
                         try simp only [Act.put, List.setIfInBounds_toArray, List.set_cons_zero, List.set_cons_succ])
                      | (refine wpAnyH_take (i := 1) (oi := ⟨_, _, _, _, _, _⟩) (v := ?_) rfl (by kernel_rfl) (by kernel_rfl) (by kernel_rfl) (fun _ _ _ h => h) (Or.inl ⟨by rfl, ?_⟩) (by assumption) ?_
                         rotate_left
                         · intro w5 hSw
                           try dsimp only at hSw
                           go_simp
                           try with_reducible rfl
                         try simp only [Act.put, List.setIfInBounds_toArray, List.set_cons_zero, List.set_cons_succ])
                    first
                      | (refine wpAnyH_take (i := 2) (oi := ⟨_, _, _, _, _, _⟩) (v := undef) rfl (by kernel_rfl) (by kernel_rfl) (by kernel_rfl) (fun _ _ _ h => h) (Or.inr ⟨by rfl, rfl⟩) (by assumption) ?_
                         try simp only [Act.put, List.setIfInBounds_toArray, List.set_cons_zero, List.set_cons_succ])
                      | (refine wpAnyH_take (i := 2) (oi := ⟨_, _, _, _, _, _⟩) (v := ?_) rfl (by kernel_rfl) (by kernel_rfl) (by kernel_rfl) (fun _ _ _ h => h) (Or.inl ⟨by rfl, ?_⟩) (by assumption) ?_
                         rotate_left
                         · intro w5 hSw
                           try dsimp only at hSw
                           go_simp
                           try with_reducible rfl
                         try simp only [Act.put, List.setIfInBounds_toArray, List.set_cons_zero, List.set_cons_succ])
                    first
                      | (refine wpAnyH_take (i := 3) (oi := ⟨_, _, _, _, _, _⟩) (v := undef) rfl (by kernel_rfl) (by kernel_rfl) (by kernel_rfl) (fun _ _ _ h => h) (Or.inr ⟨by rfl, rfl⟩) (by assumption) ?_
                         try simp only [Act.put, List.setIfInBounds_toArray, List.set_cons_zero, List.set_cons_succ])
                      | (refine wpAnyH_take (i := 3) (oi := ⟨_, _, _, _, _, _⟩) (v := ?_) rfl (by kernel_rfl) (by kernel_rfl) (by kernel_rfl) (fun _ _ _ h => h) (Or.inl ⟨by rfl, ?_⟩) (by assumption) ?_
                         rotate_left
                         · intro w5 hSw
                           try dsimp only at hSw
                           go_simp
                           try with_reducible rfl
                         try simp only [Act.put, List.setIfInBounds_toArray, List.set_cons_zero, List.set_cons_succ])
                    first
                      | (refine wpAnyH_take (i := 4) (oi := ⟨_, _, _, _, _, _⟩) (v := undef) rfl (by kernel_rfl) (by kernel_rfl) (by kernel_rfl) (fun _ _ _ h => h) (Or.inr ⟨by rfl, rfl⟩) (by assumption) ?_
                         try simp only [Act.put, List.setIfInBounds_toArray, List.set_cons_zero, List.set_cons_succ])
                      | (refine wpAnyH_take (i := 4) (oi := ⟨_, _, _, _, _, _⟩) (v := ?_) rfl (by kernel_rfl) (by kernel_rfl) (by kernel_rfl) (fun _ _ _ h => h) (Or.inl ⟨by rfl, ?_⟩) (by assumption) ?_
                         rotate_left
                         · intro w5 hSw
                           try dsimp only at hSw
                           go_simp
                           try with_reducible rfl
                         try simp only [Act.put, List.setIfInBounds_toArray, List.set_cons_zero, List.set_cons_succ])
                    refine wpAnyH_ready (rs := [5]) (by kernel_rfl) (by simp) ?_
                    refine AllReadyH.cons (o := ⟨_, _, _, _, _, _⟩) rfl (fun K hK => ?_) AllReadyH.nil
                    go_simp
                    refine (HI9.out _ L10.out W10.out).mono ?_
                    rintro e w11 ⟨rfl, hb11⟩
                    have L11 := Lib.hid (bthen L10.out hb11)
                    have X11 := Lib.hid ((hb11.block _ (lt_of_block X10.out)).trans X10.out)
                    have Z11 := Lib.hid ((hb11.block _ (lt_of_block Z10.out)).trans Z10.out)
                    have Q11 := Lib.hid (Q10.out.below hb11)
                    clear hb11
                    go_wp2_with fail
                    refine hK.out _ _ ?_ (fun hHeld => ?_)
                    · exact ⟨six_cells7 X11.out, four_cells Z11.out⟩
                    clear hK K
                    try simp only [Act.put, List.setIfInBounds_toArray, List.set_cons_zero, List.set_cons_succ]
                    first
                      | (refine wpAnyH_take (i := 6) (oi := ⟨_, _, _, _, _, _⟩) (v := undef) rfl (by kernel_rfl) (by kernel_rfl) (by kernel_rfl) (fun _ _ _ h => h) (Or.inr ⟨by rfl, rfl⟩) (by assumption) ?_
                         try simp only [Act.put, List.setIfInBounds_toArray, List.set_cons_zero, List.set_cons_succ])
                      | (refine wpAnyH_take (i := 6) (oi := ⟨_, _, _, _, _, _⟩) (v := ?_) rfl (by kernel_rfl) (by kernel_rfl) (by kernel_rfl) (fun _ _ _ h => h) (Or.inl ⟨by rfl, ?_⟩) (by assumption) ?_
                         rotate_left
                         · intro w5 hSw
                           try dsimp only at hSw
                           go_simp
                           try with_reducible rfl
                         try simp only [Act.put, List.setIfInBounds_toArray, List.set_cons_zero, List.set_cons_succ])
                    first
                      | (refine wpAnyH_take (i := 7) (oi := ⟨_, _, _, _, _, _⟩) (v := undef) rfl (by kernel_rfl) (by kernel_rfl) (by kernel_rfl) (fun _ _ _ h => h) (Or.inr ⟨by rfl, rfl⟩) (by assumption) ?_
                         try simp only [Act.put, List.setIfInBounds_toArray, List.set_cons_zero, List.set_cons_succ])
                      | (refine wpAnyH_take (i := 7) (oi := ⟨_, _, _, _, _, _⟩) (v := ?_) rfl (by kernel_rfl) (by kernel_rfl) (by kernel_rfl) (fun _ _ _ h => h) (Or.inl ⟨by rfl, ?_⟩) (by assumption) ?_
                         rotate_left
                         · intro w5 hSw
                           try dsimp only at hSw
                           go_simp
                           try with_reducible rfl
                         try simp only [Act.put, List.setIfInBounds_toArray, List.set_cons_zero, List.set_cons_succ])
                    first
                      | (refine wpAnyH_take (i := 8) (oi := ⟨_, _, _, _, _, _⟩) (v := undef) rfl (by kernel_rfl) (by kernel_rfl) (by kernel_rfl) (fun _ _ _ h => h) (Or.inr ⟨by rfl, rfl⟩) (by assumption) ?_
                         try simp only [Act.put, List.setIfInBounds_toArray, List.set_cons_zero, List.set_cons_succ])
                      | (refine wpAnyH_take (i := 8) (oi := ⟨_, _, _, _, _, _⟩) (v := ?_) rfl (by kernel_rfl) (by kernel_rfl) (by kernel_rfl) (fun _ _ _ h => h) (Or.inl ⟨by rfl, ?_⟩) (by assumption) ?_
                         rotate_left
                         · intro w5 hSw
                           try dsimp only at hSw
                           go_simp
                           try with_reducible rfl
                         try simp only [Act.put, List.setIfInBounds_toArray, List.set_cons_zero, List.set_cons_succ])
                    first
                      | (refine wpAnyH_take (i := 9) (oi := ⟨_, _, _, _, _, _⟩) (v := undef) rfl (by kernel_rfl) (by kernel_rfl) (by kernel_rfl) (fun _ _ _ h => h) (Or.inr ⟨by rfl, rfl⟩) (by assumption) ?_
                         try simp only [Act.put, List.setIfInBounds_toArray, List.set_cons_zero, List.set_cons_succ])
                      | (refine wpAnyH_take (i := 9) (oi := ⟨_, _, _, _, _, _⟩) (v := ?_) rfl (by kernel_rfl) (by kernel_rfl) (by kernel_rfl) (fun _ _ _ h => h) (Or.inl ⟨by rfl, ?_⟩) (by assumption) ?_
                         rotate_left
                         · intro w5 hSw
                           try dsimp only at hSw
                           go_simp
                           try with_reducible rfl
                         try simp only [Act.put, List.setIfInBounds_toArray, List.set_cons_zero, List.set_cons_succ])
                    first
                      | (refine wpAnyH_take (i := 10) (oi := ⟨_, _, _, _, _, _⟩) (v := undef) rfl (by kernel_rfl) (by kernel_rfl) (by kernel_rfl) (fun _ _ _ h => h) (Or.inr ⟨by rfl, rfl⟩) (by assumption) ?_
                         try simp only [Act.put, List.setIfInBounds_toArray, List.set_cons_zero, List.set_cons_succ])
                      | (refine wpAnyH_take (i := 10) (oi := ⟨_, _, _, _, _, _⟩) (v := ?_) rfl (by kernel_rfl) (by kernel_rfl) (by kernel_rfl) (fun _ _ _ h => h) (Or.inl ⟨by rfl, ?_⟩) (by assumption) ?_
                         rotate_left
                         · intro w5 hSw
                           try dsimp only at hSw
                           go_simp
                           try with_reducible rfl
                         try simp only [Act.put, List.setIfInBounds_toArray, List.set_cons_zero, List.set_cons_succ])
                    first
                      | (refine wpAnyH_take (i := 11) (oi := ⟨_, _, _, _, _, _⟩) (v := undef) rfl (by kernel_rfl) (by kernel_rfl) (by kernel_rfl) (fun _ _ _ h => h) (Or.inr ⟨by rfl, rfl⟩) (by assumption) ?_
                         try simp only [Act.put, List.setIfInBounds_toArray, List.set_cons_zero, List.set_cons_succ])
                      | (refine wpAnyH_take (i := 11) (oi := ⟨_, _, _, _, _, _⟩) (v := ?_) rfl (by kernel_rfl) (by kernel_rfl) (by kernel_rfl) (fun _ _ _ h => h) (Or.inl ⟨by rfl, ?_⟩) (by assumption) ?_
                         rotate_left
                         · intro w5 hSw
                           try dsimp only at hSw
                           go_simp
                           try with_reducible rfl
                         try simp only [Act.put, List.setIfInBounds_toArray, List.set_cons_zero, List.set_cons_succ])
                    first
                      | (refine wpAnyH_take (i := 12) (oi := ⟨_, _, _, _, _, _⟩) (v := undef) rfl (by kernel_rfl) (by kernel_rfl) (by kernel_rfl) (fun _ _ _ h => h) (Or.inr ⟨by rfl, rfl⟩) (by assumption) ?_
                         try simp only [Act.put, List.setIfInBounds_toArray, List.set_cons_zero, List.set_cons_succ])
                      | (refine wpAnyH_take (i := 12) (oi := ⟨_, _, _, _, _, _⟩) (v := ?_) rfl (by kernel_rfl) (by kernel_rfl) (by kernel_rfl) (fun _ _ _ h => h) (Or.inl ⟨by rfl, ?_⟩) (by assumption) ?_
                         rotate_left
                         · intro w5 hSw
                           try dsimp only at hSw
                           go_simp
                           try with_reducible rfl
                         try simp only [Act.put, List.setIfInBounds_toArray, List.set_cons_zero, List.set_cons_succ])
                    first
                      | (refine wpAnyH_take (i := 13) (oi := ⟨_, _, _, _, _, _⟩) (v := undef) rfl (by kernel_rfl) (by kernel_rfl) (by kernel_rfl) (fun _ _ _ h => h) (Or.inr ⟨by rfl, rfl⟩) (by assumption) ?_
                         try simp only [Act.put, List.setIfInBounds_toArray, List.set_cons_zero, List.set_cons_succ])
                      | (refine wpAnyH_take (i := 13) (oi := ⟨_, _, _, _, _, _⟩) (v := ?_) rfl (by kernel_rfl) (by kernel_rfl) (by kernel_rfl) (fun _ _ _ h => h) (Or.inl ⟨by rfl, ?_⟩) (by assumption) ?_
                         rotate_left
                         · intro w5 hSw
                           try dsimp only at hSw
                           go_simp
                           try with_reducible rfl
                         try simp only [Act.put, List.setIfInBounds_toArray, List.set_cons_zero, List.set_cons_succ])
                    first
                      | (refine wpAnyH_take (i := 14) (oi := ⟨_, _, _, _, _, _⟩) (v := undef) rfl (by kernel_rfl) (by kernel_rfl) (by kernel_rfl) (fun _ _ _ h => h) (Or.inr ⟨by rfl, rfl⟩) (by assumption) ?_
                         try simp only [Act.put, List.setIfInBounds_toArray, List.set_cons_zero, List.set_cons_succ])
                      | (refine wpAnyH_take (i := 14) (oi := ⟨_, _, _, _, _, _⟩) (v := ?_) rfl (by kernel_rfl) (by kernel_rfl) (by kernel_rfl) (fun _ _ _ h => h) (Or.inl ⟨by rfl, ?_⟩) (by assumption) ?_
                         rotate_left
                         · intro w5 hSw
                           try dsimp only at hSw
                           go_simp
                           try with_reducible rfl
                         try simp only [Act.put, List.setIfInBounds_toArray, List.set_cons_zero, List.set_cons_succ])
                    first
                      | (refine wpAnyH_take (i := 15) (oi := ⟨_, _, _, _, _, _⟩) (v := undef) rfl (by kernel_rfl) (by kernel_rfl) (by kernel_rfl) (fun _ _ _ h => h) (Or.inr ⟨by rfl, rfl⟩) (by assumption) ?_
                         try simp only [Act.put, List.setIfInBounds_toArray, List.set_cons_zero, List.set_cons_succ])
                      | (refine wpAnyH_take (i := 15) (oi := ⟨_, _, _, _, _, _⟩) (v := ?_) rfl (by kernel_rfl) (by kernel_rfl) (by kernel_rfl) (fun _ _ _ h => h) (Or.inl ⟨by rfl, ?_⟩) (by assumption) ?_
                         rotate_left
                         · intro w5 hSw
                           try dsimp only at hSw
                           go_simp
                           try with_reducible rfl
                         try simp only [Act.put, List.setIfInBounds_toArray, List.set_cons_zero, List.set_cons_succ])
                    first
                      | (refine wpAnyH_take (i := 16) (oi := ⟨_, _, _, _, _, _⟩) (v := undef) rfl (by kernel_rfl) (by kernel_rfl) (by kernel_rfl) (fun _ _ _ h => h) (Or.inr ⟨by rfl, rfl⟩) (by assumption) ?_
                         try simp only [Act.put, List.setIfInBounds_toArray, List.set_cons_zero, List.set_cons_succ])
                      | (refine wpAnyH_take (i := 16) (oi := ⟨_, _, _, _, _, _⟩) (v := ?_) rfl (by kernel_rfl) (by kernel_rfl) (by kernel_rfl) (fun _ _ _ h => h) (Or.inl ⟨by rfl, ?_⟩) (by assumption) ?_
                         rotate_left
                         · intro w5 hSw
                           try dsimp only at hSw
                           go_simp
                           try with_reducible rfl
                         try simp only [Act.put, List.setIfInBounds_toArray, List.set_cons_zero, List.set_cons_succ])
                    first
                      | (refine wpAnyH_take (i := 17) (oi := ⟨_, _, _, _, _, _⟩) (v := undef) rfl (by kernel_rfl) (by kernel_rfl) (by kernel_rfl) (fun _ _ _ h => h) (Or.inr ⟨by rfl, rfl⟩) (by assumption) ?_
                         try simp only [Act.put, List.setIfInBounds_toArray, List.set_cons_zero, List.set_cons_succ])
                      | (refine wpAnyH_take (i := 17) (oi := ⟨_, _, _, _, _, _⟩) (v := ?_) rfl (by kernel_rfl) (by kernel_rfl) (by kernel_rfl) (fun _ _ _ h => h) (Or.inl ⟨by rfl, ?_⟩) (by assumption) ?_
                         rotate_left
                         · intro w5 hSw
                           try dsimp only at hSw
                           go_simp
                           try with_reducible rfl
                         try simp only [Act.put, List.setIfInBounds_toArray, List.set_cons_zero, List.set_cons_succ])
                    first
                      | (refine wpAnyH_take (i := 18) (oi := ⟨_, _, _, _, _, _⟩) (v := undef) rfl (by kernel_rfl) (by kernel_rfl) (by kernel_rfl) (fun _ _ _ h => h) (Or.inr ⟨by rfl, rfl⟩) (by assumption) ?_
                         try simp only [Act.put, List.setIfInBounds_toArray, List.set_cons_zero, List.set_cons_succ])
                      | (refine wpAnyH_take (i := 18) (oi := ⟨_, _, _, _, _, _⟩) (v := ?_) rfl (by kernel_rfl) (by kernel_rfl) (by kernel_rfl) (fun _ _ _ h => h) (Or.inl ⟨by rfl, ?_⟩) (by assumption) ?_
                         rotate_left
                         · intro w5 hSw
                           try dsimp only at hSw
                           go_simp
                           try with_reducible rfl
                         try simp only [Act.put, List.setIfInBounds_toArray, List.set_cons_zero, List.set_cons_succ])
                    first
                      | (refine wpAnyH_take (i := 19) (oi := ⟨_, _, _, _, _, _⟩) (v := undef) rfl (by kernel_rfl) (by kernel_rfl) (by kernel_rfl) (fun _ _ _ h => h) (Or.inr ⟨by rfl, rfl⟩) (by assumption) ?_
                         try simp only [Act.put, List.setIfInBounds_toArray, List.set_cons_zero, List.set_cons_succ])
                      | (refine wpAnyH_take (i := 19) (oi := ⟨_, _, _, _, _, _⟩) (v := ?_) rfl (by kernel_rfl) (by kernel_rfl) (by kernel_rfl) (fun _ _ _ h => h) (Or.inl ⟨by rfl, ?_⟩) (by assumption) ?_
                         rotate_left
                         · intro w5 hSw
                           try dsimp only at hSw
                           go_simp
                           try with_reducible rfl
                         try simp only [Act.put, List.setIfInBounds_toArray, List.set_cons_zero, List.set_cons_succ])
                    first
                      | (refine wpAnyH_take (i := 20) (oi := ⟨_, _, _, _, _, _⟩) (v := undef) rfl (by kernel_rfl) (by kernel_rfl) (by kernel_rfl) (fun _ _ _ h => h) (Or.inr ⟨by rfl, rfl⟩) (by assumption) ?_
                         try simp only [Act.put, List.setIfInBounds_toArray, List.set_cons_zero, List.set_cons_succ])
                      | (refine wpAnyH_take (i := 20) (oi := ⟨_, _, _, _, _, _⟩) (v := ?_) rfl (by kernel_rfl) (by kernel_rfl) (by kernel_rfl) (fun _ _ _ h => h) (Or.inl ⟨by rfl, ?_⟩) (by assumption) ?_
                         rotate_left
                         · intro w5 hSw
                           try dsimp only at hSw
                           go_simp
                           try with_reducible rfl
                         try simp only [Act.put, List.setIfInBounds_toArray, List.set_cons_zero, List.set_cons_succ])
                    first
                      | (refine wpAnyH_take (i := 21) (oi := ⟨_, _, _, _, _, _⟩) (v := undef) rfl (by kernel_rfl) (by kernel_rfl) (by kernel_rfl) (fun _ _ _ h => h) (Or.inr ⟨by rfl, rfl⟩) (by assumption) ?_
                         try simp only [Act.put, List.setIfInBounds_toArray, List.set_cons_zero, List.set_cons_succ])
                      | (refine wpAnyH_take (i := 21) (oi := ⟨_, _, _, _, _, _⟩) (v := ?_) rfl (by kernel_rfl) (by kernel_rfl) (by kernel_rfl) (fun _ _ _ h => h) (Or.inl ⟨by rfl, ?_⟩) (by assumption) ?_
                         rotate_left
                         · intro w5 hSw
                           try dsimp only at hSw
                           go_simp
                           try with_reducible rfl
                         try simp only [Act.put, List.setIfInBounds_toArray, List.set_cons_zero, List.set_cons_succ])
                    first
                      | (refine wpAnyH_take (i := 22) (oi := ⟨_, _, _, _, _, _⟩) (v := undef) rfl (by kernel_rfl) (by kernel_rfl) (by kernel_rfl) (fun _ _ _ h => h) (Or.inr ⟨by rfl, rfl⟩) (by assumption) ?_
                         try simp only [Act.put, List.setIfInBounds_toArray, List.set_cons_zero, List.set_cons_succ])
                      | (refine wpAnyH_take (i := 22) (oi := ⟨_, _, _, _, _, _⟩) (v := ?_) rfl (by kernel_rfl) (by kernel_rfl) (by kernel_rfl) (fun _ _ _ h => h) (Or.inl ⟨by rfl, ?_⟩) (by assumption) ?_
                         rotate_left
                         · intro w5 hSw
                           try dsimp only at hSw
                           go_simp
                           try with_reducible rfl
                         try simp only [Act.put, List.setIfInBounds_toArray, List.set_cons_zero, List.set_cons_succ])
                    first
                      | (refine wpAnyH_take (i := 23) (oi := ⟨_, _, _, _, _, _⟩) (v := undef) rfl (by kernel_rfl) (by kernel_rfl) (by kernel_rfl) (fun _ _ _ h => h) (Or.inr ⟨by rfl, rfl⟩) (by assumption) ?_
                         try simp only [Act.put, List.setIfInBounds_toArray, List.set_cons_zero, List.set_cons_succ])
                      | (refine wpAnyH_take (i := 23) (oi := ⟨_, _, _, _, _, _⟩) (v := ?_) rfl (by kernel_rfl) (by kernel_rfl) (by kernel_rfl) (fun _ _ _ h => h) (Or.inl ⟨by rfl, ?_⟩) (by assumption) ?_
                         rotate_left
                         · intro w5 hSw
                           try dsimp only at hSw
                           go_simp
                           try with_reducible rfl
                         try simp only [Act.put, List.setIfInBounds_toArray, List.set_cons_zero, List.set_cons_succ])
                    first
                      | (refine wpAnyH_take (i := 24) (oi := ⟨_, _, _, _, _, _⟩) (v := undef) rfl (by kernel_rfl) (by kernel_rfl) (by kernel_rfl) (fun _ _ _ h => h) (Or.inr ⟨by rfl, rfl⟩) (by assumption) ?_
                         try simp only [Act.put, List.setIfInBounds_toArray, List.set_cons_zero, List.set_cons_succ])
                      | (refine wpAnyH_take (i := 24) (oi := ⟨_, _, _, _, _, _⟩) (v := ?_) rfl (by kernel_rfl) (by kernel_rfl) (by kernel_rfl) (fun _ _ _ h => h) (Or.inl ⟨by rfl, ?_⟩) (by assumption) ?_
                         rotate_left
                         · intro w5 hSw
                           try dsimp only at hSw
                           go_simp
                           try with_reducible rfl
                         try simp only [Act.put, List.setIfInBounds_toArray, List.set_cons_zero, List.set_cons_succ])
                    refine wpAnyH_done (by kernel_rfl) ?_ _
                    go_wp2_with fail
                    go_ret
                    exact ⟨rfl, L11.out⟩
                  · have dz : ((ou.nw : Int) == 0) = false := by simp [hz]
                    clear hz
                    by_cases hm : mn = 0
                    · have dm : (mn != 0) = false := by simp [hm]
                      clear hm
                      refine wp_region_held_drew (S := (fun w' => (w'.cell? ⟨w.heap.size, 0, none⟩ = some (.slice aw nw cw) ∧ w'.cell? ⟨w.heap.size, 1, none⟩ = some (.int .i64 pay) ∧ w'.cell? ⟨w.heap.size, 2, none⟩ = some (.int .i64 me) ∧ w'.cell? ⟨w.heap.size, 3, none⟩ = some (.int .i64 lps) ∧ w'.cell? ⟨w.heap.size, 4, none⟩ = some (.int .i64 seed) ∧ w'.cell? ⟨w.heap.size, 5, none⟩ = some (.int .i64 dice)) ∧ (w'.cell? ⟨yb, 0, none⟩ = some (.slice aw5 ou.nw cw5) ∧ w'.cell? ⟨yb, 1, none⟩ = some (.slice as5 ou.ns cs5) ∧ w'.cell? ⟨yb, 2, none⟩ = some (.int .i64 ou.dice) ∧ w'.cell? ⟨yb, 3, none⟩ = some (.int .i64 ou.f)))) (by kernel_rfl) ?_ (fun hHeld => ?_)
                      · exact ⟨six_cells7 XD.out, four_cells ZD.out⟩
                      refine wpAnyH_ready (rs := [0]) (by kernel_rfl) (by simp) ?_
                      refine AllReadyH.cons (o := ⟨_, _, _, _, _, _⟩) rfl (fun K hK => ?_) AllReadyH.nil
                      go_simp
                      refine (HAW.out _).mono ?_
                      rintro e w10 ⟨rfl, hb10⟩
                      have L10 := Lib.hid (bthen LD.out hb10)
                      have X10 := Lib.hid ((hb10.block _ (lt_of_block XD.out)).trans XD.out)
                      have Z10 := Lib.hid ((hb10.block _ (lt_of_block ZD.out)).trans ZD.out)
                      have W10 := Lib.hid (own_below WD.out hb10)
                      have Q10 := Lib.hid (OD.out.below hb10)
                      clear hb10
                      go_wp2_with fail
                      refine hK.out _ _ ?_ (fun hHeld => ?_)
                      · exact ⟨six_cells7 X10.out, four_cells Z10.out⟩
                      clear hK K
                      try simp only [Act.put, List.setIfInBounds_toArray, List.set_cons_zero, List.set_cons_succ]
                      first
                        | (refine wpAnyH_take (i := 1) (oi := ⟨_, _, _, _, _, _⟩) (v := undef) rfl (by kernel_rfl) (by kernel_rfl) (by kernel_rfl) (fun _ _ _ h => h) (Or.inr ⟨by rfl, rfl⟩) (by assumption) ?_
                           try simp only [Act.put, List.setIfInBounds_toArray, List.set_cons_zero, List.set_cons_succ])
                        | (refine wpAnyH_take (i := 1) (oi := ⟨_, _, _, _, _, _⟩) (v := ?_) rfl (by kernel_rfl) (by kernel_rfl) (by kernel_rfl) (fun _ _ _ h => h) (Or.inl ⟨by rfl, ?_⟩) (by assumption) ?_
                           rotate_left
                           · intro w5 hSw
                             try dsimp only at hSw
                             go_simp
                             try with_reducible rfl
                           try simp only [Act.put, List.setIfInBounds_toArray, List.set_cons_zero, List.set_cons_succ])
                      first
                        | (refine wpAnyH_take (i := 2) (oi := ⟨_, _, _, _, _, _⟩) (v := undef) rfl (by kernel_rfl) (by kernel_rfl) (by kernel_rfl) (fun _ _ _ h => h) (Or.inr ⟨by rfl, rfl⟩) (by assumption) ?_
                           try simp only [Act.put, List.setIfInBounds_toArray, List.set_cons_zero, List.set_cons_succ])
                        | (refine wpAnyH_take (i := 2) (oi := ⟨_, _, _, _, _, _⟩) (v := ?_) rfl (by kernel_rfl) (by kernel_rfl) (by kernel_rfl) (fun _ _ _ h => h) (Or.inl ⟨by rfl, ?_⟩) (by assumption) ?_
                           rotate_left
                           · intro w5 hSw
                             try dsimp only at hSw
                             go_simp
                             try with_reducible rfl
                           try simp only [Act.put, List.setIfInBounds_toArray, List.set_cons_zero, List.set_cons_succ])
                      first
                        | (refine wpAnyH_take (i := 3) (oi := ⟨_, _, _, _, _, _⟩) (v := undef) rfl (by kernel_rfl) (by kernel_rfl) (by kernel_rfl) (fun _ _ _ h => h) (Or.inr ⟨by rfl, rfl⟩) (by assumption) ?_
                           try simp only [Act.put, List.setIfInBounds_toArray, List.set_cons_zero, List.set_cons_succ])
                        | (refine wpAnyH_take (i := 3) (oi := ⟨_, _, _, _, _, _⟩) (v := ?_) rfl (by kernel_rfl) (by kernel_rfl) (by kernel_rfl) (fun _ _ _ h => h) (Or.inl ⟨by rfl, ?_⟩) (by assumption) ?_
                           rotate_left
                           · intro w5 hSw
                             try dsimp only at hSw
                             go_simp
                             try with_reducible rfl
                           try simp only [Act.put, List.setIfInBounds_toArray, List.set_cons_zero, List.set_cons_succ])
                      first
                        | (refine wpAnyH_take (i := 4) (oi := ⟨_, _, _, _, _, _⟩) (v := undef) rfl (by kernel_rfl) (by kernel_rfl) (by kernel_rfl) (fun _ _ _ h => h) (Or.inr ⟨by rfl, rfl⟩) (by assumption) ?_
                           try simp only [Act.put, List.setIfInBounds_toArray, List.set_cons_zero, List.set_cons_succ])
                        | (refine wpAnyH_take (i := 4) (oi := ⟨_, _, _, _, _, _⟩) (v := ?_) rfl (by kernel_rfl) (by kernel_rfl) (by kernel_rfl) (fun _ _ _ h => h) (Or.inl ⟨by rfl, ?_⟩) (by assumption) ?_
                           rotate_left
                           · intro w5 hSw
                             try dsimp only at hSw
                             go_simp
                             try with_reducible rfl
                           try simp only [Act.put, List.setIfInBounds_toArray, List.set_cons_zero, List.set_cons_succ])
                      refine wpAnyH_ready (rs := [5]) (by kernel_rfl) (by simp) ?_
                      refine AllReadyH.cons (o := ⟨_, _, _, _, _, _⟩) rfl (fun K hK => ?_) AllReadyH.nil
                      go_simp
                      refine (HI9.out _ L10.out W10.out).mono ?_
                      rintro e w11 ⟨rfl, hb11⟩
                      have L11 := Lib.hid (bthen L10.out hb11)
                      have X11 := Lib.hid ((hb11.block _ (lt_of_block X10.out)).trans X10.out)
                      have Z11 := Lib.hid ((hb11.block _ (lt_of_block Z10.out)).trans Z10.out)
                      have Q11 := Lib.hid (Q10.out.below hb11)
                      clear hb11
                      go_wp2_with fail
                      refine hK.out _ _ ?_ (fun hHeld => ?_)
                      · exact ⟨six_cells7 X11.out, four_cells Z11.out⟩
                      clear hK K
                      try simp only [Act.put, List.setIfInBounds_toArray, List.set_cons_zero, List.set_cons_succ]
                      first
                        | (refine wpAnyH_take (i := 6) (oi := ⟨_, _, _, _, _, _⟩) (v := undef) rfl (by kernel_rfl) (by kernel_rfl) (by kernel_rfl) (fun _ _ _ h => h) (Or.inr ⟨by rfl, rfl⟩) (by assumption) ?_
                           try simp only [Act.put, List.setIfInBounds_toArray, List.set_cons_zero, List.set_cons_succ])
                        | (refine wpAnyH_take (i := 6) (oi := ⟨_, _, _, _, _, _⟩) (v := ?_) rfl (by kernel_rfl) (by kernel_rfl) (by kernel_rfl) (fun _ _ _ h => h) (Or.inl ⟨by rfl, ?_⟩) (by assumption) ?_
                           rotate_left
                           · intro w5 hSw
                             try dsimp only at hSw
                             go_simp
                             try with_reducible rfl
                           try simp only [Act.put, List.setIfInBounds_toArray, List.set_cons_zero, List.set_cons_succ])
                      first
                        | (refine wpAnyH_take (i := 7) (oi := ⟨_, _, _, _, _, _⟩) (v := undef) rfl (by kernel_rfl) (by kernel_rfl) (by kernel_rfl) (fun _ _ _ h => h) (Or.inr ⟨by rfl, rfl⟩) (by assumption) ?_
                           try simp only [Act.put, List.setIfInBounds_toArray, List.set_cons_zero, List.set_cons_succ])
                        | (refine wpAnyH_take (i := 7) (oi := ⟨_, _, _, _, _, _⟩) (v := ?_) rfl (by kernel_rfl) (by kernel_rfl) (by kernel_rfl) (fun _ _ _ h => h) (Or.inl ⟨by rfl, ?_⟩) (by assumption) ?_
                           rotate_left
                           · intro w5 hSw
                             try dsimp only at hSw
                             go_simp
                             try with_reducible rfl
                           try simp only [Act.put, List.setIfInBounds_toArray, List.set_cons_zero, List.set_cons_succ])
                      first
                        | (refine wpAnyH_take (i := 8) (oi := ⟨_, _, _, _, _, _⟩) (v := undef) rfl (by kernel_rfl) (by kernel_rfl) (by kernel_rfl) (fun _ _ _ h => h) (Or.inr ⟨by rfl, rfl⟩) (by assumption) ?_
                           try simp only [Act.put, List.setIfInBounds_toArray, List.set_cons_zero, List.set_cons_succ])
                        | (refine wpAnyH_take (i := 8) (oi := ⟨_, _, _, _, _, _⟩) (v := ?_) rfl (by kernel_rfl) (by kernel_rfl) (by kernel_rfl) (fun _ _ _ h => h) (Or.inl ⟨by rfl, ?_⟩) (by assumption) ?_
                           rotate_left
                           · intro w5 hSw
                             try dsimp only at hSw
                             go_simp
                             try with_reducible rfl
                           try simp only [Act.put, List.setIfInBounds_toArray, List.set_cons_zero, List.set_cons_succ])
                      first
                        | (refine wpAnyH_take (i := 9) (oi := ⟨_, _, _, _, _, _⟩) (v := undef) rfl (by kernel_rfl) (by kernel_rfl) (by kernel_rfl) (fun _ _ _ h => h) (Or.inr ⟨by rfl, rfl⟩) (by assumption) ?_
                           try simp only [Act.put, List.setIfInBounds_toArray, List.set_cons_zero, List.set_cons_succ])
                        | (refine wpAnyH_take (i := 9) (oi := ⟨_, _, _, _, _, _⟩) (v := ?_) rfl (by kernel_rfl) (by kernel_rfl) (by kernel_rfl) (fun _ _ _ h => h) (Or.inl ⟨by rfl, ?_⟩) (by assumption) ?_
                           rotate_left
                           · intro w5 hSw
                             try dsimp only at hSw
                             go_simp
                             try with_reducible rfl
                           try simp only [Act.put, List.setIfInBounds_toArray, List.set_cons_zero, List.set_cons_succ])
                      first
                        | (refine wpAnyH_take (i := 10) (oi := ⟨_, _, _, _, _, _⟩) (v := undef) rfl (by kernel_rfl) (by kernel_rfl) (by kernel_rfl) (fun _ _ _ h => h) (Or.inr ⟨by rfl, rfl⟩) (by assumption) ?_
                           try simp only [Act.put, List.setIfInBounds_toArray, List.set_cons_zero, List.set_cons_succ])
                        | (refine wpAnyH_take (i := 10) (oi := ⟨_, _, _, _, _, _⟩) (v := ?_) rfl (by kernel_rfl) (by kernel_rfl) (by kernel_rfl) (fun _ _ _ h => h) (Or.inl ⟨by rfl, ?_⟩) (by assumption) ?_
                           rotate_left
                           · intro w5 hSw
                             try dsimp only at hSw
                             go_simp
                             try with_reducible rfl
                           try simp only [Act.put, List.setIfInBounds_toArray, List.set_cons_zero, List.set_cons_succ])
                      first
                        | (refine wpAnyH_take (i := 11) (oi := ⟨_, _, _, _, _, _⟩) (v := undef) rfl (by kernel_rfl) (by kernel_rfl) (by kernel_rfl) (fun _ _ _ h => h) (Or.inr ⟨by rfl, rfl⟩) (by assumption) ?_
                           try simp only [Act.put, List.setIfInBounds_toArray, List.set_cons_zero, List.set_cons_succ])
                        | (refine wpAnyH_take (i := 11) (oi := ⟨_, _, _, _, _, _⟩) (v := ?_) rfl (by kernel_rfl) (by kernel_rfl) (by kernel_rfl) (fun _ _ _ h => h) (Or.inl ⟨by rfl, ?_⟩) (by assumption) ?_
                           rotate_left
                           · intro w5 hSw
                             try dsimp only at hSw
                             go_simp
                             try with_reducible rfl
                           try simp only [Act.put, List.setIfInBounds_toArray, List.set_cons_zero, List.set_cons_succ])
                      first
                        | (refine wpAnyH_take (i := 12) (oi := ⟨_, _, _, _, _, _⟩) (v := undef) rfl (by kernel_rfl) (by kernel_rfl) (by kernel_rfl) (fun _ _ _ h => h) (Or.inr ⟨by rfl, rfl⟩) (by assumption) ?_
                           try simp only [Act.put, List.setIfInBounds_toArray, List.set_cons_zero, List.set_cons_succ])
                        | (refine wpAnyH_take (i := 12) (oi := ⟨_, _, _, _, _, _⟩) (v := ?_) rfl (by kernel_rfl) (by kernel_rfl) (by kernel_rfl) (fun _ _ _ h => h) (Or.inl ⟨by rfl, ?_⟩) (by assumption) ?_
                           rotate_left
                           · intro w5 hSw
                             try dsimp only at hSw
                             go_simp
                             try with_reducible rfl
                           try simp only [Act.put, List.setIfInBounds_toArray, List.set_cons_zero, List.set_cons_succ])
                      first
                        | (refine wpAnyH_take (i := 13) (oi := ⟨_, _, _, _, _, _⟩) (v := undef) rfl (by kernel_rfl) (by kernel_rfl) (by kernel_rfl) (fun _ _ _ h => h) (Or.inr ⟨by rfl, rfl⟩) (by assumption) ?_
                           try simp only [Act.put, List.setIfInBounds_toArray, List.set_cons_zero, List.set_cons_succ])
                        | (refine wpAnyH_take (i := 13) (oi := ⟨_, _, _, _, _, _⟩) (v := ?_) rfl (by kernel_rfl) (by kernel_rfl) (by kernel_rfl) (fun _ _ _ h => h) (Or.inl ⟨by rfl, ?_⟩) (by assumption) ?_
                           rotate_left
                           · intro w5 hSw
                             try dsimp only at hSw
                             go_simp
                             try with_reducible rfl
                           try simp only [Act.put, List.setIfInBounds_toArray, List.set_cons_zero, List.set_cons_succ])
                      first
                        | (refine wpAnyH_take (i := 14) (oi := ⟨_, _, _, _, _, _⟩) (v := undef) rfl (by kernel_rfl) (by kernel_rfl) (by kernel_rfl) (fun _ _ _ h => h) (Or.inr ⟨by rfl, rfl⟩) (by assumption) ?_
                           try simp only [Act.put, List.setIfInBounds_toArray, List.set_cons_zero, List.set_cons_succ])
                        | (refine wpAnyH_take (i := 14) (oi := ⟨_, _, _, _, _, _⟩) (v := ?_) rfl (by kernel_rfl) (by kernel_rfl) (by kernel_rfl) (fun _ _ _ h => h) (Or.inl ⟨by rfl, ?_⟩) (by assumption) ?_
                           rotate_left
                           · intro w5 hSw
                             try dsimp only at hSw
                             go_simp
                             try with_reducible rfl
                           try simp only [Act.put, List.setIfInBounds_toArray, List.set_cons_zero, List.set_cons_succ])
                      first
                        | (refine wpAnyH_take (i := 15) (oi := ⟨_, _, _, _, _, _⟩) (v := undef) rfl (by kernel_rfl) (by kernel_rfl) (by kernel_rfl) (fun _ _ _ h => h) (Or.inr ⟨by rfl, rfl⟩) (by assumption) ?_
                           try simp only [Act.put, List.setIfInBounds_toArray, List.set_cons_zero, List.set_cons_succ])
                        | (refine wpAnyH_take (i := 15) (oi := ⟨_, _, _, _, _, _⟩) (v := ?_) rfl (by kernel_rfl) (by kernel_rfl) (by kernel_rfl) (fun _ _ _ h => h) (Or.inl ⟨by rfl, ?_⟩) (by assumption) ?_
                           rotate_left
                           · intro w5 hSw
                             try dsimp only at hSw
                             go_simp
                             try with_reducible rfl
                           try simp only [Act.put, List.setIfInBounds_toArray, List.set_cons_zero, List.set_cons_succ])
                      first
                        | (refine wpAnyH_take (i := 16) (oi := ⟨_, _, _, _, _, _⟩) (v := undef) rfl (by kernel_rfl) (by kernel_rfl) (by kernel_rfl) (fun _ _ _ h => h) (Or.inr ⟨by rfl, rfl⟩) (by assumption) ?_
                           try simp only [Act.put, List.setIfInBounds_toArray, List.set_cons_zero, List.set_cons_succ])
                        | (refine wpAnyH_take (i := 16) (oi := ⟨_, _, _, _, _, _⟩) (v := ?_) rfl (by kernel_rfl) (by kernel_rfl) (by kernel_rfl) (fun _ _ _ h => h) (Or.inl ⟨by rfl, ?_⟩) (by assumption) ?_
                           rotate_left
                           · intro w5 hSw
                             try dsimp only at hSw
                             go_simp
                             try with_reducible rfl
                           try simp only [Act.put, List.setIfInBounds_toArray, List.set_cons_zero, List.set_cons_succ])
                      first
                        | (refine wpAnyH_take (i := 17) (oi := ⟨_, _, _, _, _, _⟩) (v := undef) rfl (by kernel_rfl) (by kernel_rfl) (by kernel_rfl) (fun _ _ _ h => h) (Or.inr ⟨by rfl, rfl⟩) (by assumption) ?_
                           try simp only [Act.put, List.setIfInBounds_toArray, List.set_cons_zero, List.set_cons_succ])
                        | (refine wpAnyH_take (i := 17) (oi := ⟨_, _, _, _, _, _⟩) (v := ?_) rfl (by kernel_rfl) (by kernel_rfl) (by kernel_rfl) (fun _ _ _ h => h) (Or.inl ⟨by rfl, ?_⟩) (by assumption) ?_
                           rotate_left
                           · intro w5 hSw
                             try dsimp only at hSw
                             go_simp
                             try with_reducible rfl
                           try simp only [Act.put, List.setIfInBounds_toArray, List.set_cons_zero, List.set_cons_succ])
                      first
                        | (refine wpAnyH_take (i := 18) (oi := ⟨_, _, _, _, _, _⟩) (v := undef) rfl (by kernel_rfl) (by kernel_rfl) (by kernel_rfl) (fun _ _ _ h => h) (Or.inr ⟨by rfl, rfl⟩) (by assumption) ?_
                           try simp only [Act.put, List.setIfInBounds_toArray, List.set_cons_zero, List.set_cons_succ])
                        | (refine wpAnyH_take (i := 18) (oi := ⟨_, _, _, _, _, _⟩) (v := ?_) rfl (by kernel_rfl) (by kernel_rfl) (by kernel_rfl) (fun _ _ _ h => h) (Or.inl ⟨by rfl, ?_⟩) (by assumption) ?_
                           rotate_left
                           · intro w5 hSw
                             try dsimp only at hSw
                             go_simp
                             try with_reducible rfl
                           try simp only [Act.put, List.setIfInBounds_toArray, List.set_cons_zero, List.set_cons_succ])
                      first
                        | (refine wpAnyH_take (i := 19) (oi := ⟨_, _, _, _, _, _⟩) (v := undef) rfl (by kernel_rfl) (by kernel_rfl) (by kernel_rfl) (fun _ _ _ h => h) (Or.inr ⟨by rfl, rfl⟩) (by assumption) ?_
                           try simp only [Act.put, List.setIfInBounds_toArray, List.set_cons_zero, List.set_cons_succ])
                        | (refine wpAnyH_take (i := 19) (oi := ⟨_, _, _, _, _, _⟩) (v := ?_) rfl (by kernel_rfl) (by kernel_rfl) (by kernel_rfl) (fun _ _ _ h => h) (Or.inl ⟨by rfl, ?_⟩) (by assumption) ?_
                           rotate_left
                           · intro w5 hSw
                             try dsimp only at hSw
                             go_simp
                             try with_reducible rfl
                           try simp only [Act.put, List.setIfInBounds_toArray, List.set_cons_zero, List.set_cons_succ])
                      refine wpAnyH_ready (rs := [20]) (by kernel_rfl) (by simp) ?_
                      refine AllReadyH.cons (o := ⟨_, _, _, _, _, _⟩) rfl (fun K hK => ?_) AllReadyH.nil
                      go_simp
                      refine (HMU.out _ L11.out).mono ?_
                      rintro e w12 ⟨aw6, cw6, as6, cs6, rfl, ho12, hb12⟩
                      have L12 := Lib.hid (bthen L11.out hb12)
                      have X12 := Lib.hid ((hb12.block _ (lt_of_block X11.out)).trans X11.out)
                      have Z12 := Lib.hid ((hb12.block _ (lt_of_block Z11.out)).trans Z11.out)
                      have Q12 := Lib.hid (Q11.out.below hb12)
                      have HS12 := Lib.hid (same7_refl ou _ _ w12 Q12.out ho12)
                      clear hb12 ho12
                      go_wp2_with fail
                      refine hK.out _ _ ?_ (fun hHeld => ?_)
                      · exact ⟨six_cells7 X12.out, four_cells Z12.out⟩
                      clear hK K
                      try simp only [Act.put, List.setIfInBounds_toArray, List.set_cons_zero, List.set_cons_succ]
                      refine wpAnyH_ready (rs := [21]) (by kernel_rfl) (by simp) ?_
                      refine AllReadyH.cons (o := ⟨_, _, _, _, _, _⟩) rfl (fun K hK => ?_) AllReadyH.nil
                      go_simp
                      refine HS12.out.mono ?_
                      rintro e w13 ⟨rfl, hb13⟩
                      have L13 := Lib.hid (bthen L12.out hb13)
                      have X13 := Lib.hid ((hb13.block _ (lt_of_block X12.out)).trans X12.out)
                      have Z13 := Lib.hid ((hb13.block _ (lt_of_block Z12.out)).trans Z12.out)
                      clear hb13
                      go_wp2_with fail
                      refine hK.out _ _ ?_ (fun hHeld => ?_)
                      · exact ⟨six_cells7 X13.out, four_cells Z13.out⟩
                      clear hK K
                      try simp only [Act.put, List.setIfInBounds_toArray, List.set_cons_zero, List.set_cons_succ]
                      first
                        | (refine wpAnyH_take (i := 22) (oi := ⟨_, _, _, _, _, _⟩) (v := undef) rfl (by kernel_rfl) (by kernel_rfl) (by kernel_rfl) (fun _ _ _ h => h) (Or.inr ⟨by rfl, rfl⟩) (by assumption) ?_
                           try simp only [Act.put, List.setIfInBounds_toArray, List.set_cons_zero, List.set_cons_succ])
                        | (refine wpAnyH_take (i := 22) (oi := ⟨_, _, _, _, _, _⟩) (v := ?_) rfl (by kernel_rfl) (by kernel_rfl) (by kernel_rfl) (fun _ _ _ h => h) (Or.inl ⟨by rfl, ?_⟩) (by assumption) ?_
                           rotate_left
                           · intro w5 hSw
                             try dsimp only at hSw
                             go_simp
                             try with_reducible rfl
                           try simp only [Act.put, List.setIfInBounds_toArray, List.set_cons_zero, List.set_cons_succ])
                      first
                        | (refine wpAnyH_take (i := 23) (oi := ⟨_, _, _, _, _, _⟩) (v := undef) rfl (by kernel_rfl) (by kernel_rfl) (by kernel_rfl) (fun _ _ _ h => h) (Or.inr ⟨by rfl, rfl⟩) (by assumption) ?_
                           try simp only [Act.put, List.setIfInBounds_toArray, List.set_cons_zero, List.set_cons_succ])
                        | (refine wpAnyH_take (i := 23) (oi := ⟨_, _, _, _, _, _⟩) (v := ?_) rfl (by kernel_rfl) (by kernel_rfl) (by kernel_rfl) (fun _ _ _ h => h) (Or.inl ⟨by rfl, ?_⟩) (by assumption) ?_
                           rotate_left
                           · intro w5 hSw
                             try dsimp only at hSw
                             go_simp
                             try with_reducible rfl
                           try simp only [Act.put, List.setIfInBounds_toArray, List.set_cons_zero, List.set_cons_succ])
                      first
                        | (refine wpAnyH_take (i := 24) (oi := ⟨_, _, _, _, _, _⟩) (v := undef) rfl (by kernel_rfl) (by kernel_rfl) (by kernel_rfl) (fun _ _ _ h => h) (Or.inr ⟨by rfl, rfl⟩) (by assumption) ?_
                           try simp only [Act.put, List.setIfInBounds_toArray, List.set_cons_zero, List.set_cons_succ])
                        | (refine wpAnyH_take (i := 24) (oi := ⟨_, _, _, _, _, _⟩) (v := ?_) rfl (by kernel_rfl) (by kernel_rfl) (by kernel_rfl) (fun _ _ _ h => h) (Or.inl ⟨by rfl, ?_⟩) (by assumption) ?_
                           rotate_left
                           · intro w5 hSw
                             try dsimp only at hSw
                             go_simp
                             try with_reducible rfl
                           try simp only [Act.put, List.setIfInBounds_toArray, List.set_cons_zero, List.set_cons_succ])
                      refine wpAnyH_done (by kernel_rfl) ?_ _
                      go_wp2_with fail
                      go_ret
                      exact ⟨rfl, L13.out⟩
                    · have dm : (mn != 0) = true := by simp [hm]
                      clear hm
                      refine wp_region_held_drew (S := (fun w' => (w'.cell? ⟨w.heap.size, 0, none⟩ = some (.slice aw nw cw) ∧ w'.cell? ⟨w.heap.size, 1, none⟩ = some (.int .i64 pay) ∧ w'.cell? ⟨w.heap.size, 2, none⟩ = some (.int .i64 me) ∧ w'.cell? ⟨w.heap.size, 3, none⟩ = some (.int .i64 lps) ∧ w'.cell? ⟨w.heap.size, 4, none⟩ = some (.int .i64 seed) ∧ w'.cell? ⟨w.heap.size, 5, none⟩ = some (.int .i64 dice)) ∧ (w'.cell? ⟨yb, 0, none⟩ = some (.slice aw5 ou.nw cw5) ∧ w'.cell? ⟨yb, 1, none⟩ = some (.slice as5 ou.ns cs5) ∧ w'.cell? ⟨yb, 2, none⟩ = some (.int .i64 ou.dice) ∧ w'.cell? ⟨yb, 3, none⟩ = some (.int .i64 ou.f)))) (by kernel_rfl) ?_ (fun hHeld => ?_)
                      · exact ⟨six_cells7 XD.out, four_cells ZD.out⟩
                      refine wpAnyH_ready (rs := [0]) (by kernel_rfl) (by simp) ?_
                      refine AllReadyH.cons (o := ⟨_, _, _, _, _, _⟩) rfl (fun K hK => ?_) AllReadyH.nil
                      go_simp
                      refine (HAW.out _).mono ?_
                      rintro e w10 ⟨rfl, hb10⟩
                      have L10 := Lib.hid (bthen LD.out hb10)
                      have X10 := Lib.hid ((hb10.block _ (lt_of_block XD.out)).trans XD.out)
                      have Z10 := Lib.hid ((hb10.block _ (lt_of_block ZD.out)).trans ZD.out)
                      have W10 := Lib.hid (own_below WD.out hb10)
                      have Q10 := Lib.hid (OD.out.below hb10)
                      clear hb10
                      go_wp2_with fail
                      refine hK.out _ _ ?_ (fun hHeld => ?_)
                      · exact ⟨six_cells7 X10.out, four_cells Z10.out⟩
                      clear hK K
                      try simp only [Act.put, List.setIfInBounds_toArray, List.set_cons_zero, List.set_cons_succ]
                      first
                        | (refine wpAnyH_take (i := 1) (oi := ⟨_, _, _, _, _, _⟩) (v := undef) rfl (by kernel_rfl) (by kernel_rfl) (by kernel_rfl) (fun _ _ _ h => h) (Or.inr ⟨by rfl, rfl⟩) (by assumption) ?_
                           try simp only [Act.put, List.setIfInBounds_toArray, List.set_cons_zero, List.set_cons_succ])
                        | (refine wpAnyH_take (i := 1) (oi := ⟨_, _, _, _, _, _⟩) (v := ?_) rfl (by kernel_rfl) (by kernel_rfl) (by kernel_rfl) (fun _ _ _ h => h) (Or.inl ⟨by rfl, ?_⟩) (by assumption) ?_
                           rotate_left
                           · intro w5 hSw
                             try dsimp only at hSw
                             go_simp
                             try with_reducible rfl
                           try simp only [Act.put, List.setIfInBounds_toArray, List.set_cons_zero, List.set_cons_succ])
                      first
                        | (refine wpAnyH_take (i := 2) (oi := ⟨_, _, _, _, _, _⟩) (v := undef) rfl (by kernel_rfl) (by kernel_rfl) (by kernel_rfl) (fun _ _ _ h => h) (Or.inr ⟨by rfl, rfl⟩) (by assumption) ?_
                           try simp only [Act.put, List.setIfInBounds_toArray, List.set_cons_zero, List.set_cons_succ])
                        | (refine wpAnyH_take (i := 2) (oi := ⟨_, _, _, _, _, _⟩) (v := ?_) rfl (by kernel_rfl) (by kernel_rfl) (by kernel_rfl) (fun _ _ _ h => h) (Or.inl ⟨by rfl, ?_⟩) (by assumption) ?_
                           rotate_left
                           · intro w5 hSw
                             try dsimp only at hSw
                             go_simp
                             try with_reducible rfl
                           try simp only [Act.put, List.setIfInBounds_toArray, List.set_cons_zero, List.set_cons_succ])
                      first
                        | (refine wpAnyH_take (i := 3) (oi := ⟨_, _, _, _, _, _⟩) (v := undef) rfl (by kernel_rfl) (by kernel_rfl) (by kernel_rfl) (fun _ _ _ h => h) (Or.inr ⟨by rfl, rfl⟩) (by assumption) ?_
                           try simp only [Act.put, List.setIfInBounds_toArray, List.set_cons_zero, List.set_cons_succ])
                        | (refine wpAnyH_take (i := 3) (oi := ⟨_, _, _, _, _, _⟩) (v := ?_) rfl (by kernel_rfl) (by kernel_rfl) (by kernel_rfl) (fun _ _ _ h => h) (Or.inl ⟨by rfl, ?_⟩) (by assumption) ?_
                           rotate_left
                           · intro w5 hSw
                             try dsimp only at hSw
                             go_simp
                             try with_reducible rfl
                           try simp only [Act.put, List.setIfInBounds_toArray, List.set_cons_zero, List.set_cons_succ])
                      first
                        | (refine wpAnyH_take (i := 4) (oi := ⟨_, _, _, _, _, _⟩) (v := undef) rfl (by kernel_rfl) (by kernel_rfl) (by kernel_rfl) (fun _ _ _ h => h) (Or.inr ⟨by rfl, rfl⟩) (by assumption) ?_
                           try simp only [Act.put, List.setIfInBounds_toArray, List.set_cons_zero, List.set_cons_succ])
                        | (refine wpAnyH_take (i := 4) (oi := ⟨_, _, _, _, _, _⟩) (v := ?_) rfl (by kernel_rfl) (by kernel_rfl) (by kernel_rfl) (fun _ _ _ h => h) (Or.inl ⟨by rfl, ?_⟩) (by assumption) ?_
                           rotate_left
                           · intro w5 hSw
                             try dsimp only at hSw
                             go_simp
                             try with_reducible rfl
                           try simp only [Act.put, List.setIfInBounds_toArray, List.set_cons_zero, List.set_cons_succ])
                      refine wpAnyH_ready (rs := [5]) (by kernel_rfl) (by simp) ?_
                      refine AllReadyH.cons (o := ⟨_, _, _, _, _, _⟩) rfl (fun K hK => ?_) AllReadyH.nil
                      go_simp
                      refine (HI9.out _ L10.out W10.out).mono ?_
                      rintro e w11 ⟨rfl, hb11⟩
                      have L11 := Lib.hid (bthen L10.out hb11)
                      have X11 := Lib.hid ((hb11.block _ (lt_of_block X10.out)).trans X10.out)
                      have Z11 := Lib.hid ((hb11.block _ (lt_of_block Z10.out)).trans Z10.out)
                      have Q11 := Lib.hid (Q10.out.below hb11)
                      clear hb11
                      go_wp2_with fail
                      refine hK.out _ _ ?_ (fun hHeld => ?_)
                      · exact ⟨six_cells7 X11.out, four_cells Z11.out⟩
                      clear hK K
                      try simp only [Act.put, List.setIfInBounds_toArray, List.set_cons_zero, List.set_cons_succ]
                      first
                        | (refine wpAnyH_take (i := 6) (oi := ⟨_, _, _, _, _, _⟩) (v := undef) rfl (by kernel_rfl) (by kernel_rfl) (by kernel_rfl) (fun _ _ _ h => h) (Or.inr ⟨by rfl, rfl⟩) (by assumption) ?_
                           try simp only [Act.put, List.setIfInBounds_toArray, List.set_cons_zero, List.set_cons_succ])
                        | (refine wpAnyH_take (i := 6) (oi := ⟨_, _, _, _, _, _⟩) (v := ?_) rfl (by kernel_rfl) (by kernel_rfl) (by kernel_rfl) (fun _ _ _ h => h) (Or.inl ⟨by rfl, ?_⟩) (by assumption) ?_
                           rotate_left
                           · intro w5 hSw
                             try dsimp only at hSw
                             go_simp
                             try with_reducible rfl
                           try simp only [Act.put, List.setIfInBounds_toArray, List.set_cons_zero, List.set_cons_succ])
                      first
                        | (refine wpAnyH_take (i := 7) (oi := ⟨_, _, _, _, _, _⟩) (v := undef) rfl (by kernel_rfl) (by kernel_rfl) (by kernel_rfl) (fun _ _ _ h => h) (Or.inr ⟨by rfl, rfl⟩) (by assumption) ?_
                           try simp only [Act.put, List.setIfInBounds_toArray, List.set_cons_zero, List.set_cons_succ])
                        | (refine wpAnyH_take (i := 7) (oi := ⟨_, _, _, _, _, _⟩) (v := ?_) rfl (by kernel_rfl) (by kernel_rfl) (by kernel_rfl) (fun _ _ _ h => h) (Or.inl ⟨by rfl, ?_⟩) (by assumption) ?_
                           rotate_left
                           · intro w5 hSw
                             try dsimp only at hSw
                             go_simp
                             try with_reducible rfl
                           try simp only [Act.put, List.setIfInBounds_toArray, List.set_cons_zero, List.set_cons_succ])
                      first
                        | (refine wpAnyH_take (i := 8) (oi := ⟨_, _, _, _, _, _⟩) (v := undef) rfl (by kernel_rfl) (by kernel_rfl) (by kernel_rfl) (fun _ _ _ h => h) (Or.inr ⟨by rfl, rfl⟩) (by assumption) ?_
                           try simp only [Act.put, List.setIfInBounds_toArray, List.set_cons_zero, List.set_cons_succ])
                        | (refine wpAnyH_take (i := 8) (oi := ⟨_, _, _, _, _, _⟩) (v := ?_) rfl (by kernel_rfl) (by kernel_rfl) (by kernel_rfl) (fun _ _ _ h => h) (Or.inl ⟨by rfl, ?_⟩) (by assumption) ?_
                           rotate_left
                           · intro w5 hSw
                             try dsimp only at hSw
                             go_simp
                             try with_reducible rfl
                           try simp only [Act.put, List.setIfInBounds_toArray, List.set_cons_zero, List.set_cons_succ])
                      first
                        | (refine wpAnyH_take (i := 9) (oi := ⟨_, _, _, _, _, _⟩) (v := undef) rfl (by kernel_rfl) (by kernel_rfl) (by kernel_rfl) (fun _ _ _ h => h) (Or.inr ⟨by rfl, rfl⟩) (by assumption) ?_
                           try simp only [Act.put, List.setIfInBounds_toArray, List.set_cons_zero, List.set_cons_succ])
                        | (refine wpAnyH_take (i := 9) (oi := ⟨_, _, _, _, _, _⟩) (v := ?_) rfl (by kernel_rfl) (by kernel_rfl) (by kernel_rfl) (fun _ _ _ h => h) (Or.inl ⟨by rfl, ?_⟩) (by assumption) ?_
                           rotate_left
                           · intro w5 hSw
                             try dsimp only at hSw
                             go_simp
                             try with_reducible rfl
                           try simp only [Act.put, List.setIfInBounds_toArray, List.set_cons_zero, List.set_cons_succ])
                      first
                        | (refine wpAnyH_take (i := 10) (oi := ⟨_, _, _, _, _, _⟩) (v := undef) rfl (by kernel_rfl) (by kernel_rfl) (by kernel_rfl) (fun _ _ _ h => h) (Or.inr ⟨by rfl, rfl⟩) (by assumption) ?_
                           try simp only [Act.put, List.setIfInBounds_toArray, List.set_cons_zero, List.set_cons_succ])
                        | (refine wpAnyH_take (i := 10) (oi := ⟨_, _, _, _, _, _⟩) (v := ?_) rfl (by kernel_rfl) (by kernel_rfl) (by kernel_rfl) (fun _ _ _ h => h) (Or.inl ⟨by rfl, ?_⟩) (by assumption) ?_
                           rotate_left
                           · intro w5 hSw
                             try dsimp only at hSw
                             go_simp
                             try with_reducible rfl
                           try simp only [Act.put, List.setIfInBounds_toArray, List.set_cons_zero, List.set_cons_succ])
                      first
                        | (refine wpAnyH_take (i := 11) (oi := ⟨_, _, _, _, _, _⟩) (v := undef) rfl (by kernel_rfl) (by kernel_rfl) (by kernel_rfl) (fun _ _ _ h => h) (Or.inr ⟨by rfl, rfl⟩) (by assumption) ?_
                           try simp only [Act.put, List.setIfInBounds_toArray, List.set_cons_zero, List.set_cons_succ])
                        | (refine wpAnyH_take (i := 11) (oi := ⟨_, _, _, _, _, _⟩) (v := ?_) rfl (by kernel_rfl) (by kernel_rfl) (by kernel_rfl) (fun _ _ _ h => h) (Or.inl ⟨by rfl, ?_⟩) (by assumption) ?_
                           rotate_left
                           · intro w5 hSw
                             try dsimp only at hSw
                             go_simp
                             try with_reducible rfl
                           try simp only [Act.put, List.setIfInBounds_toArray, List.set_cons_zero, List.set_cons_succ])
                      first
                        | (refine wpAnyH_take (i := 12) (oi := ⟨_, _, _, _, _, _⟩) (v := undef) rfl (by kernel_rfl) (by kernel_rfl) (by kernel_rfl) (fun _ _ _ h => h) (Or.inr ⟨by rfl, rfl⟩) (by assumption) ?_
                           try simp only [Act.put, List.setIfInBounds_toArray, List.set_cons_zero, List.set_cons_succ])
                        | (refine wpAnyH_take (i := 12) (oi := ⟨_, _, _, _, _, _⟩) (v := ?_) rfl (by kernel_rfl) (by kernel_rfl) (by kernel_rfl) (fun _ _ _ h => h) (Or.inl ⟨by rfl, ?_⟩) (by assumption) ?_
                           rotate_left
                           · intro w5 hSw
                             try dsimp only at hSw
                             go_simp
                             try with_reducible rfl
                           try simp only [Act.put, List.setIfInBounds_toArray, List.set_cons_zero, List.set_cons_succ])
                      first
                        | (refine wpAnyH_take (i := 13) (oi := ⟨_, _, _, _, _, _⟩) (v := undef) rfl (by kernel_rfl) (by kernel_rfl) (by kernel_rfl) (fun _ _ _ h => h) (Or.inr ⟨by rfl, rfl⟩) (by assumption) ?_
                           try simp only [Act.put, List.setIfInBounds_toArray, List.set_cons_zero, List.set_cons_succ])
                        | (refine wpAnyH_take (i := 13) (oi := ⟨_, _, _, _, _, _⟩) (v := ?_) rfl (by kernel_rfl) (by kernel_rfl) (by kernel_rfl) (fun _ _ _ h => h) (Or.inl ⟨by rfl, ?_⟩) (by assumption) ?_
                           rotate_left
                           · intro w5 hSw
                             try dsimp only at hSw
                             go_simp
                             try with_reducible rfl
                           try simp only [Act.put, List.setIfInBounds_toArray, List.set_cons_zero, List.set_cons_succ])
                      first
                        | (refine wpAnyH_take (i := 14) (oi := ⟨_, _, _, _, _, _⟩) (v := undef) rfl (by kernel_rfl) (by kernel_rfl) (by kernel_rfl) (fun _ _ _ h => h) (Or.inr ⟨by rfl, rfl⟩) (by assumption) ?_
                           try simp only [Act.put, List.setIfInBounds_toArray, List.set_cons_zero, List.set_cons_succ])
                        | (refine wpAnyH_take (i := 14) (oi := ⟨_, _, _, _, _, _⟩) (v := ?_) rfl (by kernel_rfl) (by kernel_rfl) (by kernel_rfl) (fun _ _ _ h => h) (Or.inl ⟨by rfl, ?_⟩) (by assumption) ?_
                           rotate_left
                           · intro w5 hSw
                             try dsimp only at hSw
                             go_simp
                             try with_reducible rfl
                           try simp only [Act.put, List.setIfInBounds_toArray, List.set_cons_zero, List.set_cons_succ])
                      first
                        | (refine wpAnyH_take (i := 15) (oi := ⟨_, _, _, _, _, _⟩) (v := undef) rfl (by kernel_rfl) (by kernel_rfl) (by kernel_rfl) (fun _ _ _ h => h) (Or.inr ⟨by rfl, rfl⟩) (by assumption) ?_
                           try simp only [Act.put, List.setIfInBounds_toArray, List.set_cons_zero, List.set_cons_succ])
                        | (refine wpAnyH_take (i := 15) (oi := ⟨_, _, _, _, _, _⟩) (v := ?_) rfl (by kernel_rfl) (by kernel_rfl) (by kernel_rfl) (fun _ _ _ h => h) (Or.inl ⟨by rfl, ?_⟩) (by assumption) ?_
                           rotate_left
                           · intro w5 hSw
                             try dsimp only at hSw
                             go_simp
                             try with_reducible rfl
                           try simp only [Act.put, List.setIfInBounds_toArray, List.set_cons_zero, List.set_cons_succ])
                      first
                        | (refine wpAnyH_take (i := 16) (oi := ⟨_, _, _, _, _, _⟩) (v := undef) rfl (by kernel_rfl) (by kernel_rfl) (by kernel_rfl) (fun _ _ _ h => h) (Or.inr ⟨by rfl, rfl⟩) (by assumption) ?_
                           try simp only [Act.put, List.setIfInBounds_toArray, List.set_cons_zero, List.set_cons_succ])
                        | (refine wpAnyH_take (i := 16) (oi := ⟨_, _, _, _, _, _⟩) (v := ?_) rfl (by kernel_rfl) (by kernel_rfl) (by kernel_rfl) (fun _ _ _ h => h) (Or.inl ⟨by rfl, ?_⟩) (by assumption) ?_
                           rotate_left
                           · intro w5 hSw
                             try dsimp only at hSw
                             go_simp
                             try with_reducible rfl
                           try simp only [Act.put, List.setIfInBounds_toArray, List.set_cons_zero, List.set_cons_succ])
                      first
                        | (refine wpAnyH_take (i := 17) (oi := ⟨_, _, _, _, _, _⟩) (v := undef) rfl (by kernel_rfl) (by kernel_rfl) (by kernel_rfl) (fun _ _ _ h => h) (Or.inr ⟨by rfl, rfl⟩) (by assumption) ?_
                           try simp only [Act.put, List.setIfInBounds_toArray, List.set_cons_zero, List.set_cons_succ])
                        | (refine wpAnyH_take (i := 17) (oi := ⟨_, _, _, _, _, _⟩) (v := ?_) rfl (by kernel_rfl) (by kernel_rfl) (by kernel_rfl) (fun _ _ _ h => h) (Or.inl ⟨by rfl, ?_⟩) (by assumption) ?_
                           rotate_left
                           · intro w5 hSw
                             try dsimp only at hSw
                             go_simp
                             try with_reducible rfl
                           try simp only [Act.put, List.setIfInBounds_toArray, List.set_cons_zero, List.set_cons_succ])
                      first
                        | (refine wpAnyH_take (i := 18) (oi := ⟨_, _, _, _, _, _⟩) (v := undef) rfl (by kernel_rfl) (by kernel_rfl) (by kernel_rfl) (fun _ _ _ h => h) (Or.inr ⟨by rfl, rfl⟩) (by assumption) ?_
                           try simp only [Act.put, List.setIfInBounds_toArray, List.set_cons_zero, List.set_cons_succ])
                        | (refine wpAnyH_take (i := 18) (oi := ⟨_, _, _, _, _, _⟩) (v := ?_) rfl (by kernel_rfl) (by kernel_rfl) (by kernel_rfl) (fun _ _ _ h => h) (Or.inl ⟨by rfl, ?_⟩) (by assumption) ?_
                           rotate_left
                           · intro w5 hSw
                             try dsimp only at hSw
                             go_simp
                             try with_reducible rfl
                           try simp only [Act.put, List.setIfInBounds_toArray, List.set_cons_zero, List.set_cons_succ])
                      first
                        | (refine wpAnyH_take (i := 19) (oi := ⟨_, _, _, _, _, _⟩) (v := undef) rfl (by kernel_rfl) (by kernel_rfl) (by kernel_rfl) (fun _ _ _ h => h) (Or.inr ⟨by rfl, rfl⟩) (by assumption) ?_
                           try simp only [Act.put, List.setIfInBounds_toArray, List.set_cons_zero, List.set_cons_succ])
                        | (refine wpAnyH_take (i := 19) (oi := ⟨_, _, _, _, _, _⟩) (v := ?_) rfl (by kernel_rfl) (by kernel_rfl) (by kernel_rfl) (fun _ _ _ h => h) (Or.inl ⟨by rfl, ?_⟩) (by assumption) ?_
                           rotate_left
                           · intro w5 hSw
                             try dsimp only at hSw
                             go_simp
                             try with_reducible rfl
                           try simp only [Act.put, List.setIfInBounds_toArray, List.set_cons_zero, List.set_cons_succ])
                      first
                        | (refine wpAnyH_take (i := 20) (oi := ⟨_, _, _, _, _, _⟩) (v := undef) rfl (by kernel_rfl) (by kernel_rfl) (by kernel_rfl) (fun _ _ _ h => h) (Or.inr ⟨by rfl, rfl⟩) (by assumption) ?_
                           try simp only [Act.put, List.setIfInBounds_toArray, List.set_cons_zero, List.set_cons_succ])
                        | (refine wpAnyH_take (i := 20) (oi := ⟨_, _, _, _, _, _⟩) (v := ?_) rfl (by kernel_rfl) (by kernel_rfl) (by kernel_rfl) (fun _ _ _ h => h) (Or.inl ⟨by rfl, ?_⟩) (by assumption) ?_
                           rotate_left
                           · intro w5 hSw
                             try dsimp only at hSw
                             go_simp
                             try with_reducible rfl
                           try simp only [Act.put, List.setIfInBounds_toArray, List.set_cons_zero, List.set_cons_succ])
                      first
                        | (refine wpAnyH_take (i := 21) (oi := ⟨_, _, _, _, _, _⟩) (v := undef) rfl (by kernel_rfl) (by kernel_rfl) (by kernel_rfl) (fun _ _ _ h => h) (Or.inr ⟨by rfl, rfl⟩) (by assumption) ?_
                           try simp only [Act.put, List.setIfInBounds_toArray, List.set_cons_zero, List.set_cons_succ])
                        | (refine wpAnyH_take (i := 21) (oi := ⟨_, _, _, _, _, _⟩) (v := ?_) rfl (by kernel_rfl) (by kernel_rfl) (by kernel_rfl) (fun _ _ _ h => h) (Or.inl ⟨by rfl, ?_⟩) (by assumption) ?_
                           rotate_left
                           · intro w5 hSw
                             try dsimp only at hSw
                             go_simp
                             try with_reducible rfl
                           try simp only [Act.put, List.setIfInBounds_toArray, List.set_cons_zero, List.set_cons_succ])
                      first
                        | (refine wpAnyH_take (i := 22) (oi := ⟨_, _, _, _, _, _⟩) (v := undef) rfl (by kernel_rfl) (by kernel_rfl) (by kernel_rfl) (fun _ _ _ h => h) (Or.inr ⟨by rfl, rfl⟩) (by assumption) ?_
                           try simp only [Act.put, List.setIfInBounds_toArray, List.set_cons_zero, List.set_cons_succ])
                        | (refine wpAnyH_take (i := 22) (oi := ⟨_, _, _, _, _, _⟩) (v := ?_) rfl (by kernel_rfl) (by kernel_rfl) (by kernel_rfl) (fun _ _ _ h => h) (Or.inl ⟨by rfl, ?_⟩) (by assumption) ?_
                           rotate_left
                           · intro w5 hSw
                             try dsimp only at hSw
                             go_simp
                             try with_reducible rfl
                           try simp only [Act.put, List.setIfInBounds_toArray, List.set_cons_zero, List.set_cons_succ])
                      first
                        | (refine wpAnyH_take (i := 23) (oi := ⟨_, _, _, _, _, _⟩) (v := undef) rfl (by kernel_rfl) (by kernel_rfl) (by kernel_rfl) (fun _ _ _ h => h) (Or.inr ⟨by rfl, rfl⟩) (by assumption) ?_
                           try simp only [Act.put, List.setIfInBounds_toArray, List.set_cons_zero, List.set_cons_succ])
                        | (refine wpAnyH_take (i := 23) (oi := ⟨_, _, _, _, _, _⟩) (v := ?_) rfl (by kernel_rfl) (by kernel_rfl) (by kernel_rfl) (fun _ _ _ h => h) (Or.inl ⟨by rfl, ?_⟩) (by assumption) ?_
                           rotate_left
                           · intro w5 hSw
                             try dsimp only at hSw
                             go_simp
                             try with_reducible rfl
                           try simp only [Act.put, List.setIfInBounds_toArray, List.set_cons_zero, List.set_cons_succ])
                      first
                        | (refine wpAnyH_take (i := 24) (oi := ⟨_, _, _, _, _, _⟩) (v := undef) rfl (by kernel_rfl) (by kernel_rfl) (by kernel_rfl) (fun _ _ _ h => h) (Or.inr ⟨by rfl, rfl⟩) (by assumption) ?_
                           try simp only [Act.put, List.setIfInBounds_toArray, List.set_cons_zero, List.set_cons_succ])
                        | (refine wpAnyH_take (i := 24) (oi := ⟨_, _, _, _, _, _⟩) (v := ?_) rfl (by kernel_rfl) (by kernel_rfl) (by kernel_rfl) (fun _ _ _ h => h) (Or.inl ⟨by rfl, ?_⟩) (by assumption) ?_
                           rotate_left
                           · intro w5 hSw
                             try dsimp only at hSw
                             go_simp
                             try with_reducible rfl
                           try simp only [Act.put, List.setIfInBounds_toArray, List.set_cons_zero, List.set_cons_succ])
                      refine wpAnyH_done (by kernel_rfl) ?_ _
                      go_wp2_with fail
                      go_ret
                      exact ⟨rfl, L11.out⟩

end Go.Proofs.Ytehdlpgopcoecaa
