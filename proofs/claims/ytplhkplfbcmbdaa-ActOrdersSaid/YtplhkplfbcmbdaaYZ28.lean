/- awake answers true, over whatever Begin, First, Handle are known to answer. awake answers true, of the program itself. Slices that came in, as rows: what the frames share. -/
import Derived.Test.YtplhkplfbcmbdaaYZ27
import Derived.Test.YtplhkplfbcmbdaaYZ3
import Derived.Test.YtplhkplfbcmbdaaYActP6
import Derived.Test.YtplhkplfbcmbdaaYZ1
namespace Go.Proofs.Ytplhkplfbcmbdaa
open Go.RowKit Go.Deep
set_option linter.unusedVariables false
set_option maxRecDepth 100000

theorem cells_below {u u2 : World} {b o : Nat} {v : Value} (h : u.cell? ⟨b, o, none⟩ = some v) (k : Below u.heap.size u u2) : u2.cell? ⟨b, o, none⟩ = some v := (k.cell (p := ⟨b, o, none⟩) (cell_lt h)).trans h
theorem smallP_b (k : Nat) : r64v (smallP k).b := by
  unfold smallP
  repeat' split
  all_goals (unfold r64v; decide)
theorem small_firstA : firstA smallM 0 = (firstS smallM 0, 0) := by
  unfold firstA
  rw [if_neg (by rw [small_check]; decide), if_neg (by decide)]
  rfl
theorem small_bd : Bd (beginM (inpOf smallM 0 (firstA smallM 0).1 ⟨4607182418800017408, -1, 0, 0, 2⟩)) := by
  rw [small_firstA]
  refine bd_begin ?_ ?_ ?_ ?_ fun k => ?_
  · show r64v 2; unfold r64v; decide
  · show r64v 0; unfold r64v; decide
  · show r64v 1; unfold r64v; decide
  · show (1 : Nat) ≤ _; decide
  · show r64v 1; unfold r64v; decide
set_option maxHeartbeats 6400000 in
theorem awake8_core (HBG : Hid BeginAny) (HFI : Hid FirstAny) (HHA : Hid HandleAny) (w : World) :
    Calls Try.prog 10 #[] w fun x w' => x = .returned (.bool true) ∧ Below w.heap.size w w' := by
  have HB : Hid (∀ u vd vp vl vi, MdlAt smallM vd vp vl vi u → Calls Try.prog 11 #[mval smallM vd vp vl vi] u fun x w' => ∃ b o c, x = .returned (.tuple #[.slice (some ⟨b, o, none⟩) 1 c, .int .i64 0]) ∧ (w'.cell? ⟨b, o, none⟩ = some (.float .f64 4607182418800017408) ∧ w'.cell? ⟨b, o + 1, none⟩ = some (.int .i64 (-1)) ∧ w'.cell? ⟨b, o + 2, none⟩ = some (.int .i64 0) ∧ w'.cell? ⟨b, o + 3, none⟩ = some (.int .i64 0) ∧ w'.cell? ⟨b, o + 4, none⟩ = some (.int .i64 2)) ∧ Below u.heap.size u w') := fun u vd vp vl vi hm => by
    refine (HBG.out smallM vd vp vl vi u hm).mono ?_
    rintro x w' ⟨v, rfl, hv, hb⟩
    obtain ⟨q0, q1, q2, q3, q4, q5, q6⟩ := small_begin
    obtain ⟨a, c, rfl, _, _, hk⟩ := hv.sl
    rw [q1] at hk ⊢
    obtain ⟨b, o, rfl, hA⟩ := hk (by omega)
    have r0 := hA.2 0 (by omega) 0 (by omega)
    have r1 := hA.2 0 (by omega) 1 (by omega)
    have r2 := hA.2 0 (by omega) 2 (by omega)
    have r3 := hA.2 0 (by omega) 3 (by omega)
    have r4 := hA.2 0 (by omega) 4 (by omega)
    simp only [gV8, q2, q3, q4, q5, q6] at r0 r1 r2 r3 r4
    rw [q0]
    exact ⟨b, o, c, rfl, ⟨r0, r1, r2, r3, r4⟩, hb⟩
  have HF : Hid (∀ u vd vp vl vi, MdlAt smallM vd vp vl vi u → Calls Try.prog 12 #[mval smallM vd vp vl vi, .int .i64 0] u fun x w' => ∃ b o c, x = .returned (.tuple #[.agg #[.slice (some ⟨b, o, none⟩) 1 c, .int .i64 0, .int .i64 0], .int .i64 0]) ∧ Sl 1 (gW (firstA smallM 0).1.w) 1 (.slice (some ⟨b, o, none⟩) 1 c) w' ∧ Below u.heap.size u w') := fun u vd vp vl vi hm => by
    refine (HFI.out smallM vd vp vl vi 0 u hm).mono ?_
    rintro x w' ⟨v, rfl, ⟨vI, rfl, hv⟩, hb⟩
    obtain ⟨q0, q1, q2, q3, q4⟩ := small_first
    have hs := own_sl hv
    rw [q1] at hs
    obtain ⟨a, c, rfl, m1, m2, hk⟩ := id hs
    obtain ⟨b, o, rfl, hA⟩ := hk (by omega)
    unfold sval
    rw [q0, q3, q4]
    exact ⟨b, o, c, rfl, hs, hb⟩
  have HH : Hid (∀ u vd vp vl vi vI, MdlAt smallM vd vp vl vi u → Sl 1 (gW (firstA smallM 0).1.w) 1 vI u → Calls Try.prog 20 #[mval smallM vd vp vl vi, .int .i64 0, .agg #[vI, .int .i64 0, .int .i64 0], .agg #[.float .f64 4607182418800017408, .int .i64 (-1), .int .i64 0, .int .i64 0, .int .i64 2]] u fun x w' => ∃ hb ho hc hd gb go gc, x = .returned (.tuple #[.agg #[.slice (some ⟨hb, ho, none⟩) 1 hc, .int .i64 1, .int .i64 hd], .slice (some ⟨gb, go, none⟩) 1 gc, .int .i64 0, .int .i64 0]) ∧ (w'.cell? ⟨hb, ho, none⟩ = some (.int .i64 3) ∧ w'.cell? ⟨gb, go, none⟩ = some (.float .f64 4609434218613702656) ∧ w'.cell? ⟨gb, go + 2, none⟩ = some (.int .i64 0) ∧ w'.cell? ⟨gb, go + 4, none⟩ = some (.int .i64 3)) ∧ (u.heap.size ≤ hb ∧ u.heap.size ≤ gb) ∧ Below u.heap.size u w') := fun u vd vp vl vi vI hm hs => by
    obtain ⟨q0, q1, q2, q3, q4⟩ := small_first
    have h1 := HHA.out smallM vd vp vl vi 0 (firstA smallM 0).1 vI ⟨4607182418800017408, -1, 0, 0, 2⟩ u hm (by rw [q1]; exact hs) (fun _ k => smallP_b k) small_bd
    unfold sval eval8 at h1
    rw [q3, q4] at h1
    refine h1.mono ?_
    rintro x w' ⟨vs, ve, rfl, ⟨vJ, rfl, h2⟩, h3, hb⟩
    obtain ⟨p0, p1, p2, p3, p4, p5, p6, p7, p8⟩ := small_hand
    have h2 : w'.ownsRow u.heap.size 3 1 vJ smallH.s.nw (rowCells 1 (gW smallH.s.w) smallH.s.nw) := h2
    have h3 : EvsAt u.heap.size smallH.l ve w' := h3
    have lo1 := fun g (e : vJ.ownBlock = some g) => (own_lt h2 e).1
    have lo2 : ∀ g, ve.ownBlock = some g → u.heap.size ≤ g := fun g e => by obtain ⟨_, _, rfl, h9⟩ := id h3; exact (own_lt h9 e).1
    show ∃ hb ho hc hd gb go gc, Ending.returned (.tuple #[.agg #[vJ, .int .i64 smallH.s.sent, .int .i64 smallH.s.dice], ve, .int .i64 smallH.f, .int .i64 smallH.e]) = _ ∧ _
    have k2 := own_sl h2
    rw [p2] at k2
    obtain ⟨a1, c1, rfl, _, _, kk⟩ := k2
    obtain ⟨b1, o1, rfl, hA⟩ := kk (by omega)
    obtain ⟨a2, c2, rfl, _, _, kl⟩ := h3.sl
    rw [p5] at kl ⊢
    obtain ⟨b2, o2, rfl, hB⟩ := kl (by omega)
    have r0 := hA.2 0 (by omega) 0 (by omega)
    have s0 := hB.2 0 (by omega) 0 (by omega)
    have s2 := hB.2 0 (by omega) 2 (by omega)
    have s4 := hB.2 0 (by omega) 4 (by omega)
    simp only [gW, gV8, p3, p6, p7, p8] at r0 s0 s2 s4
    rw [p0, p1, p4]
    exact ⟨b1, o1, c1, smallH.s.dice, b2, o2, c2, rfl, ⟨r0, s0, s2, s4⟩, ⟨lo1 _ rfl, lo2 _ rfl⟩, hb⟩
  have HS := Lib.hid small8_any
  clear HBG HFI HHA
  go_enter Try.func10, Try.ntmps10
  go_wp2_with fail
  refine (HS.out _).mono ?_
  rintro x u1 ⟨vd, vp, vl, vi, rfl, hm1, hb1⟩
  have M1 := Lib.hid hm1
  have BU := Lib.hid hb1
  clear hm1 hb1
  go_wp2_with fail
  refine (HB.out _ _ _ _ _ M1.out).mono ?_
  rintro x u2 ⟨eb, eo, ec, rfl, hev, hb2⟩
  have EV := Lib.hid hev
  have BU := Lib.hid (bthen BU.out hb2)
  clear hb2 hev M1
  go_wp2_with fail
  refine (HS.out _).mono ?_
  rintro x u3 ⟨vd3, vp3, vl3, vi3, rfl, hm3, hb3⟩
  have M3 := Lib.hid hm3
  have EV3 := Lib.hid hb3
  have BU := Lib.hid (bthen BU.out hb3)
  clear hm3 hb3
  go_wp2_with fail
  refine (HF.out _ _ _ _ _ M3.out).mono ?_
  rintro x u4 ⟨fb, fo, fc, rfl, hsf, hb4⟩
  have S4 := Lib.hid hsf
  have EV4 := Lib.hid (bthen EV3.out hb4)
  have BU := Lib.hid (bthen BU.out hb4)
  clear hb4 hsf M3 EV3
  go_upto_region 3 with fail
  have S5 := Lib.hid (S4.out.below (balloc u4 (.cells #[.slice (some ⟨fb, fo, none⟩) 1 fc, .int .i64 0, .int .i64 0] 37)))
  have Y5 := Lib.hid (heap_alloc_new u4 (.cells #[.slice (some ⟨fb, fo, none⟩) 1 fc, .int .i64 0, .int .i64 0] 37))
  have EV5 := Lib.hid (bthen EV4.out (balloc u4 (.cells #[.slice (some ⟨fb, fo, none⟩) 1 fc, .int .i64 0, .int .i64 0] 37)))
  have BU := Lib.hid (bthen BU.out (balloc u4 (.cells #[.slice (some ⟨fb, fo, none⟩) 1 fc, .int .i64 0, .int .i64 0] 37)))
  clear S4 EV4
  generalize u4.alloc (.cells #[.slice (some ⟨fb, fo, none⟩) 1 fc, .int .i64 0, .int .i64 0] 37) = u5 at *
  generalize u4.heap.size = yb at *
  have KS : ∀ u6, Below u5.heap.size u5 u6 → (fun w' => w'.cell? ⟨yb, 0, none⟩ = some (.slice (some ⟨fb, fo, none⟩) 1 fc) ∧ w'.cell? ⟨yb, 1, none⟩ = some (.int .i64 0) ∧ w'.cell? ⟨yb, 2, none⟩ = some (.int .i64 0) ∧ w'.cell? ⟨eb, eo, none⟩ = some (.float .f64 4607182418800017408) ∧ w'.cell? ⟨eb, eo + 1, none⟩ = some (.int .i64 (-1)) ∧ w'.cell? ⟨eb, eo + 2, none⟩ = some (.int .i64 0) ∧ w'.cell? ⟨eb, eo + 3, none⟩ = some (.int .i64 0) ∧ w'.cell? ⟨eb, eo + 4, none⟩ = some (.int .i64 2)) u6 := fun u6 k => by
    obtain ⟨y0, y1, y2⟩ := three_cells8 ((k.block _ (lt_of_block Y5.out)).trans Y5.out)
    obtain ⟨e0, e1, e2, e3, e4⟩ := EV.out
    have kk := bthen EV5.out k
    exact ⟨y0, y1, y2, cells_below e0 kk, cells_below e1 kk, cells_below e2 kk, cells_below e3 kk, cells_below e4 kk⟩
  have KS := Lib.hid KS
  go_upto_region 5 with fail
  go_cut [5, 6, 7, 8] (fun p l f g wx => ∃ kb hb ho hc hd gb go gc, p = .pointer (some ⟨kb, 0, none⟩) ∧ l = .slice (some ⟨gb, go, none⟩) 1 gc ∧ f = .int .i64 0 ∧ g = .int .i64 0 ∧ wx.heap[kb]? = some (.cells #[.slice (some ⟨hb, ho, none⟩) 1 hc, .int .i64 1, .int .i64 hd] 37 (0, 0)) ∧ (wx.cell? ⟨hb, ho, none⟩ = some (.int .i64 3) ∧ wx.cell? ⟨gb, go, none⟩ = some (.float .f64 4609434218613702656) ∧ wx.cell? ⟨gb, go + 2, none⟩ = some (.int .i64 0) ∧ wx.cell? ⟨gb, go + 4, none⟩ = some (.int .i64 3)) ∧ Below u5.heap.size u5 wx)
  case first =>
    have K0 := Lib.hid (bdrew u5)
    refine wp_region_held_drew (S := (fun w' => w'.cell? ⟨yb, 0, none⟩ = some (.slice (some ⟨fb, fo, none⟩) 1 fc) ∧ w'.cell? ⟨yb, 1, none⟩ = some (.int .i64 0) ∧ w'.cell? ⟨yb, 2, none⟩ = some (.int .i64 0) ∧ w'.cell? ⟨eb, eo, none⟩ = some (.float .f64 4607182418800017408) ∧ w'.cell? ⟨eb, eo + 1, none⟩ = some (.int .i64 (-1)) ∧ w'.cell? ⟨eb, eo + 2, none⟩ = some (.int .i64 0) ∧ w'.cell? ⟨eb, eo + 3, none⟩ = some (.int .i64 0) ∧ w'.cell? ⟨eb, eo + 4, none⟩ = some (.int .i64 2))) (by kernel_rfl) ?_ (fun hHeld => ?_)
    · exact KS.out _ K0.out
    change wpAnyH _ _ _ _ _ _ _ _ (World.drew u5)
    generalize u5.drew = u0 at *
    first
      | refine tk0 1 (oi := ⟨_, _, _, _, _, _⟩) rfl ?_
      | refine tk1 1 (oi := ⟨_, _, _, _, _, _⟩) (v := ?_) rfl ?_ ?_; rotate_left; · (intro w5 hSw; (try dsimp only at hSw); go_simp; (try with_reducible rfl))
    try simp only [Act.put, List.setIfInBounds_toArray, List.set_cons_zero, List.set_cons_succ]
    first
      | refine tk0 2 (oi := ⟨_, _, _, _, _, _⟩) rfl ?_
      | refine tk1 2 (oi := ⟨_, _, _, _, _, _⟩) (v := ?_) rfl ?_ ?_; rotate_left; · (intro w5 hSw; (try dsimp only at hSw); go_simp; (try with_reducible rfl))
    try simp only [Act.put, List.setIfInBounds_toArray, List.set_cons_zero, List.set_cons_succ]
    first
      | refine tk0 3 (oi := ⟨_, _, _, _, _, _⟩) rfl ?_
      | refine tk1 3 (oi := ⟨_, _, _, _, _, _⟩) (v := ?_) rfl ?_ ?_; rotate_left; · (intro w5 hSw; (try dsimp only at hSw); go_simp; (try with_reducible rfl))
    try simp only [Act.put, List.setIfInBounds_toArray, List.set_cons_zero, List.set_cons_succ]
    first
      | refine tk0 4 (oi := ⟨_, _, _, _, _, _⟩) rfl ?_
      | refine tk1 4 (oi := ⟨_, _, _, _, _, _⟩) (v := ?_) rfl ?_ ?_; rotate_left; · (intro w5 hSw; (try dsimp only at hSw); go_simp; (try with_reducible rfl))
    try simp only [Act.put, List.setIfInBounds_toArray, List.set_cons_zero, List.set_cons_succ]
    refine wpAnyH_ready (rs := [0, 11]) (by kernel_rfl) (by simp) ?_
    refine AllReadyH.cons (o := ⟨_, _, _, _, _, _⟩) rfl (fun K hK => ?_) (AllReadyH.cons (o := ⟨_, _, _, _, _, _⟩) rfl (fun K hK => ?_) AllReadyH.nil)
    · go_simp
      go_at_call 26
      refine (HS.out _).mono ?_
      rintro x u6 ⟨vd6, vp6, vl6, vi6, rfl, hm6, hb6⟩
      have Mu6 := Lib.hid hm6
      have K6 := Lib.hid (bthen K0.out hb6)
      refine hK.out _ _ ?_ (fun hHeld => ?_)
      · exact KS.out _ K6.out
      clear hK K
      try simp only [Act.put, List.setIfInBounds_toArray, List.set_cons_zero, List.set_cons_succ]
      clear hm6 hb6
      refine wpAnyH_ready (rs := [5, 11]) (by kernel_rfl) (by simp) ?_
      refine AllReadyH.cons (o := ⟨_, _, _, _, _, _⟩) rfl (fun K hK => ?_) (AllReadyH.cons (o := ⟨_, _, _, _, _, _⟩) rfl (fun K hK => ?_) AllReadyH.nil)
      · go_simp
        go_at_call 20
        refine (HH.out _ _ _ _ _ _ Mu6.out (S5.out.below K6.out)).mono ?_
        rintro x u7 ⟨hb, ho, hc, hd, gb, go, gc, rfl, hh, hlo, hb7⟩
        have K7 := Lib.hid (bthen K6.out hb7)
        refine hK.out _ _ ?_ (fun hHeld => ?_)
        · exact KS.out _ K7.out
        clear hK K
        try simp only [Act.put, List.setIfInBounds_toArray, List.set_cons_zero, List.set_cons_succ]
        clear hb7
        first
          | refine tk0 6 (oi := ⟨_, _, _, _, _, _⟩) rfl ?_
          | refine tk1 6 (oi := ⟨_, _, _, _, _, _⟩) (v := ?_) rfl ?_ ?_; rotate_left; · (intro w5 hSw; (try dsimp only at hSw); go_simp; (try with_reducible rfl))
        try simp only [Act.put, List.setIfInBounds_toArray, List.set_cons_zero, List.set_cons_succ]
        first
          | refine tk0 7 (oi := ⟨_, _, _, _, _, _⟩) rfl ?_
          | refine tk1 7 (oi := ⟨_, _, _, _, _, _⟩) (v := ?_) rfl ?_ ?_; rotate_left; · (intro w5 hSw; (try dsimp only at hSw); go_simp; (try with_reducible rfl))
        try simp only [Act.put, List.setIfInBounds_toArray, List.set_cons_zero, List.set_cons_succ]
        first
          | refine tk0 8 (oi := ⟨_, _, _, _, _, _⟩) rfl ?_
          | refine tk1 8 (oi := ⟨_, _, _, _, _, _⟩) (v := ?_) rfl ?_ ?_; rotate_left; · (intro w5 hSw; (try dsimp only at hSw); go_simp; (try with_reducible rfl))
        try simp only [Act.put, List.setIfInBounds_toArray, List.set_cons_zero, List.set_cons_succ]
        first
          | refine tk0 9 (oi := ⟨_, _, _, _, _, _⟩) rfl ?_
          | refine tk1 9 (oi := ⟨_, _, _, _, _, _⟩) (v := ?_) rfl ?_ ?_; rotate_left; · (intro w5 hSw; (try dsimp only at hSw); go_simp; (try with_reducible rfl))
        try simp only [Act.put, List.setIfInBounds_toArray, List.set_cons_zero, List.set_cons_succ]
        first
          | refine tk0 10 (oi := ⟨_, _, _, _, _, _⟩) rfl ?_
          | refine tk1 10 (oi := ⟨_, _, _, _, _, _⟩) (v := ?_) rfl ?_ ?_; rotate_left; · (intro w5 hSw; (try dsimp only at hSw); go_simp; (try with_reducible rfl))
        try simp only [Act.put, List.setIfInBounds_toArray, List.set_cons_zero, List.set_cons_succ]
        refine wpAnyH_ready (rs := [11]) (by kernel_rfl) (by simp) ?_
        refine AllReadyH.cons (o := ⟨_, _, _, _, _, _⟩) rfl (fun K hK => ?_) AllReadyH.nil
        go_simp
        have K8 := Lib.hid (bthen K7.out (balloc u7 (.cells #[.slice none 0 0, .int .i64 0, .int .i64 0] 37)))
        have Z8 := Lib.hid (heap_alloc_new u7 (.cells #[.slice none 0 0, .int .i64 0, .int .i64 0] 37))
        have hkb0 : u5.heap.size ≤ u7.heap.size := K7.out.size
        have hn1 : hb ≠ u7.heap.size := by have := cell_lt hh.1; show hb ≠ _; simp only at this; omega
        have hn2 : gb ≠ u7.heap.size := by have := cell_lt hh.2.1; simp only at this; omega
        have hh : (u7.alloc (.cells #[.slice none 0 0, .int .i64 0, .int .i64 0] 37)).cell? ⟨hb, ho, none⟩ = some (.int .i64 3) ∧ (u7.alloc (.cells #[.slice none 0 0, .int .i64 0, .int .i64 0] 37)).cell? ⟨gb, go, none⟩ = some (.float .f64 4609434218613702656) ∧ (u7.alloc (.cells #[.slice none 0 0, .int .i64 0, .int .i64 0] 37)).cell? ⟨gb, go + 2, none⟩ = some (.int .i64 0) ∧ (u7.alloc (.cells #[.slice none 0 0, .int .i64 0, .int .i64 0] 37)).cell? ⟨gb, go + 4, none⟩ = some (.int .i64 3) := ⟨cells_below hh.1 (balloc u7 (.cells #[.slice none 0 0, .int .i64 0, .int .i64 0] 37)), cells_below hh.2.1 (balloc u7 (.cells #[.slice none 0 0, .int .i64 0, .int .i64 0] 37)), cells_below hh.2.2.1 (balloc u7 (.cells #[.slice none 0 0, .int .i64 0, .int .i64 0] 37)), cells_below hh.2.2.2 (balloc u7 (.cells #[.slice none 0 0, .int .i64 0, .int .i64 0] 37))⟩
        refine hK.out _ _ ?_ (fun hHeld => ?_)
        · exact KS.out _ K8.out
        clear hK K
        try simp only [Act.put, List.setIfInBounds_toArray, List.set_cons_zero, List.set_cons_succ]
        generalize u7.alloc (.cells #[.slice none 0 0, .int .i64 0, .int .i64 0] 37) = u8 at *
        generalize u7.heap.size = kb at *
        have hkb := hkb0
        obtain ⟨z0, z1, z2⟩ := three_cells8 Z8.out
        have zf : ∀ q, u8.frozen? ⟨kb, q, none⟩ = false := fun q => Lib.frozen_of_heap Z8.out q
        have KF := Lib.hid (K8.out.trans (put_low7 (B := kb) hkb [.slice (some ⟨hb, ho, none⟩) 1 hc, .int .i64 1, .int .i64 hd] 0 u8))
        have PZ := Lib.hid (put_three8 Z8.out (.slice (some ⟨hb, ho, none⟩) 1 hc) (.int .i64 1) (.int .i64 hd))
        have HZ : Hid ((World.setCells u8 (kb) 0 [.slice (some ⟨hb, ho, none⟩) 1 hc, .int .i64 1, .int .i64 hd]).cell? ⟨hb, ho, none⟩ = some (.int .i64 3) ∧ (World.setCells u8 (kb) 0 [.slice (some ⟨hb, ho, none⟩) 1 hc, .int .i64 1, .int .i64 hd]).cell? ⟨gb, go, none⟩ = some (.float .f64 4609434218613702656) ∧ (World.setCells u8 (kb) 0 [.slice (some ⟨hb, ho, none⟩) 1 hc, .int .i64 1, .int .i64 hd]).cell? ⟨gb, go + 2, none⟩ = some (.int .i64 0) ∧ (World.setCells u8 (kb) 0 [.slice (some ⟨hb, ho, none⟩) 1 hc, .int .i64 1, .int .i64 hd]).cell? ⟨gb, go + 4, none⟩ = some (.int .i64 3)) := by
          obtain ⟨g0, g1, g2, g3⟩ := hh
          exact ⟨(World.cell?_of_block (w := u8) (a := ⟨hb, ho, none⟩) (setCells_other8 hn1 _ 0 _)).trans g0, (World.cell?_of_block (w := u8) (a := ⟨gb, go, none⟩) (setCells_other8 hn2 _ 0 _)).trans g1, (World.cell?_of_block (w := u8) (a := ⟨gb, go + 2, none⟩) (setCells_other8 hn2 _ 0 _)).trans g2, (World.cell?_of_block (w := u8) (a := ⟨gb, go + 4, none⟩) (setCells_other8 hn2 _ 0 _)).trans g3⟩
        refine wpAnyH_ready (rs := [12]) (by kernel_rfl) (by simp) ?_
        refine AllReadyH.cons (o := ⟨_, _, _, _, _, _⟩) rfl (fun K hK => ?_) AllReadyH.nil
        go_simp
        change K _ (World.setCells u8 (kb) 0 [.slice (some ⟨hb, ho, none⟩) 1 hc, .int .i64 1, .int .i64 hd])
        refine hK.out _ _ ?_ (fun hHeld => ?_)
        · exact KS.out _ KF.out
        clear hK K z0 z1 z2 zf
        try simp only [Act.put, List.setIfInBounds_toArray, List.set_cons_zero, List.set_cons_succ]
        first
          | refine tk0 13 (oi := ⟨_, _, _, _, _, _⟩) rfl ?_
          | refine tk1 13 (oi := ⟨_, _, _, _, _, _⟩) (v := ?_) rfl ?_ ?_; rotate_left; · (intro w5 hSw; (try dsimp only at hSw); go_simp; (try with_reducible rfl))
        try simp only [Act.put, List.setIfInBounds_toArray, List.set_cons_zero, List.set_cons_succ]
        first
          | refine tk0 14 (oi := ⟨_, _, _, _, _, _⟩) rfl ?_
          | refine tk1 14 (oi := ⟨_, _, _, _, _, _⟩) (v := ?_) rfl ?_ ?_; rotate_left; · (intro w5 hSw; (try dsimp only at hSw); go_simp; (try with_reducible rfl))
        try simp only [Act.put, List.setIfInBounds_toArray, List.set_cons_zero, List.set_cons_succ]
        first
          | refine tk0 15 (oi := ⟨_, _, _, _, _, _⟩) rfl ?_
          | refine tk1 15 (oi := ⟨_, _, _, _, _, _⟩) (v := ?_) rfl ?_ ?_; rotate_left; · (intro w5 hSw; (try dsimp only at hSw); go_simp; (try with_reducible rfl))
        try simp only [Act.put, List.setIfInBounds_toArray, List.set_cons_zero, List.set_cons_succ]
        refine wpAnyH_done (by kernel_rfl) ?_ _
        change Exit.then _ _ _ _ (World.setCells u8 (kb) 0 [.slice (some ⟨hb, ho, none⟩) 1 hc, .int .i64 1, .int .i64 hd])
        generalize World.setCells u8 (kb) 0 [.slice (some ⟨hb, ho, none⟩) 1 hc, .int .i64 1, .int .i64 hd] = w9 at *
        go_wp2_with fail
        go_meet
        exact ⟨_, hb, ho, hc, hd, gb, go, gc, rfl, rfl, rfl, rfl, PZ.out, HZ.out, KF.out⟩
      · go_simp
        have K7 := Lib.hid (bthen K6.out (balloc u6 (.cells #[.slice none 0 0, .int .i64 0, .int .i64 0] 37)))
        have Z7 := Lib.hid (heap_alloc_new u6 (.cells #[.slice none 0 0, .int .i64 0, .int .i64 0] 37))
        have hkb0 : u5.heap.size ≤ u6.heap.size := K6.out.size
        have M7 := Lib.hid (Mu6.out.below (balloc u6 (.cells #[.slice none 0 0, .int .i64 0, .int .i64 0] 37)))
        refine hK.out _ _ ?_ (fun hHeld => ?_)
        · exact KS.out _ K7.out
        clear hK K
        try simp only [Act.put, List.setIfInBounds_toArray, List.set_cons_zero, List.set_cons_succ]
        have lk := lt_of_block Z7.out
        generalize u6.alloc (.cells #[.slice none 0 0, .int .i64 0, .int .i64 0] 37) = u7 at *
        generalize u6.heap.size = kb at *
        have hkb := hkb0
        refine wpAnyH_ready (rs := [5]) (by kernel_rfl) (by simp) ?_
        refine AllReadyH.cons (o := ⟨_, _, _, _, _, _⟩) rfl (fun K hK => ?_) AllReadyH.nil
        go_simp
        go_at_call 20
        refine (HH.out _ _ _ _ _ _ M7.out (S5.out.below K7.out)).mono ?_
        rintro x u8 ⟨hb, ho, hc, hd, gb, go, gc, rfl, hh, hlo, hb7⟩
        have K8 := Lib.hid (bthen K7.out hb7)
        have Z8 := Lib.hid ((hb7.block _ lk).trans Z7.out)
        have hn1 : hb ≠ kb := by omega
        have hn2 : gb ≠ kb := by omega
        refine hK.out _ _ ?_ (fun hHeld => ?_)
        · exact KS.out _ K8.out
        clear hK K
        try simp only [Act.put, List.setIfInBounds_toArray, List.set_cons_zero, List.set_cons_succ]
        clear hb7
        first
          | refine tk0 6 (oi := ⟨_, _, _, _, _, _⟩) rfl ?_
          | refine tk1 6 (oi := ⟨_, _, _, _, _, _⟩) (v := ?_) rfl ?_ ?_; rotate_left; · (intro w5 hSw; (try dsimp only at hSw); go_simp; (try with_reducible rfl))
        try simp only [Act.put, List.setIfInBounds_toArray, List.set_cons_zero, List.set_cons_succ]
        first
          | refine tk0 7 (oi := ⟨_, _, _, _, _, _⟩) rfl ?_
          | refine tk1 7 (oi := ⟨_, _, _, _, _, _⟩) (v := ?_) rfl ?_ ?_; rotate_left; · (intro w5 hSw; (try dsimp only at hSw); go_simp; (try with_reducible rfl))
        try simp only [Act.put, List.setIfInBounds_toArray, List.set_cons_zero, List.set_cons_succ]
        first
          | refine tk0 8 (oi := ⟨_, _, _, _, _, _⟩) rfl ?_
          | refine tk1 8 (oi := ⟨_, _, _, _, _, _⟩) (v := ?_) rfl ?_ ?_; rotate_left; · (intro w5 hSw; (try dsimp only at hSw); go_simp; (try with_reducible rfl))
        try simp only [Act.put, List.setIfInBounds_toArray, List.set_cons_zero, List.set_cons_succ]
        first
          | refine tk0 9 (oi := ⟨_, _, _, _, _, _⟩) rfl ?_
          | refine tk1 9 (oi := ⟨_, _, _, _, _, _⟩) (v := ?_) rfl ?_ ?_; rotate_left; · (intro w5 hSw; (try dsimp only at hSw); go_simp; (try with_reducible rfl))
        try simp only [Act.put, List.setIfInBounds_toArray, List.set_cons_zero, List.set_cons_succ]
        first
          | refine tk0 10 (oi := ⟨_, _, _, _, _, _⟩) rfl ?_
          | refine tk1 10 (oi := ⟨_, _, _, _, _, _⟩) (v := ?_) rfl ?_ ?_; rotate_left; · (intro w5 hSw; (try dsimp only at hSw); go_simp; (try with_reducible rfl))
        try simp only [Act.put, List.setIfInBounds_toArray, List.set_cons_zero, List.set_cons_succ]
        obtain ⟨z0, z1, z2⟩ := three_cells8 Z8.out
        have zf : ∀ q, u8.frozen? ⟨kb, q, none⟩ = false := fun q => Lib.frozen_of_heap Z8.out q
        have KF := Lib.hid (K8.out.trans (put_low7 (B := kb) hkb [.slice (some ⟨hb, ho, none⟩) 1 hc, .int .i64 1, .int .i64 hd] 0 u8))
        have PZ := Lib.hid (put_three8 Z8.out (.slice (some ⟨hb, ho, none⟩) 1 hc) (.int .i64 1) (.int .i64 hd))
        have HZ : Hid ((World.setCells u8 (kb) 0 [.slice (some ⟨hb, ho, none⟩) 1 hc, .int .i64 1, .int .i64 hd]).cell? ⟨hb, ho, none⟩ = some (.int .i64 3) ∧ (World.setCells u8 (kb) 0 [.slice (some ⟨hb, ho, none⟩) 1 hc, .int .i64 1, .int .i64 hd]).cell? ⟨gb, go, none⟩ = some (.float .f64 4609434218613702656) ∧ (World.setCells u8 (kb) 0 [.slice (some ⟨hb, ho, none⟩) 1 hc, .int .i64 1, .int .i64 hd]).cell? ⟨gb, go + 2, none⟩ = some (.int .i64 0) ∧ (World.setCells u8 (kb) 0 [.slice (some ⟨hb, ho, none⟩) 1 hc, .int .i64 1, .int .i64 hd]).cell? ⟨gb, go + 4, none⟩ = some (.int .i64 3)) := by
          obtain ⟨g0, g1, g2, g3⟩ := hh
          exact ⟨(World.cell?_of_block (w := u8) (a := ⟨hb, ho, none⟩) (setCells_other8 hn1 _ 0 _)).trans g0, (World.cell?_of_block (w := u8) (a := ⟨gb, go, none⟩) (setCells_other8 hn2 _ 0 _)).trans g1, (World.cell?_of_block (w := u8) (a := ⟨gb, go + 2, none⟩) (setCells_other8 hn2 _ 0 _)).trans g2, (World.cell?_of_block (w := u8) (a := ⟨gb, go + 4, none⟩) (setCells_other8 hn2 _ 0 _)).trans g3⟩
        refine wpAnyH_ready (rs := [12]) (by kernel_rfl) (by simp) ?_
        refine AllReadyH.cons (o := ⟨_, _, _, _, _, _⟩) rfl (fun K hK => ?_) AllReadyH.nil
        go_simp
        change K _ (World.setCells u8 (kb) 0 [.slice (some ⟨hb, ho, none⟩) 1 hc, .int .i64 1, .int .i64 hd])
        refine hK.out _ _ ?_ (fun hHeld => ?_)
        · exact KS.out _ KF.out
        clear hK K z0 z1 z2 zf
        try simp only [Act.put, List.setIfInBounds_toArray, List.set_cons_zero, List.set_cons_succ]
        first
          | refine tk0 13 (oi := ⟨_, _, _, _, _, _⟩) rfl ?_
          | refine tk1 13 (oi := ⟨_, _, _, _, _, _⟩) (v := ?_) rfl ?_ ?_; rotate_left; · (intro w5 hSw; (try dsimp only at hSw); go_simp; (try with_reducible rfl))
        try simp only [Act.put, List.setIfInBounds_toArray, List.set_cons_zero, List.set_cons_succ]
        first
          | refine tk0 14 (oi := ⟨_, _, _, _, _, _⟩) rfl ?_
          | refine tk1 14 (oi := ⟨_, _, _, _, _, _⟩) (v := ?_) rfl ?_ ?_; rotate_left; · (intro w5 hSw; (try dsimp only at hSw); go_simp; (try with_reducible rfl))
        try simp only [Act.put, List.setIfInBounds_toArray, List.set_cons_zero, List.set_cons_succ]
        first
          | refine tk0 15 (oi := ⟨_, _, _, _, _, _⟩) rfl ?_
          | refine tk1 15 (oi := ⟨_, _, _, _, _, _⟩) (v := ?_) rfl ?_ ?_; rotate_left; · (intro w5 hSw; (try dsimp only at hSw); go_simp; (try with_reducible rfl))
        try simp only [Act.put, List.setIfInBounds_toArray, List.set_cons_zero, List.set_cons_succ]
        refine wpAnyH_done (by kernel_rfl) ?_ _
        change Exit.then _ _ _ _ (World.setCells u8 (kb) 0 [.slice (some ⟨hb, ho, none⟩) 1 hc, .int .i64 1, .int .i64 hd])
        generalize World.setCells u8 (kb) 0 [.slice (some ⟨hb, ho, none⟩) 1 hc, .int .i64 1, .int .i64 hd] = w9 at *
        go_wp2_with fail
        go_meet
        exact ⟨_, hb, ho, hc, hd, gb, go, gc, rfl, rfl, rfl, rfl, PZ.out, HZ.out, KF.out⟩
    · go_simp
      have K6 := Lib.hid (bthen K0.out (balloc u0 (.cells #[.slice none 0 0, .int .i64 0, .int .i64 0] 37)))
      have Z6 := Lib.hid (heap_alloc_new u0 (.cells #[.slice none 0 0, .int .i64 0, .int .i64 0] 37))
      have hkb0 : u5.heap.size ≤ u0.heap.size := K0.out.size
      refine hK.out _ _ ?_ (fun hHeld => ?_)
      · exact KS.out _ K6.out
      clear hK K
      try simp only [Act.put, List.setIfInBounds_toArray, List.set_cons_zero, List.set_cons_succ]
      have lk := lt_of_block Z6.out
      generalize u0.alloc (.cells #[.slice none 0 0, .int .i64 0, .int .i64 0] 37) = u6 at *
      generalize u0.heap.size = kb at *
      have hkb := hkb0
      refine wpAnyH_ready (rs := [0]) (by kernel_rfl) (by simp) ?_
      refine AllReadyH.cons (o := ⟨_, _, _, _, _, _⟩) rfl (fun K hK => ?_) AllReadyH.nil
      go_simp
      go_at_call 26
      refine (HS.out _).mono ?_
      rintro x u7 ⟨vd6, vp6, vl6, vi6, rfl, hm6, hb6⟩
      have Mu7 := Lib.hid hm6
      have K7 := Lib.hid (bthen K6.out hb6)
      have Z7 := Lib.hid ((hb6.block _ lk).trans Z6.out)
      refine hK.out _ _ ?_ (fun hHeld => ?_)
      · exact KS.out _ K7.out
      clear hK K
      try simp only [Act.put, List.setIfInBounds_toArray, List.set_cons_zero, List.set_cons_succ]
      clear hm6 hb6
      have lk7 := lt_of_block Z7.out
      refine wpAnyH_ready (rs := [5]) (by kernel_rfl) (by simp) ?_
      refine AllReadyH.cons (o := ⟨_, _, _, _, _, _⟩) rfl (fun K hK => ?_) AllReadyH.nil
      go_simp
      go_at_call 20
      refine (HH.out _ _ _ _ _ _ Mu7.out (S5.out.below K7.out)).mono ?_
      rintro x u8 ⟨hb, ho, hc, hd, gb, go, gc, rfl, hh, hlo, hb7⟩
      have K8 := Lib.hid (bthen K7.out hb7)
      have Z8 := Lib.hid ((hb7.block _ lk7).trans Z7.out)
      have hn1 : hb ≠ kb := by omega
      have hn2 : gb ≠ kb := by omega
      refine hK.out _ _ ?_ (fun hHeld => ?_)
      · exact KS.out _ K8.out
      clear hK K
      try simp only [Act.put, List.setIfInBounds_toArray, List.set_cons_zero, List.set_cons_succ]
      clear hb7
      first
        | refine tk0 6 (oi := ⟨_, _, _, _, _, _⟩) rfl ?_
        | refine tk1 6 (oi := ⟨_, _, _, _, _, _⟩) (v := ?_) rfl ?_ ?_; rotate_left; · (intro w5 hSw; (try dsimp only at hSw); go_simp; (try with_reducible rfl))
      try simp only [Act.put, List.setIfInBounds_toArray, List.set_cons_zero, List.set_cons_succ]
      first
        | refine tk0 7 (oi := ⟨_, _, _, _, _, _⟩) rfl ?_
        | refine tk1 7 (oi := ⟨_, _, _, _, _, _⟩) (v := ?_) rfl ?_ ?_; rotate_left; · (intro w5 hSw; (try dsimp only at hSw); go_simp; (try with_reducible rfl))
      try simp only [Act.put, List.setIfInBounds_toArray, List.set_cons_zero, List.set_cons_succ]
      first
        | refine tk0 8 (oi := ⟨_, _, _, _, _, _⟩) rfl ?_
        | refine tk1 8 (oi := ⟨_, _, _, _, _, _⟩) (v := ?_) rfl ?_ ?_; rotate_left; · (intro w5 hSw; (try dsimp only at hSw); go_simp; (try with_reducible rfl))
      try simp only [Act.put, List.setIfInBounds_toArray, List.set_cons_zero, List.set_cons_succ]
      first
        | refine tk0 9 (oi := ⟨_, _, _, _, _, _⟩) rfl ?_
        | refine tk1 9 (oi := ⟨_, _, _, _, _, _⟩) (v := ?_) rfl ?_ ?_; rotate_left; · (intro w5 hSw; (try dsimp only at hSw); go_simp; (try with_reducible rfl))
      try simp only [Act.put, List.setIfInBounds_toArray, List.set_cons_zero, List.set_cons_succ]
      first
        | refine tk0 10 (oi := ⟨_, _, _, _, _, _⟩) rfl ?_
        | refine tk1 10 (oi := ⟨_, _, _, _, _, _⟩) (v := ?_) rfl ?_ ?_; rotate_left; · (intro w5 hSw; (try dsimp only at hSw); go_simp; (try with_reducible rfl))
      try simp only [Act.put, List.setIfInBounds_toArray, List.set_cons_zero, List.set_cons_succ]
      obtain ⟨z0, z1, z2⟩ := three_cells8 Z8.out
      have zf : ∀ q, u8.frozen? ⟨kb, q, none⟩ = false := fun q => Lib.frozen_of_heap Z8.out q
      have KF := Lib.hid (K8.out.trans (put_low7 (B := kb) hkb [.slice (some ⟨hb, ho, none⟩) 1 hc, .int .i64 1, .int .i64 hd] 0 u8))
      have PZ := Lib.hid (put_three8 Z8.out (.slice (some ⟨hb, ho, none⟩) 1 hc) (.int .i64 1) (.int .i64 hd))
      have HZ : Hid ((World.setCells u8 (kb) 0 [.slice (some ⟨hb, ho, none⟩) 1 hc, .int .i64 1, .int .i64 hd]).cell? ⟨hb, ho, none⟩ = some (.int .i64 3) ∧ (World.setCells u8 (kb) 0 [.slice (some ⟨hb, ho, none⟩) 1 hc, .int .i64 1, .int .i64 hd]).cell? ⟨gb, go, none⟩ = some (.float .f64 4609434218613702656) ∧ (World.setCells u8 (kb) 0 [.slice (some ⟨hb, ho, none⟩) 1 hc, .int .i64 1, .int .i64 hd]).cell? ⟨gb, go + 2, none⟩ = some (.int .i64 0) ∧ (World.setCells u8 (kb) 0 [.slice (some ⟨hb, ho, none⟩) 1 hc, .int .i64 1, .int .i64 hd]).cell? ⟨gb, go + 4, none⟩ = some (.int .i64 3)) := by
        obtain ⟨g0, g1, g2, g3⟩ := hh
        exact ⟨(World.cell?_of_block (w := u8) (a := ⟨hb, ho, none⟩) (setCells_other8 hn1 _ 0 _)).trans g0, (World.cell?_of_block (w := u8) (a := ⟨gb, go, none⟩) (setCells_other8 hn2 _ 0 _)).trans g1, (World.cell?_of_block (w := u8) (a := ⟨gb, go + 2, none⟩) (setCells_other8 hn2 _ 0 _)).trans g2, (World.cell?_of_block (w := u8) (a := ⟨gb, go + 4, none⟩) (setCells_other8 hn2 _ 0 _)).trans g3⟩
      refine wpAnyH_ready (rs := [12]) (by kernel_rfl) (by simp) ?_
      refine AllReadyH.cons (o := ⟨_, _, _, _, _, _⟩) rfl (fun K hK => ?_) AllReadyH.nil
      go_simp
      change K _ (World.setCells u8 (kb) 0 [.slice (some ⟨hb, ho, none⟩) 1 hc, .int .i64 1, .int .i64 hd])
      refine hK.out _ _ ?_ (fun hHeld => ?_)
      · exact KS.out _ KF.out
      clear hK K z0 z1 z2 zf
      try simp only [Act.put, List.setIfInBounds_toArray, List.set_cons_zero, List.set_cons_succ]
      first
        | refine tk0 13 (oi := ⟨_, _, _, _, _, _⟩) rfl ?_
        | refine tk1 13 (oi := ⟨_, _, _, _, _, _⟩) (v := ?_) rfl ?_ ?_; rotate_left; · (intro w5 hSw; (try dsimp only at hSw); go_simp; (try with_reducible rfl))
      try simp only [Act.put, List.setIfInBounds_toArray, List.set_cons_zero, List.set_cons_succ]
      first
        | refine tk0 14 (oi := ⟨_, _, _, _, _, _⟩) rfl ?_
        | refine tk1 14 (oi := ⟨_, _, _, _, _, _⟩) (v := ?_) rfl ?_ ?_; rotate_left; · (intro w5 hSw; (try dsimp only at hSw); go_simp; (try with_reducible rfl))
      try simp only [Act.put, List.setIfInBounds_toArray, List.set_cons_zero, List.set_cons_succ]
      first
        | refine tk0 15 (oi := ⟨_, _, _, _, _, _⟩) rfl ?_
        | refine tk1 15 (oi := ⟨_, _, _, _, _, _⟩) (v := ?_) rfl ?_ ?_; rotate_left; · (intro w5 hSw; (try dsimp only at hSw); go_simp; (try with_reducible rfl))
      try simp only [Act.put, List.setIfInBounds_toArray, List.set_cons_zero, List.set_cons_succ]
      refine wpAnyH_done (by kernel_rfl) ?_ _
      change Exit.then _ _ _ _ (World.setCells u8 (kb) 0 [.slice (some ⟨hb, ho, none⟩) 1 hc, .int .i64 1, .int .i64 hd])
      generalize World.setCells u8 (kb) 0 [.slice (some ⟨hb, ho, none⟩) 1 hc, .int .i64 1, .int .i64 hd] = w9 at *
      go_wp2_with fail
      go_meet
      exact ⟨_, hb, ho, hc, hd, gb, go, gc, rfl, rfl, rfl, rfl, PZ.out, HZ.out, KF.out⟩
  case rest =>
    obtain ⟨kb, hb, ho, hc, hd, gb, go, gc, rfl, rfl, rfl, rfl, hk, ⟨g0, g1, g2, g3⟩, hbl⟩ := hcut
    obtain ⟨y0, y1, y2⟩ := three_cells8 hk
    have BU := Lib.hid (bthen BU.out hbl)
    have df : (FloatKind.f64.format.order 4609434218613702656 4609434218613702656 == some Ordering.eq) = true := by decide +kernel
    clear hbl
    go_wp2_with fail
    go_ret
    exact ⟨rfl, BU.out⟩

end Go.Proofs.Ytplhkplfbcmbdaa
namespace Go.Proofs.Ytplhkplfbcmbdaa
open Go.RowKit
set_option linter.unusedVariables false
set_option maxRecDepth 100000

theorem haw8 : Hid (∀ w, Calls Try.prog 10 #[] w fun e w' => e = .returned (.bool true) ∧ Below w.heap.size w w') := fun w => awake8_core (Lib.hid beginAny) (Lib.hid firstAny) (Lib.hid handleAny) w

end Go.Proofs.Ytplhkplfbcmbdaa
namespace Go.Proofs.Ytplhkplfbcmbdaa
open Go.ChangeShapes Go.WideShapes Go.ChangeAt Go.RowKit Go.Joins
set_option linter.unusedVariables false
set_option maxRecDepth 100000

theorem rows_sl {C : Nat} (hC : 0 < C) {ok : List Value → Prop} {w : World} {a : Option Addr} {len cap : Nat} (h : CellRows C ok w a len cap) :
    ∃ f : Nat → List Value, (∀ i, i < len → (f i).length = C ∧ ok (f i)) ∧ Sl C (fun i j => (f i).getD j undef) len (.slice a len cap) w := by
  rcases h with ⟨rfl, rfl, rfl⟩ | ⟨x, rfl, hl, hm, hc⟩
  · exact ⟨fun _ => [], fun i hi => absurd hi (Nat.not_lt_zero i), none, 0, rfl, Nat.le_refl _, by omega, fun h => absurd h (Nat.lt_irrefl 0)⟩
  · have hex : ∀ i, ∃ cs : List Value, i < len → cs.length = C ∧ ok cs ∧ ∀ j, j < C → w.cell? (x.add (i * C + j)) = cs[j]? := fun i => by
      by_cases hi : i < len
      · obtain ⟨cs, h1, h2, h3⟩ := hc i hi; exact ⟨cs, fun _ => ⟨h1, h2, h3⟩⟩
      · exact ⟨[], fun h => absurd h hi⟩
    obtain ⟨f, hf⟩ : ∃ f : Nat → List Value, ∀ i, i < len → (f i).length = C ∧ ok (f i) ∧ ∀ j, j < C → w.cell? (x.add (i * C + j)) = (f i)[j]? := ⟨fun i => Classical.choose (hex i), fun i => Classical.choose_spec (hex i)⟩
    refine ⟨f, fun i hi => ⟨(hf i hi).1, (hf i hi).2.1⟩, some x, cap, rfl, hl, hm, fun hn => ?_⟩
    have h0 := (hf 0 hn).2.2 0 hC
    rw [Nat.zero_mul, List.getElem?_eq_getElem (by rw [(hf 0 hn).1]; exact hC)] at h0
    obtain ⟨b, off, spot⟩ := x
    have hspot : spot = none := by simpa [Addr.add] using World.cell?_spot h0
    subst hspot
    refine ⟨b, off, rfl, ?_, fun i hi j hj => ?_⟩
    · rw [add_plain] at h0
      rcases Nat.lt_or_ge b w.heap.size with h' | h'
      · exact h'
      · simp [World.cell?, Array.getElem?_eq_none h'] at h0
    · have := (hf i hi).2.2 j hj
      rw [add_plain] at this
      rw [Nat.add_assoc, this, List.getElem?_eq_getElem (by rw [(hf i hi).1]; exact hj)]
      simp [List.getD, List.getElem?_eq_getElem (show j < (f i).length by rw [(hf i hi).1]; exact hj)]

theorem choose_fn {α : Type} {n : Nat} {p : Nat → α → Prop} (d : α) (h : ∀ i, i < n → ∃ x, p i x) : ∃ f : Nat → α, ∀ i, i < n → p i (f i) := by
  have hex : ∀ i, ∃ x, i < n → p i x := fun i => by
    by_cases hi : i < n
    · obtain ⟨x, hx⟩ := h i hi; exact ⟨x, fun _ => hx⟩
    · exact ⟨d, fun h => absurd h hi⟩
  exact ⟨fun i => Classical.choose (hex i), fun i => Classical.choose_spec (hex i)⟩

section
variable {H : Type} {enc : TypeId × Value → H} {W : World}

/-- what a slice's one cell is -/
theorem slice_cell {P : Program} {base fuel : Nat} {t e : TypeId} {c : Value} {x : DataW H × List MemPlace} (ht : P.underlying t = some (.slice e)) (hf : DataW.trod enc P W base (fun _ => true) true fuel t [c] = some x) : ∃ a len cap, c = .slice a len cap := by
  rcases Go.Deep.open_slice ht hf with ⟨hcs, _⟩ | ⟨y, l, cp, m, n, D, Pl, hcs, _⟩
  · exact ⟨none, 0, 0, by simpa using hcs⟩
  · exact ⟨some y, l, cp, by simpa using hcs⟩

end

end Go.Proofs.Ytplhkplfbcmbdaa
