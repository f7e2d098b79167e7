/- The contracts of the document's New, Write, Drop, Commit. -/
import Derived.Test.YtmflkkkbahghgaaGreatYZ24
import Derived.Test.YtmflkkkbahghgaaGreatYZ9
namespace Go.Proofs.YtmflkkkbahghgaaGreat
open Go.RowKit Go.Deep
set_option linter.unusedVariables false
set_option linter.unusedSimpArgs false
set_option maxRecDepth 100000

/-- what a call that writes leaves -/
def RP (base Q : Nat) (x2 : Stt) (u u2 : World) : Prop := RSh base Q x2 u2 ∧ KpS (Q1 Q) u u2 ∧ ∀ k, Rs Q u2 k → Rs Q u k ∨ u.heap.size ≤ k
section
variable {base Q : Nat} {x : Stt} {u w : World}
theorem rs_of {m e b v1 v2 : Value} {k : Nat} (e0 : u.heap[Q]? = some (.cells #[m, v1, v2, e, b] 50 (0, 0))) (hk : Rs Q u k) : k = Q ∨ v1.ownBlock = some k ∨ v2.ownBlock = some k := by
  rcases hk with rfl | ⟨m2, w1, w2, e2, b2, e3, hv⟩
  · exact .inl rfl
  · rw [e0] at e3
    simp only [Option.some.injEq, Obj.cells.injEq, and_true, true_and] at e3
    have e4 : v1 = w1 ∧ v2 = w2 := by simpa using ⟨(by injection e3 with e3; injection e3 with _ e3; injection e3 : v1 = w1), (by injection e3 with e3; injection e3 with _ e3; injection e3 with _ e3; injection e3 : v2 = w2)⟩
    obtain ⟨rfl, rfl⟩ := e4
    exact .inr hv
theorem RSh.stays (h : RSh base Q x u) (k : Below u.heap.size u w) : RP base Q x u w := by
  refine ⟨h.below k, KpS.of k, fun j hj => .inl ?_⟩
  rcases hj with rfl | ⟨m, v1, v2, e, b, e2, hv⟩
  · exact .inl rfl
  · exact .inr ⟨m, v1, v2, e, b, by rw [← k.block Q h.lt]; exact e2, hv⟩
theorem RP.cl {x2 : Stt} {u2 : World} (h : RP base Q x2 u u2) (c : Nat) : RP base Q { x2 with cl := c } u u2 := ⟨⟨h.1.box, h.1.lo⟩, h.2⟩
theorem RSh.wrote (h : RSh base Q x u) (k : Below u.heap.size u w) {l2 : List Slt} {v : Value} {b6 : Nat} (hs : SRow b6 l2 v w) (hb : u.heap.size ≤ b6) (hbase : base ≤ u.heap.size) : RP base Q { x with now := l2 } u (w.setCell ⟨Q, 1, none⟩ v) := by
  obtain ⟨v1, v2, e, h1, h2, n1, n2⟩ := h.box
  have hQ := lt_of_block e
  have e2 := (k.block Q hQ).trans e
  have nv : v.ownBlock ≠ some Q := fun h9 => by have := (hs.lo Q h9).1; omega
  have hset : KpS (Q1 Q) w (w.setCell ⟨Q, 1, none⟩ v) := KpS.set (Q1.a Q) 1 _ w
  have e3 := Joins.block_setCell (i := 1) e2 v
  refine ⟨⟨⟨v, v2, e3, (hs.mono (Nat.le_trans hbase hb)).kept (Q1 Q) (fun b hb => Q1.no fun h9 => nv (by rw [hb, h9])) hset, (h2.below k).kept (Q1 Q) (fun b hb => Q1.no fun h9 => n2 (by rw [hb, h9])) hset, nv, n2⟩, h.lo⟩, (KpS.of k : KpS (Q1 Q) u w).trans hset, fun j hj => ?_⟩
  rcases rs_of e3 hj with rfl | hv | hv
  · exact .inl (.inl rfl)
  · exact .inr (Nat.le_trans hb (hs.lo j hv).1)
  · exact .inl (.inr ⟨_, _, _, _, _, e, .inr hv⟩)
theorem RSh.committed (h : RSh base Q x u) (k : Below u.heap.size u w) {l2 : List Slt} {v : Value} {b6 : Nat} (ep : Int) (hs : SRow b6 l2 v w) (hb : u.heap.size ≤ b6) (hbase : base ≤ u.heap.size) : RP base Q { x with now := l2, old := l2, ep := ep } u (((w.setCell ⟨Q, 2, none⟩ v).setCell ⟨Q, 1, none⟩ v).setCell ⟨Q, 3, none⟩ (.int .i64 ep)) := by
  obtain ⟨v1, v2, e, h1, h2, n1, n2⟩ := h.box
  have hQ := lt_of_block e
  have e2 := (k.block Q hQ).trans e
  have nv : v.ownBlock ≠ some Q := fun h9 => by have := (hs.lo Q h9).1; omega
  have hset : KpS (Q1 Q) w (((w.setCell ⟨Q, 2, none⟩ v).setCell ⟨Q, 1, none⟩ v).setCell ⟨Q, 3, none⟩ (.int .i64 ep)) := ((KpS.set (Q1.a Q) 2 v w).trans (KpS.set (Q1.a Q) 1 v _)).trans (KpS.set (Q1.a Q) 3 (.int .i64 ep) _)
  have e3 := Joins.block_setCell (i := 3) (Joins.block_setCell (i := 1) (Joins.block_setCell (i := 2) e2 v) v) (.int .i64 ep)
  have hv9 := (hs.mono (Nat.le_trans hbase hb)).kept (Q1 Q) (fun b hb => Q1.no fun h9 => nv (by rw [hb, h9])) hset
  refine ⟨⟨⟨v, v, e3, hv9, hv9, nv, nv⟩, h.lo⟩, (KpS.of k : KpS (Q1 Q) u w).trans hset, fun j hj => ?_⟩
  rcases rs_of e3 hj with rfl | hv | hv
  · exact .inl (.inl rfl)
  · exact .inr (Nat.le_trans hb (hs.lo j hv).1)
  · exact .inr (Nat.le_trans hb (hs.lo j hv).1)
set_option maxHeartbeats 6400000 in
theorem rnew14_any (h : RSh base Q x u) (hl : x.now.length ≤ 512) (hl2 : x.old.length ≤ 512) (hm : 0 ≤ x.many ∧ x.many ≤ 100000) (hb : base ≤ u.heap.size) (s : ByteArray) (hs : s.size ≤ 1000000) : Calls Tryz.prog 31 #[.pointer (some ⟨Q, 0, none⟩), .string s] u fun r u' => r = .returned (.tuple #[.int .i64 (newI x s), .int .i64 (newE x s)]) ∧ RP base Q (newX x s) u u' := by
  have H := Lib.hid h
  have HBASE := Lib.hid hb
  obtain ⟨a1, c1, a2, c2, x0, x1, x2, x3, h1, h2, f1, f2, f3, hx, _⟩ := h.cells
  have XN := Lib.hid x1
  have HX := Lib.hid hx
  have R := Lib.hid h1
  have HA := Lib.hid (fun i => rat14_any h hl i)
  have HFR := Lib.hid (rfree14_any h hl hl2 hm)
  have HF := Lib.hid (fun w => rfull_any s hs w)
  have HSET := Lib.hid (fun (j : Nat) (hj : j < 512) w (k : Below u.heap.size u w) => rset14_any (h1.below k) hl j hj ⟨true, true, fullP s⟩)
  clear h h1 h2 hx x0 x1 x2 x3 f1 f2 f3 hb
  by_cases hbig : 232 < s.size
  · have E : Hid (newE x s = 4) := Lib.hid (by unfold newE; rw [if_pos hbig])
    have E2 : Hid (newI x s = 0) := Lib.hid (by unfold newI; rw [E.out, if_neg (by decide)])
    have E3 : Hid (newX x s = x) := Lib.hid (by unfold newX; rw [E.out, if_neg (by decide)])
    have d0 : decide ((232 : Int) < (s.size : Int)) = true := decide_eq_true (by omega)
    go_enter Tryz.func31, Tryz.ntmps31
    go_wp2_with fail
    go_ret2
    exact ⟨by rw [E.out, E2.out]; rfl, by rw [E3.out]; exact H.out.stays (Below.refl _ _)⟩
  · have d0 : decide ((232 : Int) < (s.size : Int)) = false := decide_eq_false (by omega)
    go_enter Tryz.func31, Tryz.ntmps31
    go_wp2_with fail
    go_loopw [6] (fun i wr => ∃ j : Nat, j ≤ x.now.length ∧ i = .int .i64 j ∧ Hid (∀ q, q < j → isS x.now q = true) ∧ wr = u) (fun i _ => x.now.length + 1 - (intOf i).toNat)
    case atStart => exact ⟨0, Nat.zero_le _, rfl, Lib.hid (fun q hq => absurd hq (Nat.not_lt_zero q)), rfl⟩
    case round =>
      obtain ⟨j, hj, rfl, HALL, hw⟩ := hrel
      rw [hw]
      clear hw wr
      have HAJ := Lib.hid (HA.out (j : Int))
      by_cases hz : isS x.now j = true
      · have hjl : j < x.now.length := by
          rcases Nat.lt_or_ge j x.now.length with c | c
          · exact c
          · rw [isS_out c] at hz; cases hz
        rw [show decide (inS x.now (j : Int)) = true from decide_eq_true ⟨by omega, by rw [Int.toNat_natCast]; exact hz⟩] at HAJ
        have HZ := Lib.hid hz
        clear hz
        go_wp2_with fail
        refine (HAJ.out).mono ?_
        rintro e w1 ⟨rfl, hw⟩
        rw [hw]
        clear hw w1
        go_wp2_with fail
        go_roundw
        case rel => exact ⟨j + 1, hjl, by go_num, Lib.hid (fun q hq => by
          rcases Nat.lt_or_ge q j with c | c
          · exact HALL.out q c
          · obtain rfl : q = j := by omega
            exact HZ.out), trivial⟩
        case measure => simp [intOf]; omega
      · rw [show decide (inS x.now (j : Int)) = false from decide_eq_false (fun h => by have := h.2; rw [Int.toNat_natCast] at this; exact hz this)] at HAJ
        have hfi : firstS x.now = j := gapS_of (by omega) (.inr (by simpa using hz)) HALL.out
        have HFI := Lib.hid hfi
        clear hfi hz
        by_cases h512 : 512 ≤ j
        · have E : Hid (newE x s = 11) := Lib.hid (by unfold newE; rw [if_neg hbig, HFI.out, if_pos (.inl h512)])
          have E2 : Hid (newI x s = 0) := Lib.hid (by unfold newI; rw [E.out, if_neg (by decide)])
          have E3 : Hid (newX x s = x) := Lib.hid (by unfold newX; rw [E.out, if_neg (by decide)])
          have d1 : decide ((512 : Int) ≤ (j : Int)) = true := decide_eq_true (by omega)
          go_wp2_with fail
          refine (HAJ.out).mono ?_
          rintro e w1 ⟨rfl, hw⟩
          rw [hw]
          clear hw w1
          go_wp2_with fail
          go_ret2
          exact ⟨by rw [E.out, E2.out]; rfl, by rw [E3.out]; exact H.out.stays (Below.refl _ _)⟩
        · have d1 : decide ((512 : Int) ≤ (j : Int)) = false := decide_eq_false (by omega)
          have HS := Lib.hid (HSET.out j (by omega))
          change Hid (∀ w, Below u.heap.size u w → Calls _ _ #[_, _, .agg #[.bool true, .bool true, .string (fullP s)]] w _) at HS
          by_cases hfr : freeS x.many x.now x.old < 1
          · have E : Hid (newE x s = 11) := Lib.hid (by unfold newE; rw [if_neg hbig, HFI.out, if_pos (.inr hfr)])
            have E2 : Hid (newI x s = 0) := Lib.hid (by unfold newI; rw [E.out, if_neg (by decide)])
            have E3 : Hid (newX x s = x) := Lib.hid (by unfold newX; rw [E.out, if_neg (by decide)])
            have d2 : decide (freeS x.many x.now x.old < 1) = true := decide_eq_true hfr
            generalize freeS x.many x.now x.old = fq at *
            clear hfr HSET HS
            go_wp2_with fail
            refine (HAJ.out).mono ?_
            rintro e w1 ⟨rfl, hw⟩
            rw [hw]
            clear hw w1
            go_wp2_with fail
            refine (HFR.out).mono ?_
            rintro e w1 ⟨rfl, hb1⟩
            have B1 := Lib.hid hb1
            clear hb1
            go_wp2_with fail
            go_ret2
            exact ⟨by rw [E.out, E2.out]; rfl, by rw [E3.out]; exact H.out.stays B1.out⟩
          · have E : Hid (newE x s = 0) := Lib.hid (by unfold newE; rw [if_neg hbig, HFI.out, if_neg (by rintro (c | c); exact h512 c; exact hfr c)])
            have E2 : Hid (newI x s = (j : Int)) := Lib.hid (by unfold newI; rw [E.out, if_pos rfl, HFI.out])
            have E3 : Hid (newX x s = { x with now := wrS x.now j s, cl := x.cl + 64 }) := Lib.hid (by unfold newX; rw [E.out, if_pos rfl, HFI.out])
            have d2 : decide (freeS x.many x.now x.old < 1) = false := decide_eq_false hfr
            generalize freeS x.many x.now x.old = fq at *
            clear hfr HSET
            go_wp2_with fail
            refine (HAJ.out).mono ?_
            rintro e w1 ⟨rfl, hw⟩
            rw [hw]
            clear hw w1
            go_wp2_with fail
            refine (HFR.out).mono ?_
            rintro e w1 ⟨rfl, hb1⟩
            have B1 := Lib.hid hb1
            clear hb1
            go_upto_region 8 with fail
            have SX := cell_stays B1.out XN.out
            refine wp_region_x_drew 12 (S := (fun w' => w'.cell? ⟨Q, 1, none⟩ = some (.slice a1 x.now.length c1))) (by kernel_rfl) SX (fun hHeld => ?_)
            change wpAnyX _ _ _ _ _ _ _ _ _ (World.drew _)
            have B6 := Lib.hid (B1.out.trans ((bdrew w1).mono B1.out.size))
            clear SX
            generalize World.drew w1 = w6 at *
            first
              | refine tx0 0 (oi := ⟨_, _, _, _, _, _⟩) rfl ?_
              | refine tx1 0 (oi := ⟨_, _, _, _, _, _⟩) (v := ?_) rfl ?_ ?_; rotate_left; · (intro w5 hSw; (try dsimp only at hSw); go_simp; (try with_reducible rfl))
            try simp only [Act.put, List.setIfInBounds_toArray, List.set_cons_zero, List.set_cons_succ]
            first
              | refine tx0 1 (oi := ⟨_, _, _, _, _, _⟩) rfl ?_
              | refine tx1 1 (oi := ⟨_, _, _, _, _, _⟩) (v := ?_) rfl ?_ ?_; rotate_left; · (intro w5 hSw; (try dsimp only at hSw); go_simp; (try with_reducible rfl))
            try simp only [Act.put, List.setIfInBounds_toArray, List.set_cons_zero, List.set_cons_succ]
            first
              | refine tx0 2 (oi := ⟨_, _, _, _, _, _⟩) rfl ?_
              | refine tx1 2 (oi := ⟨_, _, _, _, _, _⟩) (v := ?_) rfl ?_ ?_; rotate_left; · (intro w5 hSw; (try dsimp only at hSw); go_simp; (try with_reducible rfl))
            try simp only [Act.put, List.setIfInBounds_toArray, List.set_cons_zero, List.set_cons_succ]
            first
              | refine tx0 3 (oi := ⟨_, _, _, _, _, _⟩) rfl ?_
              | refine tx1 3 (oi := ⟨_, _, _, _, _, _⟩) (v := ?_) rfl ?_ ?_; rotate_left; · (intro w5 hSw; (try dsimp only at hSw); go_simp; (try with_reducible rfl))
            try simp only [Act.put, List.setIfInBounds_toArray, List.set_cons_zero, List.set_cons_succ]
            first
              | refine tx0 4 (oi := ⟨_, _, _, _, _, _⟩) rfl ?_
              | refine tx1 4 (oi := ⟨_, _, _, _, _, _⟩) (v := ?_) rfl ?_ ?_; rotate_left; · (intro w5 hSw; (try dsimp only at hSw); go_simp; (try with_reducible rfl))
            try simp only [Act.put, List.setIfInBounds_toArray, List.set_cons_zero, List.set_cons_succ]
            first
              | refine tx0 5 (oi := ⟨_, _, _, _, _, _⟩) rfl ?_
              | refine tx1 5 (oi := ⟨_, _, _, _, _, _⟩) (v := ?_) rfl ?_ ?_; rotate_left; · (intro w5 hSw; (try dsimp only at hSw); go_simp; (try with_reducible rfl))
            try simp only [Act.put, List.setIfInBounds_toArray, List.set_cons_zero, List.set_cons_succ]
            first
              | refine tx0 6 (oi := ⟨_, _, _, _, _, _⟩) rfl ?_
              | refine tx1 6 (oi := ⟨_, _, _, _, _, _⟩) (v := ?_) rfl ?_ ?_; rotate_left; · (intro w5 hSw; (try dsimp only at hSw); go_simp; (try with_reducible rfl))
            try simp only [Act.put, List.setIfInBounds_toArray, List.set_cons_zero, List.set_cons_succ]
            refine wpAnyX_ready (rs := [7]) (by kernel_rfl) (by simp) ?_
            refine AllReadyX.cons (o := ⟨_, _, _, _, _, _⟩) rfl (fun K hK => ?_) AllReadyX.nil
            go_simp
            refine (HF.out w6).mono ?_
            rintro e w7 ⟨rfl, hb7⟩
            have B7 := Lib.hid (bthen B6.out hb7)
            clear hb7
            refine hK.out _ _ (cell_stays B7.out XN.out) (fun hHeld => ?_)
            clear hK K
            try simp only [Act.put, List.setIfInBounds_toArray, List.set_cons_zero, List.set_cons_succ]
            first
              | refine tx0 8 (oi := ⟨_, _, _, _, _, _⟩) rfl ?_
              | refine tx1 8 (oi := ⟨_, _, _, _, _, _⟩) (v := ?_) rfl ?_ ?_; rotate_left; · (intro w5 hSw; (try dsimp only at hSw); go_simp; (try with_reducible rfl))
            try simp only [Act.put, List.setIfInBounds_toArray, List.set_cons_zero, List.set_cons_succ]
            refine wpAnyX_ready (rs := [9]) (by kernel_rfl) (by simp) ?_
            refine AllReadyX.cons (o := ⟨_, _, _, _, _, _⟩) rfl (fun K hK => ?_) AllReadyX.nil
            go_simp
            refine (HS.out w7 B7.out).mono ?_
            rintro e w8 ⟨v', rfl, hs8, hb8⟩
            obtain ⟨an8, cn8, rfl⟩ := hs8.form
            have R8 := Lib.hid (H.out.wrote (l2 := wrS x.now j s) (B7.out.trans (hb8.mono B7.out.size)) hs8 B7.out.size HBASE.out)
            have B8 := Lib.hid (B7.out.trans (hb8.mono B7.out.size))
            clear hb8 hs8
            refine hK.out _ _ (cell_stays B8.out XN.out) (fun hHeld => ?_)
            clear hK K
            try simp only [Act.put, List.setIfInBounds_toArray, List.set_cons_zero, List.set_cons_succ]
            refine wpAnyX_ready (rs := [10]) (by kernel_rfl) (by simp) ?_
            refine AllReadyX.cons (o := ⟨_, _, _, _, _, _⟩) rfl (fun K hK => ?_) AllReadyX.nil
            go_simp
            refine hK.out _ _ (cell_stays B8.out XN.out) (fun hHeld => ?_)
            clear hK K
            try simp only [Act.put, List.setIfInBounds_toArray, List.set_cons_zero, List.set_cons_succ]
            refine wpAnyX_ready (rs := [11]) (by kernel_rfl) (by simp) ?_
            refine AllReadyX.cons (o := ⟨_, _, _, _, _, _⟩) rfl (fun K hK => ?_) AllReadyX.nil
            go_simp
            refine hK.out _ _ (cell_stays B8.out XN.out) (fun hHeld => ?_)
            clear hK K
            try simp only [Act.put, List.setIfInBounds_toArray, List.set_cons_zero, List.set_cons_succ]
            have fz : w8.frozen? ⟨Q, 1, none⟩ = false := Lib.frozen_of_heap ((B8.out.block Q H.out.lt).trans HX.out) 1
            refine wpAnyX_last (o := ⟨_, _, _, _, _, _⟩) (by kernel_rfl) rfl (fun K hK => ?_) (by kernel_rfl)
            go_simp
            refine hK.out _ _ ?_
            clear hK K
            try simp only [Act.put, List.setIfInBounds_toArray, List.set_cons_zero, List.set_cons_succ]
            go_wp2_with fail
            go_ret2
            exact ⟨by rw [E.out, E2.out]; rfl, by rw [E3.out]; exact R8.out.cl _⟩
set_option maxHeartbeats 6400000 in
theorem rwrite14_any (h : RSh base Q x u) (hl : x.now.length ≤ 512) (hl2 : x.old.length ≤ 512) (hm : 0 ≤ x.many ∧ x.many ≤ 100000) (hb : base ≤ u.heap.size) (l : Int) (s : ByteArray) (hs : s.size ≤ 1000000) : Calls Tryz.prog 96 #[.pointer (some ⟨Q, 0, none⟩), .int .i64 l, .string s] u fun r u' => r = .returned (.int .i64 (putWE x l s)) ∧ RP base Q (putWX x l s) u u' := by
  have H := Lib.hid h
  have HBASE := Lib.hid hb
  obtain ⟨a1, c1, a2, c2, x0, x1, x2, x3, h1, h2, f1, f2, f3, hx, _⟩ := h.cells
  have XN := Lib.hid x1
  have HX := Lib.hid hx
  have R := Lib.hid h1
  have HAJ := Lib.hid (rat14_any h hl l)
  have HFR := Lib.hid (rfree14_any h hl hl2 hm)
  have HF := Lib.hid (fun w => rfull_any s hs w)
  have HSET := Lib.hid (fun (j : Nat) (hj : j < 512) w (k : Below u.heap.size u w) => rset14_any (h1.below k) hl j hj ⟨true, true, fullP s⟩)
  clear h h1 h2 hx x0 x2 x3 f1 f2 f3 hb
  by_cases hbig : 232 < s.size
  · have E : Hid (putWE x l s = 4) := Lib.hid (by unfold putWE; rw [if_pos hbig])
    have E3 : Hid (putWX x l s = x) := Lib.hid (by unfold putWX; rw [E.out, if_neg (by decide)])
    have d0 : decide ((232 : Int) < (s.size : Int)) = true := decide_eq_true (by omega)
    clear x1
    go_enter Tryz.func96, Tryz.ntmps96
    go_wp2_with fail
    go_ret
    exact ⟨by rw [E.out]; rfl, by rw [E3.out]; exact H.out.stays (Below.refl _ _)⟩
  · have d0 : decide ((232 : Int) < (s.size : Int)) = false := decide_eq_false (by omega)
    by_cases hin : inS x.now l
    · rw [show decide (inS x.now l) = true from decide_eq_true hin] at HAJ
      obtain ⟨j, rfl⟩ : ∃ j : Nat, l = (j : Int) := ⟨l.toNat, by have := hin.1; omega⟩
      have hz : isS x.now j = true := by have := hin.2; rwa [Int.toNat_natCast] at this
      have hjl : j < x.now.length := by
        rcases Nat.lt_or_ge j x.now.length with c | c
        · exact c
        · rw [isS_out c] at hz; cases hz
      have hj1 : (j : Int) < (x.now.length : Int) := by omega
      have hj0 : (0 : Int) ≤ (j : Int) := by omega
      have HS := Lib.hid (HSET.out j (by omega))
      change Hid (∀ w, Below u.heap.size u w → Calls _ _ #[_, _, .agg #[.bool true, .bool true, .string (fullP s)]] w _) at HS
      obtain ⟨_, b, ha, _, _, y1, _⟩ := R.out.look hjl
      subst ha
      have HIN := Lib.hid hin
      clear hin hz HSET
      by_cases hfr : (slA x.now j).fr = true
      · have E : Hid (putWE x (j : Int) s = 0) := Lib.hid (by unfold putWE; rw [if_neg hbig, if_pos HIN.out, Int.toNat_natCast, if_neg (by rintro ⟨c, _⟩; rw [hfr] at c; cases c)])
        have E3 : Hid (putWX x (j : Int) s = { x with now := wrS x.now j s, cl := x.cl + 64 }) := Lib.hid (by unfold putWX; rw [E.out, if_pos rfl, Int.toNat_natCast])
        rw [hfr] at y1
        clear hfr HFR
        go_enter Tryz.func96, Tryz.ntmps96
        go_wp2_with fail
        refine (HAJ.out).mono ?_
        rintro e w1 ⟨rfl, hw⟩
        rw [hw]
        clear hw w1
        have B1 := Lib.hid (Below.refl u.heap.size u)
        go_upto_region 7 with fail
        have SX := cell_stays B1.out XN.out
        refine wp_region_x_drew 12 (S := (fun w' => w'.cell? ⟨Q, 1, none⟩ = some (.slice (some ⟨b, 0, none⟩) x.now.length c1))) (by kernel_rfl) SX (fun hHeld => ?_)
        change wpAnyX _ _ _ _ _ _ _ _ _ (World.drew _)
        have B6 := Lib.hid (B1.out.trans ((bdrew u).mono B1.out.size))
        clear SX
        generalize World.drew u = w6 at *
        first
          | refine tx0 0 (oi := ⟨_, _, _, _, _, _⟩) rfl ?_
          | refine tx1 0 (oi := ⟨_, _, _, _, _, _⟩) (v := ?_) rfl ?_ ?_; rotate_left; · (intro w5 hSw; (try dsimp only at hSw); go_simp; (try with_reducible rfl))
        try simp only [Act.put, List.setIfInBounds_toArray, List.set_cons_zero, List.set_cons_succ]
        first
          | refine tx0 1 (oi := ⟨_, _, _, _, _, _⟩) rfl ?_
          | refine tx1 1 (oi := ⟨_, _, _, _, _, _⟩) (v := ?_) rfl ?_ ?_; rotate_left; · (intro w5 hSw; (try dsimp only at hSw); go_simp; (try with_reducible rfl))
        try simp only [Act.put, List.setIfInBounds_toArray, List.set_cons_zero, List.set_cons_succ]
        first
          | refine tx0 2 (oi := ⟨_, _, _, _, _, _⟩) rfl ?_
          | refine tx1 2 (oi := ⟨_, _, _, _, _, _⟩) (v := ?_) rfl ?_ ?_; rotate_left; · (intro w5 hSw; (try dsimp only at hSw); go_simp; (try with_reducible rfl))
        try simp only [Act.put, List.setIfInBounds_toArray, List.set_cons_zero, List.set_cons_succ]
        first
          | refine tx0 3 (oi := ⟨_, _, _, _, _, _⟩) rfl ?_
          | refine tx1 3 (oi := ⟨_, _, _, _, _, _⟩) (v := ?_) rfl ?_ ?_; rotate_left; · (intro w5 hSw; (try dsimp only at hSw); go_simp; (try with_reducible rfl))
        try simp only [Act.put, List.setIfInBounds_toArray, List.set_cons_zero, List.set_cons_succ]
        first
          | refine tx0 4 (oi := ⟨_, _, _, _, _, _⟩) rfl ?_
          | refine tx1 4 (oi := ⟨_, _, _, _, _, _⟩) (v := ?_) rfl ?_ ?_; rotate_left; · (intro w5 hSw; (try dsimp only at hSw); go_simp; (try with_reducible rfl))
        try simp only [Act.put, List.setIfInBounds_toArray, List.set_cons_zero, List.set_cons_succ]
        first
          | refine tx0 5 (oi := ⟨_, _, _, _, _, _⟩) rfl ?_
          | refine tx1 5 (oi := ⟨_, _, _, _, _, _⟩) (v := ?_) rfl ?_ ?_; rotate_left; · (intro w5 hSw; (try dsimp only at hSw); go_simp; (try with_reducible rfl))
        try simp only [Act.put, List.setIfInBounds_toArray, List.set_cons_zero, List.set_cons_succ]
        first
          | refine tx0 6 (oi := ⟨_, _, _, _, _, _⟩) rfl ?_
          | refine tx1 6 (oi := ⟨_, _, _, _, _, _⟩) (v := ?_) rfl ?_ ?_; rotate_left; · (intro w5 hSw; (try dsimp only at hSw); go_simp; (try with_reducible rfl))
        try simp only [Act.put, List.setIfInBounds_toArray, List.set_cons_zero, List.set_cons_succ]
        refine wpAnyX_ready (rs := [7]) (by kernel_rfl) (by simp) ?_
        refine AllReadyX.cons (o := ⟨_, _, _, _, _, _⟩) rfl (fun K hK => ?_) AllReadyX.nil
        go_simp
        refine (HF.out w6).mono ?_
        rintro e w7 ⟨rfl, hb7⟩
        have B7 := Lib.hid (bthen B6.out hb7)
        clear hb7
        refine hK.out _ _ (cell_stays B7.out XN.out) (fun hHeld => ?_)
        clear hK K
        try simp only [Act.put, List.setIfInBounds_toArray, List.set_cons_zero, List.set_cons_succ]
        first
          | refine tx0 8 (oi := ⟨_, _, _, _, _, _⟩) rfl ?_
          | refine tx1 8 (oi := ⟨_, _, _, _, _, _⟩) (v := ?_) rfl ?_ ?_; rotate_left; · (intro w5 hSw; (try dsimp only at hSw); go_simp; (try with_reducible rfl))
        try simp only [Act.put, List.setIfInBounds_toArray, List.set_cons_zero, List.set_cons_succ]
        refine wpAnyX_ready (rs := [9]) (by kernel_rfl) (by simp) ?_
        refine AllReadyX.cons (o := ⟨_, _, _, _, _, _⟩) rfl (fun K hK => ?_) AllReadyX.nil
        go_simp
        refine (HS.out w7 B7.out).mono ?_
        rintro e w8 ⟨v', rfl, hs8, hb8⟩
        obtain ⟨an8, cn8, rfl⟩ := hs8.form
        have R8 := Lib.hid (H.out.wrote (l2 := wrS x.now j s) (B7.out.trans (hb8.mono B7.out.size)) hs8 B7.out.size HBASE.out)
        have B8 := Lib.hid (B7.out.trans (hb8.mono B7.out.size))
        clear hb8 hs8
        refine hK.out _ _ (cell_stays B8.out XN.out) (fun hHeld => ?_)
        clear hK K
        try simp only [Act.put, List.setIfInBounds_toArray, List.set_cons_zero, List.set_cons_succ]
        refine wpAnyX_ready (rs := [10]) (by kernel_rfl) (by simp) ?_
        refine AllReadyX.cons (o := ⟨_, _, _, _, _, _⟩) rfl (fun K hK => ?_) AllReadyX.nil
        go_simp
        refine hK.out _ _ (cell_stays B8.out XN.out) (fun hHeld => ?_)
        clear hK K
        try simp only [Act.put, List.setIfInBounds_toArray, List.set_cons_zero, List.set_cons_succ]
        refine wpAnyX_ready (rs := [11]) (by kernel_rfl) (by simp) ?_
        refine AllReadyX.cons (o := ⟨_, _, _, _, _, _⟩) rfl (fun K hK => ?_) AllReadyX.nil
        go_simp
        refine hK.out _ _ (cell_stays B8.out XN.out) (fun hHeld => ?_)
        clear hK K
        try simp only [Act.put, List.setIfInBounds_toArray, List.set_cons_zero, List.set_cons_succ]
        have fz : w8.frozen? ⟨Q, 1, none⟩ = false := Lib.frozen_of_heap ((B8.out.block Q H.out.lt).trans HX.out) 1
        refine wpAnyX_last (o := ⟨_, _, _, _, _, _⟩) (by kernel_rfl) rfl (fun K hK => ?_) (by kernel_rfl)
        go_simp
        refine hK.out _ _ ?_
        clear hK K
        try simp only [Act.put, List.setIfInBounds_toArray, List.set_cons_zero, List.set_cons_succ]
        go_wp2_with fail
        go_ret
        exact ⟨by rw [E.out]; rfl, by rw [E3.out]; exact R8.out.cl _⟩
      · have hfr2 : (slA x.now j).fr = false := by simpa using hfr
        rw [hfr2] at y1
        by_cases hq : freeS x.many x.now x.old < 1
        · have E : Hid (putWE x (j : Int) s = 11) := Lib.hid (by unfold putWE; rw [if_neg hbig, if_pos HIN.out, Int.toNat_natCast, if_pos ⟨hfr2, hq⟩])
          have E3 : Hid (putWX x (j : Int) s = x) := Lib.hid (by unfold putWX; rw [E.out, if_neg (by decide)])
          have d2 : decide (freeS x.many x.now x.old < 1) = true := decide_eq_true hq
          generalize freeS x.many x.now x.old = fq at *
          clear hfr hfr2 hq HS
          go_enter Tryz.func96, Tryz.ntmps96
          go_wp2_with fail
          refine (HAJ.out).mono ?_
          rintro e w1 ⟨rfl, hw⟩
          rw [hw]
          clear hw w1
          go_wp2_with fail
          refine (HFR.out).mono ?_
          rintro e w1 ⟨rfl, hb1⟩
          have B1 := Lib.hid hb1
          clear hb1
          go_wp2_with fail
          go_ret
          exact ⟨by rw [E.out]; rfl, by rw [E3.out]; exact H.out.stays B1.out⟩
        · have E : Hid (putWE x (j : Int) s = 0) := Lib.hid (by unfold putWE; rw [if_neg hbig, if_pos HIN.out, Int.toNat_natCast, if_neg (by rintro ⟨_, c⟩; exact hq c)])
          have E3 : Hid (putWX x (j : Int) s = { x with now := wrS x.now j s, cl := x.cl + 64 }) := Lib.hid (by unfold putWX; rw [E.out, if_pos rfl, Int.toNat_natCast])
          have d2 : decide (freeS x.many x.now x.old < 1) = false := decide_eq_false hq
          generalize freeS x.many x.now x.old = fq at *
          clear hfr hfr2 hq
          go_enter Tryz.func96, Tryz.ntmps96
          go_wp2_with fail
          refine (HAJ.out).mono ?_
          rintro e w1 ⟨rfl, hw⟩
          rw [hw]
          clear hw w1
          go_wp2_with fail
          refine (HFR.out).mono ?_
          rintro e w1 ⟨rfl, hb1⟩
          have B1 := Lib.hid hb1
          clear hb1
          go_upto_region 7 with fail
          have SX := cell_stays B1.out XN.out
          refine wp_region_x_drew 12 (S := (fun w' => w'.cell? ⟨Q, 1, none⟩ = some (.slice (some ⟨b, 0, none⟩) x.now.length c1))) (by kernel_rfl) SX (fun hHeld => ?_)
          change wpAnyX _ _ _ _ _ _ _ _ _ (World.drew _)
          have B6 := Lib.hid (B1.out.trans ((bdrew w1).mono B1.out.size))
          clear SX
          generalize World.drew w1 = w6 at *
          first
            | refine tx0 0 (oi := ⟨_, _, _, _, _, _⟩) rfl ?_
            | refine tx1 0 (oi := ⟨_, _, _, _, _, _⟩) (v := ?_) rfl ?_ ?_; rotate_left; · (intro w5 hSw; (try dsimp only at hSw); go_simp; (try with_reducible rfl))
          try simp only [Act.put, List.setIfInBounds_toArray, List.set_cons_zero, List.set_cons_succ]
          first
            | refine tx0 1 (oi := ⟨_, _, _, _, _, _⟩) rfl ?_
            | refine tx1 1 (oi := ⟨_, _, _, _, _, _⟩) (v := ?_) rfl ?_ ?_; rotate_left; · (intro w5 hSw; (try dsimp only at hSw); go_simp; (try with_reducible rfl))
          try simp only [Act.put, List.setIfInBounds_toArray, List.set_cons_zero, List.set_cons_succ]
          first
            | refine tx0 2 (oi := ⟨_, _, _, _, _, _⟩) rfl ?_
            | refine tx1 2 (oi := ⟨_, _, _, _, _, _⟩) (v := ?_) rfl ?_ ?_; rotate_left; · (intro w5 hSw; (try dsimp only at hSw); go_simp; (try with_reducible rfl))
          try simp only [Act.put, List.setIfInBounds_toArray, List.set_cons_zero, List.set_cons_succ]
          first
            | refine tx0 3 (oi := ⟨_, _, _, _, _, _⟩) rfl ?_
            | refine tx1 3 (oi := ⟨_, _, _, _, _, _⟩) (v := ?_) rfl ?_ ?_; rotate_left; · (intro w5 hSw; (try dsimp only at hSw); go_simp; (try with_reducible rfl))
          try simp only [Act.put, List.setIfInBounds_toArray, List.set_cons_zero, List.set_cons_succ]
          first
            | refine tx0 4 (oi := ⟨_, _, _, _, _, _⟩) rfl ?_
            | refine tx1 4 (oi := ⟨_, _, _, _, _, _⟩) (v := ?_) rfl ?_ ?_; rotate_left; · (intro w5 hSw; (try dsimp only at hSw); go_simp; (try with_reducible rfl))
          try simp only [Act.put, List.setIfInBounds_toArray, List.set_cons_zero, List.set_cons_succ]
          first
            | refine tx0 5 (oi := ⟨_, _, _, _, _, _⟩) rfl ?_
            | refine tx1 5 (oi := ⟨_, _, _, _, _, _⟩) (v := ?_) rfl ?_ ?_; rotate_left; · (intro w5 hSw; (try dsimp only at hSw); go_simp; (try with_reducible rfl))
          try simp only [Act.put, List.setIfInBounds_toArray, List.set_cons_zero, List.set_cons_succ]
          first
            | refine tx0 6 (oi := ⟨_, _, _, _, _, _⟩) rfl ?_
            | refine tx1 6 (oi := ⟨_, _, _, _, _, _⟩) (v := ?_) rfl ?_ ?_; rotate_left; · (intro w5 hSw; (try dsimp only at hSw); go_simp; (try with_reducible rfl))
          try simp only [Act.put, List.setIfInBounds_toArray, List.set_cons_zero, List.set_cons_succ]
          refine wpAnyX_ready (rs := [7]) (by kernel_rfl) (by simp) ?_
          refine AllReadyX.cons (o := ⟨_, _, _, _, _, _⟩) rfl (fun K hK => ?_) AllReadyX.nil
          go_simp
          refine (HF.out w6).mono ?_
          rintro e w7 ⟨rfl, hb7⟩
          have B7 := Lib.hid (bthen B6.out hb7)
          clear hb7
          refine hK.out _ _ (cell_stays B7.out XN.out) (fun hHeld => ?_)
          clear hK K
          try simp only [Act.put, List.setIfInBounds_toArray, List.set_cons_zero, List.set_cons_succ]
          first
            | refine tx0 8 (oi := ⟨_, _, _, _, _, _⟩) rfl ?_
            | refine tx1 8 (oi := ⟨_, _, _, _, _, _⟩) (v := ?_) rfl ?_ ?_; rotate_left; · (intro w5 hSw; (try dsimp only at hSw); go_simp; (try with_reducible rfl))
          try simp only [Act.put, List.setIfInBounds_toArray, List.set_cons_zero, List.set_cons_succ]
          refine wpAnyX_ready (rs := [9]) (by kernel_rfl) (by simp) ?_
          refine AllReadyX.cons (o := ⟨_, _, _, _, _, _⟩) rfl (fun K hK => ?_) AllReadyX.nil
          go_simp
          refine (HS.out w7 B7.out).mono ?_
          rintro e w8 ⟨v', rfl, hs8, hb8⟩
          obtain ⟨an8, cn8, rfl⟩ := hs8.form
          have R8 := Lib.hid (H.out.wrote (l2 := wrS x.now j s) (B7.out.trans (hb8.mono B7.out.size)) hs8 B7.out.size HBASE.out)
          have B8 := Lib.hid (B7.out.trans (hb8.mono B7.out.size))
          clear hb8 hs8
          refine hK.out _ _ (cell_stays B8.out XN.out) (fun hHeld => ?_)
          clear hK K
          try simp only [Act.put, List.setIfInBounds_toArray, List.set_cons_zero, List.set_cons_succ]
          refine wpAnyX_ready (rs := [10]) (by kernel_rfl) (by simp) ?_
          refine AllReadyX.cons (o := ⟨_, _, _, _, _, _⟩) rfl (fun K hK => ?_) AllReadyX.nil
          go_simp
          refine hK.out _ _ (cell_stays B8.out XN.out) (fun hHeld => ?_)
          clear hK K
          try simp only [Act.put, List.setIfInBounds_toArray, List.set_cons_zero, List.set_cons_succ]
          refine wpAnyX_ready (rs := [11]) (by kernel_rfl) (by simp) ?_
          refine AllReadyX.cons (o := ⟨_, _, _, _, _, _⟩) rfl (fun K hK => ?_) AllReadyX.nil
          go_simp
          refine hK.out _ _ (cell_stays B8.out XN.out) (fun hHeld => ?_)
          clear hK K
          try simp only [Act.put, List.setIfInBounds_toArray, List.set_cons_zero, List.set_cons_succ]
          have fz : w8.frozen? ⟨Q, 1, none⟩ = false := Lib.frozen_of_heap ((B8.out.block Q H.out.lt).trans HX.out) 1
          refine wpAnyX_last (o := ⟨_, _, _, _, _, _⟩) (by kernel_rfl) rfl (fun K hK => ?_) (by kernel_rfl)
          go_simp
          refine hK.out _ _ ?_
          clear hK K
          try simp only [Act.put, List.setIfInBounds_toArray, List.set_cons_zero, List.set_cons_succ]
          go_wp2_with fail
          go_ret
          exact ⟨by rw [E.out]; rfl, by rw [E3.out]; exact R8.out.cl _⟩
    · have E : Hid (putWE x l s = 3) := Lib.hid (by unfold putWE; rw [if_neg hbig, if_neg hin])
      have E3 : Hid (putWX x l s = x) := Lib.hid (by unfold putWX; rw [E.out, if_neg (by decide)])
      rw [show decide (inS x.now l) = false from decide_eq_false hin] at HAJ
      clear x1
      go_enter Tryz.func96, Tryz.ntmps96
      go_wp2_with fail
      refine (HAJ.out).mono ?_
      rintro e w1 ⟨rfl, hw⟩
      rw [hw]
      clear hw w1
      go_wp2_with fail
      go_ret
      exact ⟨by rw [E.out]; rfl, by rw [E3.out]; exact H.out.stays (Below.refl _ _)⟩
set_option maxHeartbeats 1600000 in
theorem rdrop14_any (h : RSh base Q x u) (hl : x.now.length ≤ 512) (hb : base ≤ u.heap.size) (l : Int) : Calls Tryz.prog 81 #[.pointer (some ⟨Q, 0, none⟩), .int .i64 l] u fun r u' => r = .returned (.int .i64 (dropSE x l)) ∧ RP base Q (dropSX x l) u u' := by
  have H := Lib.hid h
  have HBASE := Lib.hid hb
  obtain ⟨a1, c1, a2, c2, x0, x1, x2, x3, h1, h2, f1, f2, f3, hx, _⟩ := h.cells
  have XN := Lib.hid x1
  have HX := Lib.hid hx
  have R := Lib.hid h1
  have HAJ := Lib.hid (rat14_any h hl l)
  have HSET := Lib.hid (fun (j : Nat) (hj : j < 512) => rset14_any h1 hl j hj noSlt)
  clear h h1 h2 hx x0 x2 x3 f1 f2 f3 hb
  by_cases hin : inS x.now l
  · rw [show decide (inS x.now l) = true from decide_eq_true hin] at HAJ
    obtain ⟨j, rfl⟩ : ∃ j : Nat, l = (j : Int) := ⟨l.toNat, by have := hin.1; omega⟩
    have hz : isS x.now j = true := by have := hin.2; rwa [Int.toNat_natCast] at this
    have hjl : j < x.now.length := by
      rcases Nat.lt_or_ge j x.now.length with c | c
      · exact c
      · rw [isS_out c] at hz; cases hz
    have HS := Lib.hid (HSET.out j (by omega))
    change Hid (Calls _ _ #[_, _, .agg #[.bool false, .bool false, .string ByteArray.empty]] u _) at HS
    have E : Hid (dropSE x (j : Int) = 0) := Lib.hid (by unfold dropSE; rw [if_pos hin])
    have E3 : Hid (dropSX x (j : Int) = { x with now := setS x.now j noSlt }) := Lib.hid (by unfold dropSX; rw [if_pos hin, Int.toNat_natCast])
    clear hin hz HSET
    go_enter Tryz.func81, Tryz.ntmps81
    go_wp2_with fail
    refine (HAJ.out).mono ?_
    rintro e w1 ⟨rfl, hw⟩
    rw [hw]
    clear hw w1
    go_wp2_with fail
    refine (HS.out).mono ?_
    rintro e w8 ⟨v', rfl, hs8, hb8⟩
    obtain ⟨an8, cn8, rfl⟩ := hs8.form
    have R8 := Lib.hid (H.out.wrote hb8 hs8 (Nat.le_refl _) HBASE.out)
    have fz : w8.frozen? ⟨Q, 1, none⟩ = false := Lib.frozen_of_heap ((hb8.block Q H.out.lt).trans HX.out) 1
    have xq := cell_stays hb8 x1
    clear hb8 hs8 x1
    go_wp2_with fail
    go_ret
    exact ⟨by rw [E.out]; rfl, by rw [E3.out]; exact R8.out⟩
  · have E : Hid (dropSE x l = 3) := Lib.hid (by unfold dropSE; rw [if_neg hin])
    have E3 : Hid (dropSX x l = x) := Lib.hid (by unfold dropSX; rw [if_neg hin])
    rw [show decide (inS x.now l) = false from decide_eq_false hin] at HAJ
    clear x1
    go_enter Tryz.func81, Tryz.ntmps81
    go_wp2_with fail
    refine (HAJ.out).mono ?_
    rintro e w1 ⟨rfl, hw⟩
    rw [hw]
    clear hw w1
    go_wp2_with fail
    go_ret
    exact ⟨by rw [E.out]; rfl, by rw [E3.out]; exact H.out.stays (Below.refl _ _)⟩
set_option maxHeartbeats 1600000 in
theorem rcommit14_any (h : RSh base Q x u) (hl : x.now.length ≤ 512) (hl2 : x.old.length ≤ 512) (hm : 0 ≤ x.many ∧ x.many ≤ 100000) (hb : base ≤ u.heap.size) (he : 0 ≤ x.ep ∧ x.ep ≤ 2199023255552) : Calls Tryz.prog 54 #[.pointer (some ⟨Q, 0, none⟩)] u fun r u' => r = .returned (.int .i64 (comSE x)) ∧ RP base Q (comSX x) u u' := by
  have H := Lib.hid h
  have HBASE := Lib.hid hb
  obtain ⟨a1, c1, a2, c2, x0, x1, x2, x3, h1, h2, f1, f2, f3, hx, _⟩ := h.cells
  have XN := Lib.hid x1
  have HX := Lib.hid hx
  have R := Lib.hid h1
  have HN := Lib.hid (rnext14_any h hl)
  have hnl : (nextS x.now).length ≤ 512 := by rw [nextS_len]; have := trimS_le x.now x.now.length; omega
  have HND := Lib.hid (rneed_any ((nextS x.now).length : Int) ⟨by omega, by omega⟩)
  have HFR := Lib.hid (fun w (k : Below u.heap.size u w) => rfree14_any (h.below k) hl hl2 hm)
  have W1 : IntKind.i64.wrap (x.ep + 1) = x.ep + 1 := by rw [IntKind.wrap_i64]; omega
  have hW1 := Lib.hid W1
  clear h h1 h2 hx x0 x1 x2 f1 f2 f3 hb W1
  by_cases hq : freeS x.many x.now x.old < needR ((nextS x.now).length : Int)
  · have E : Hid (comSE x = 11) := Lib.hid (by unfold comSE; rw [if_pos hq])
    have E3 : Hid (comSX x = x) := Lib.hid (by unfold comSX; rw [if_pos hq])
    have d2 : decide (freeS x.many x.now x.old < needR ((nextS x.now).length : Int)) = true := decide_eq_true hq
    clear x3
    go_enter Tryz.func54, Tryz.ntmps54
    go_wp2_with fail
    refine (HN.out).mono ?_
    rintro e w1 ⟨v1, rfl, hs1, hb1⟩
    obtain ⟨an, cn, rfl⟩ := hs1.form
    have B1 := Lib.hid hb1
    clear hb1 hs1
    generalize freeS x.many x.now x.old = fq at *
    generalize needR ((nextS x.now).length : Int) = nq at *
    go_wp2_with fail
    refine (HND.out _).mono ?_
    rintro e w2 ⟨rfl, hw⟩
    rw [hw]
    clear hw w2
    go_wp2_with fail
    refine (HFR.out _ B1.out).mono ?_
    rintro e w2 ⟨rfl, hb2⟩
    have B2 := Lib.hid (bthen B1.out hb2)
    clear hb2
    go_wp2_with fail
    go_ret
    exact ⟨by rw [E.out]; rfl, by rw [E3.out]; exact H.out.stays B2.out⟩
  · have E : Hid (comSE x = 0) := Lib.hid (by unfold comSE; rw [if_neg hq])
    have E3 : Hid (comSX x = { x with now := nextS x.now, old := nextS x.now, ep := x.ep + 1, cl := x.cl + 64 }) := Lib.hid (by unfold comSX; rw [if_neg hq])
    have d2 : decide (freeS x.many x.now x.old < needR ((nextS x.now).length : Int)) = false := decide_eq_false hq
    clear x3
    go_enter Tryz.func54, Tryz.ntmps54
    go_wp2_with fail
    refine (HN.out).mono ?_
    rintro e w1 ⟨v1, rfl, hs1, hb1⟩
    obtain ⟨an, cn, rfl⟩ := hs1.form
    have B1 := Lib.hid hb1
    have S1 := Lib.hid hs1
    clear hb1 hs1
    generalize freeS x.many x.now x.old = fq at *
    generalize needR ((nextS x.now).length : Int) = nq at *
    go_wp2_with fail
    refine (HND.out _).mono ?_
    rintro e w2 ⟨rfl, hw⟩
    rw [hw]
    clear hw w2
    go_wp2_with fail
    refine (HFR.out _ B1.out).mono ?_
    rintro e w2 ⟨rfl, hb2⟩
    have B2 := Lib.hid (bthen B1.out hb2)
    have R8 := Lib.hid (H.out.committed B2.out (x.ep + 1) (S1.out.below hb2) (Nat.le_refl _) HBASE.out)
    have X2 := Lib.hid ((B2.out.block Q H.out.lt).trans HX.out)
    have xe : w2.cell? ⟨Q, 3, none⟩ = some (.int .i64 x.ep) := by rw [Lib.cell_of_heap X2.out]; rfl
    have xa : w2.cell? ⟨Q, 1, none⟩ = some (.slice a1 x.now.length c1) := by rw [Lib.cell_of_heap X2.out]; rfl
    have xb : w2.cell? ⟨Q, 2, none⟩ = some (.slice a2 x.old.length c2) := by rw [Lib.cell_of_heap X2.out]; rfl
    have g1 := Lib.frozen_of_heap X2.out 1
    have g2 := Lib.frozen_of_heap X2.out 2
    have g3 := Lib.frozen_of_heap X2.out 3
    have hw1 := hW1.out
    clear hb2
    go_wp2_with fail
    go_ret
    exact ⟨by rw [E.out]; rfl, by rw [E3.out]; exact R8.out.cl _⟩
end

end Go.Proofs.YtmflkkkbahghgaaGreat
