/- The contract of the program's Step, where an event waits. -/
import Derived.Deep.Cut
import Derived.Test.YthkfaeplmmlnlaaGreatRZ19
import Derived.Test.YthkfaeplmmlnlaaGreatRZ0
import Derived.Test.YthkfaeplmmlnlaaGreatRZ20
import Derived.Test.YthkfaeplmmlnlaaGreatRActP6
namespace Go.Proofs.YthkfaeplmmlnlaaGreat
open Go.RowKit Go.Deep Go.Maps
set_option linter.unusedVariables false
set_option maxRecDepth 100000

/-- a row of the call's own, apart from a block of another type -/
theorem own_sets8 {w : World} {b C n B : Nat} {E T : TypeId} {v : Value} {xs : List Value} {cs : Array Value} {f : Nat × Nat} (h : w.ownsRow b E C v n xs) (hB : w.heap[B]? = some (.cells cs T f)) (hne : E ≠ T) (l : List Value) (o : Nat) : (w.setCells B o l).ownsRow b E C v n xs :=
  own_kept h fun q hq => other_setsL (by
    rintro rfl
    rcases h.2 with ⟨e9, _⟩ | ⟨g9, cap, cur, e9, _, h9, _⟩
    · rw [e9] at hq; simp [Value.ownBlock] at hq
    · rw [e9] at hq
      simp only [Value.ownBlock, Option.some.injEq] at hq
      subst hq
      rw [hB] at h9
      simp only [Option.some.injEq, Obj.cells.injEq] at h9
      exact hne h9.2.1.symm) _ _ _

theorem HdS.unh {S S1 : Nat → Bool} {w : World} (hs : ∀ k, S k = true → S1 k = true) {a : Addr} {v : Value} (h : (HdS S1 w).cell? a = some v) : (HdS S w).cell? a = some v := by
  obtain ⟨c, t, f, e⟩ := cell_block h
  obtain ⟨h1, h2⟩ := HdS.cells e
  have h3 : S a.block = false := by
    cases c9 : S a.block with
    | false => rfl
    | true => rw [hs _ c9] at h1; cases h1
  rw [← h]
  exact World.cell?_of_block (by rw [e, HdS.other _ h3, h2])
theorem Sl.unh {S S1 : Nat → Bool} {u : World} (hs : ∀ k, S k = true → S1 k = true) {C n : Nat} {g : Nat → Nat → Value} {v : Value} (h : Sl C g n v (HdS S1 u)) : Sl C g n v (HdS S u) := by
  obtain ⟨a, c, e, h1, h2, h3⟩ := h
  refine ⟨a, c, e, h1, h2, fun h0 => ?_⟩
  obtain ⟨b, o, e2, h4, h5⟩ := h3 h0
  exact ⟨b, o, e2, by rw [HdS.size] at h4 ⊢; exact h4, fun i hi j hj => HdS.unh hs (h5 i hi j hj)⟩
theorem pSim_unhide {S S1 : Nat → Bool} {P bm bc bs : Nat} {m : Mdl} {vd vp vl vi vS : Value} {x : Sm} {nx nd : Nat} {u : World} (h : PSim S1 P bm bc bs m vd vp vl vi vS x nx nd u) (hs : ∀ k, S k = true → S1 k = true) (h1 : S P = true) (h2 : S bm = true) (h3 : S bs = true) (h4 : S bc = false) : PSim S P bm bc bs m vd vp vl vi vS x nx nd u := by
  obtain ⟨g, p1, p2⟩ := h.mdl.p
  obtain ⟨g2, l1, l2⟩ := h.mdl.l
  obtain ⟨g3, r, hw⟩ := h.st
  exact ⟨h.box, h.cap, h1, h2, h3, h4, ⟨h.mdl.d.unh hs, ⟨g, p1.unh hs, fun i hi => (p2 i hi).unh hs⟩, ⟨g2, l1.unh hs, fun i hi => (l2 i hi).unh hs⟩, h.mdl.i.unh hs⟩, ⟨g3, r, fun i hi => (hw i hi).unh hs⟩, h.mp⟩
def addS (S : Nat → Bool) (q : Nat) : Nat → Bool := fun k => S k || k == q
set_option maxHeartbeats 12800000 in
theorem pstep_some (S : Nat → Bool) (P bm bc bs : Nat) (m : Mdl) (vd vp vl vi vS : Value) (x : Sm) (nx nd : Nat) (et : Nat) (es en : Int) (d : Nat) (ep : Int) (r : List Evn) (H : Hnd) (u : World) (h : PSim S P bm bc bs m vd vp vl vi vS x nx nd u) (hlo : ∀ k, S k = true → k < u.heap.size)
    (hw : x.W = ⟨et, es, en, (d : Int), ep⟩ :: r) (so : x.W.Pairwise leE) (un : x.W.Pairwise unE) (hnx : nx ≤ 90000) (hnd : nd ≤ 1000000) (hc : chkN m = 0) (hb : ∀ p k, r64v (m.pr p k).b) (hd : d < m.nl) (hbd : Bd (beginM (inpOf m (d : Int) (x.S d) ⟨et, es, en, (d : Int), ep⟩))) (hH : H = handH m (d : Int) (x.S d) ⟨et, es, en, (d : Int), ep⟩) (hl4 : H.l.n ≤ 4) :
    Calls Tryz.prog 10 #[.pointer (some ⟨P, 0, none⟩)] u fun z u' => z = .returned (.tuple #[.agg #[.float .f64 et, .int .i64 es, .int .i64 en, .int .i64 (d : Int), .int .i64 ep, .int .i64 H.f], .bool true]) ∧
      PSim S P bm bc bs m vd vp vl vi vS ⟨updS x.S d H.s, insAll r (toL H.l)⟩ (nx + H.l.n) (nd + 1) u' ∧ KpS (T3 P bm bs) u u' := by
  have hsf := store_float
  obtain ⟨g, sr, hwd⟩ := id h.st
  obtain ⟨cS, rfl, s1, s2⟩ := id sr.v
  have R0 := Lib.hid h
  have LO := Lib.hid hlo
  have NE := Lib.hid h.ne
  have LT := Lib.hid h.lt
  have HNX := Lib.hid hnx
  have HND := Lib.hid hnd
  have HL4 := Lib.hid hl4
  obtain ⟨n, hn⟩ : ∃ n, n = x.W.length := ⟨_, rfl⟩
  have hne : ((n : Int) == 0) = false := beq_eq_false_iff_ne.2 (by rw [hn, hw]; simp; omega)
  have HW : Hid (∀ w, Below u.heap.size u w → Calls Tryz.prog 13 #[.pointer (some ⟨P, 0, none⟩)] w fun z w' => z = .returned (.int .i64 (n : Int)) ∧ w' = w) := fun w k => by
    rw [hn]; exact pwaiting_any S P bm bc bs m vd vp vl vi _ x nx nd w (h.below k)
  obtain ⟨S1, hS1⟩ : ∃ S1, S1 = addS S u.heap.size := ⟨_, rfl⟩
  have SUB : Hid (∀ k, S k = true → S1 k = true) := fun k hk => by rw [hS1]; simp [addS, hk]
  have SLO : Hid (∀ k, S1 k = true → k ≤ u.heap.size) := fun k hk => by
    rw [hS1] at hk
    simp only [addS, Bool.or_eq_true, beq_iff_eq] at hk
    rcases hk with hk | rfl
    · exact Nat.le_of_lt (hlo k hk)
    · exact Nat.le_refl _
  have SD0 := Lib.hid (show S1 u.heap.size = true by rw [hS1]; simp [addS])
  have R1 : Hid (PSim S1 P bm bc bs m vd vp vl vi (.slice (some ⟨bs, 0, none⟩) m.nl cS) x nx nd (u.alloc (.cells #[.float .f64 0, .int .i64 0, .int .i64 0, .int .i64 0, .int .i64 0, .int .i64 0] 43))) := h.below2 (balloc u (.cells #[.float .f64 0, .int .i64 0, .int .i64 0, .int .i64 0, .int .i64 0, .int .i64 0] 43)) (fun k hk => by rw [hS1]; simp [addS]; omega)
  have HT : Hid (Calls Tryz.prog 30 #[.pointer (some ⟨P, 0, none⟩)] (u.alloc (.cells #[.float .f64 0, .int .i64 0, .int .i64 0, .int .i64 0, .int .i64 0, .int .i64 0] 43)) fun z w' => z = .returned (.agg #[.float .f64 et, .int .i64 es, .int .i64 en, .int .i64 (d : Int), .int .i64 ep]) ∧ PSim S1 P bm bc bs m vd vp vl vi (.slice (some ⟨bs, 0, none⟩) m.nl cS) ⟨x.S, r⟩ nx nd w' ∧ KpS (T3 P bm bs) (u.alloc (.cells #[.float .f64 0, .int .i64 0, .int .i64 0, .int .i64 0, .int .i64 0, .int .i64 0] 43)) w') := ptake_any S1 P bm bc bs m vd vp vl vi _ x nx nd ⟨et, es, en, (d : Int), ep⟩ r _ R1.out hw so un (by omega)
  clear hS1
  have X0 := Lib.hid (heap_alloc_new u (.cells #[.float .f64 0, .int .i64 0, .int .i64 0, .int .i64 0, .int .i64 0, .int .i64 0] 43))
  have B0 := Lib.hid (balloc u (.cells #[.float .f64 0, .int .i64 0, .int .i64 0, .int .i64 0, .int .i64 0, .int .i64 0] 43))
  clear h sr hwd hw so un hlo hn hnx hnd hl4
  go_enter Tryz.func10, Tryz.ntmps10
  go_upto_region 1 with fail
  generalize u.alloc (.cells #[.float .f64 0, .int .i64 0, .int .i64 0, .int .i64 0, .int .i64 0, .int .i64 0] 43) = u1 at *
  go_upto_region 3 with (go_at_call 13; refine (HW.out _ B0.out).mono ?_; rintro z w' ⟨rfl, hw'⟩; subst hw')
  go_upto_region 4 with (go_at_call 30; refine HT.out.mono ?_; rintro z u2 ⟨rfl, hp2, hk2⟩; have R2 := Lib.hid hp2; have K2 := Lib.hid hk2; clear hp2 hk2)
  have K20 := Lib.hid ((KpS.of B0.out).trans K2.out)
  have X20 := Lib.hid ((K2.out.blk (lt_of_block X0.out) (T3.no (by have := LT.out; omega) (by have := LT.out; omega) (by have := LT.out; omega))).trans X0.out)
  have Z2 : Hid (u.heap.size < u2.heap.size) := Nat.lt_of_lt_of_le (lt_of_block X0.out) K2.out.size
  have X3 := Lib.hid (heap_alloc_new u2 (.cells #[.float .f64 et, .int .i64 es, .int .i64 en, .int .i64 (d : Int), .int .i64 ep] 41))
  have B3 := Lib.hid (balloc u2 (.cells #[.float .f64 et, .int .i64 es, .int .i64 en, .int .i64 (d : Int), .int .i64 ep] 41))
  have X30 := Lib.hid ((Below.heap_alloc u2 (.cells #[.float .f64 et, .int .i64 es, .int .i64 en, .int .i64 (d : Int), .int .i64 ep] 41) _ (lt_of_block X20.out)).trans X20.out)
  change Code.wp _ _ _ _ (u2.alloc (.cells #[.float .f64 et, .int .i64 es, .int .i64 en, .int .i64 (d : Int), .int .i64 ep] 41))
  generalize u2.alloc (.cells #[.float .f64 et, .int .i64 es, .int .i64 en, .int .i64 (d : Int), .int .i64 ep] 41) = u3 at *
  have R3 := Lib.hid (R2.out.below B3.out)
  have K30 := Lib.hid (K20.out.on B3.out)
  obtain ⟨g2, sr2, hwd2⟩ := R3.out.st
  have SR3 := Lib.hid sr2
  have HWD3 := Lib.hid hwd2
  clear sr2 hwd2
  have S5 : Hid (∀ w', Below u3.heap.size u3 w' → (fun w' => w'.cell? ⟨P, 0, none⟩ = some (.int .i64 m.seed) ∧ w'.cell? ⟨P, 1, none⟩ = some (.float .f64 m.fin) ∧ w'.cell? ⟨P, 2, none⟩ = some (vd) ∧ w'.cell? ⟨P, 3, none⟩ = some (vp) ∧ w'.cell? ⟨P, 4, none⟩ = some (vl) ∧ w'.cell? ⟨P, 5, none⟩ = some (vi) ∧ w'.cell? ⟨P, 6, none⟩ = some (.slice (some ⟨bs, 0, none⟩) m.nl cS) ∧ w'.cell? ⟨u2.heap.size, 0, none⟩ = some (.float .f64 et) ∧ w'.cell? ⟨u2.heap.size, 1, none⟩ = some (.int .i64 es) ∧ w'.cell? ⟨u2.heap.size, 2, none⟩ = some (.int .i64 en) ∧ w'.cell? ⟨u2.heap.size, 3, none⟩ = some (.int .i64 (d : Int)) ∧ w'.cell? ⟨u2.heap.size, 4, none⟩ = some (.int .i64 ep) ∧ w'.cell? ⟨bs, d * 3, none⟩ = some (g2 d) ∧ w'.cell? ⟨bs, d * 3 + 1, none⟩ = some (.int .i64 (x.S d).sent) ∧ w'.cell? ⟨bs, d * 3 + 2, none⟩ = some (.int .i64 (x.S d).dice)) w') := fun w' k => by
    obtain ⟨p0, p1, p2, p3, p4, p5, p6, _⟩ := (R3.out.below k).cells
    obtain ⟨q0, q1, q2, q3, q4⟩ := five_cells8 ((k.block _ (lt_of_block X3.out)).trans X3.out)
    have hr := SR3.out.kept (k.block _ SR3.out.lt)
    exact ⟨p0, p1, p2, p3, p4, p5, p6, q0, q1, q2, q3, q4, hr.c d hd 0 (by omega), hr.c d hd 1 (by omega), hr.c d hd 2 (by omega)⟩
  have HR : Hid (∀ u', Below u3.heap.size u3 u' → Calls Tryz.prog 31 #[.agg #[.int .i64 m.seed, .float .f64 m.fin, vd, vp, vl, vi], .int .i64 (d : Int), .agg #[g2 d, .int .i64 (x.S d).sent, .int .i64 (x.S d).dice], .agg #[.float .f64 et, .int .i64 es, .int .i64 en, .int .i64 (d : Int), .int .i64 ep]] u' fun z w' => ∃ ax cx ae ce, z = .returned (.tuple #[.agg #[.slice ax H.s.nw cx, .int .i64 H.s.sent, .int .i64 H.s.dice], .slice ae H.l.n ce, .int .i64 H.f, .int .i64 H.e]) ∧ w'.ownsRow u3.heap.size 3 1 (.slice ax H.s.nw cx) H.s.nw (rowCells 1 (gW H.s.w) H.s.nw) ∧ w'.ownsRow u3.heap.size 41 5 (.slice ae H.l.n ce) H.l.n (rowCells 5 (gV8 H.l.f) H.l.n) ∧ Below u'.heap.size u' w') := by
    intro u' k
    subst hH
    have h9 := handleAny m vd vp vl vi (d : Int) (x.S d) (g2 d) ⟨et, es, en, (d : Int), ep⟩ u' ((R3.out.below k).mdl.hds) (((HWD3.out d hd).hds).below k) hb hbd
    unfold handA at h9
    rw [if_neg (by simp [hc])] at h9
    refine h9.mono ?_
    rintro z w' ⟨vs, ve, rfl, ⟨vI, rfl, h1⟩, ⟨ae, ce, rfl, h2⟩, hb9⟩
    obtain ⟨ax, cx, rfl, _⟩ := own_form h1
    exact ⟨ax, cx, ae, ce, rfl, own_lower h1 k.size, own_lower h2 k.size, hb9⟩
  have L5 := Lib.hid (bdrew u3)
  have hd0 : (0 : Int) ≤ (d : Int) := by omega
  have hd1 : (d : Int) < (m.nl : Int) := by omega
  have HBD := Lib.hid hbd
  have HHE := Lib.hid hH
  clear hbd hH hb g
  go_cut [5, 6, 7] (fun p l f wx => ∃ B5 ax cx ae ce, p = .pointer (some ⟨B5, 0, none⟩) ∧ l = .slice ae H.l.n ce ∧ f = .int .i64 H.f ∧ wx.heap[B5]? = some (.cells #[.slice ax H.s.nw cx, .int .i64 H.s.sent, .int .i64 H.s.dice] 55 (0, 0)) ∧ u3.heap.size ≤ B5 ∧ wx.ownsRow u3.heap.size 3 1 (.slice ax H.s.nw cx) H.s.nw (rowCells 1 (gW H.s.w) H.s.nw) ∧ wx.ownsRow u3.heap.size 41 5 (.slice ae H.l.n ce) H.l.n (rowCells 5 (gV8 H.l.f) H.l.n) ∧ Below u3.heap.size u3 wx)
  case first =>
    refine wp_region_held_drew (S := (fun w' => w'.cell? ⟨P, 0, none⟩ = some (.int .i64 m.seed) ∧ w'.cell? ⟨P, 1, none⟩ = some (.float .f64 m.fin) ∧ w'.cell? ⟨P, 2, none⟩ = some (vd) ∧ w'.cell? ⟨P, 3, none⟩ = some (vp) ∧ w'.cell? ⟨P, 4, none⟩ = some (vl) ∧ w'.cell? ⟨P, 5, none⟩ = some (vi) ∧ w'.cell? ⟨P, 6, none⟩ = some (.slice (some ⟨bs, 0, none⟩) m.nl cS) ∧ w'.cell? ⟨u2.heap.size, 0, none⟩ = some (.float .f64 et) ∧ w'.cell? ⟨u2.heap.size, 1, none⟩ = some (.int .i64 es) ∧ w'.cell? ⟨u2.heap.size, 2, none⟩ = some (.int .i64 en) ∧ w'.cell? ⟨u2.heap.size, 3, none⟩ = some (.int .i64 (d : Int)) ∧ w'.cell? ⟨u2.heap.size, 4, none⟩ = some (.int .i64 ep) ∧ w'.cell? ⟨bs, d * 3, none⟩ = some (g2 d) ∧ w'.cell? ⟨bs, d * 3 + 1, none⟩ = some (.int .i64 (x.S d).sent) ∧ w'.cell? ⟨bs, d * 3 + 2, none⟩ = some (.int .i64 (x.S d).dice))) (by kernel_rfl) ?_ (fun hHeld => ?_)
    · exact S5.out _ L5.out
    change wpAnyH _ _ _ _ _ _ _ _ (World.drew u3)
    generalize u3.drew = u4 at *
    first | refine tq0 0 rfl ?_ | refine tq1 0 rfl ?_
    try go_frame
    first | refine tq0 1 rfl ?_ | refine tq1 1 rfl ?_
    try go_frame
    first | refine tq0 2 rfl ?_ | refine tq1 2 rfl ?_
    try go_frame
    first | refine tq0 3 rfl ?_ | refine tq1 3 rfl ?_
    try go_frame
    first | refine tq0 4 rfl ?_ | refine tq1 4 rfl ?_
    try go_frame
    first | refine tq0 5 rfl ?_ | refine tq1 5 rfl ?_
    try go_frame
    first | refine tq0 6 rfl ?_ | refine tq1 6 rfl ?_
    try go_frame
    first | refine tq0 7 rfl ?_ | refine tq1 7 rfl ?_
    try go_frame
    first | refine tq0 8 rfl ?_ | refine tq1 8 rfl ?_
    try go_frame
    first | refine tq0 9 rfl ?_ | refine tq1 9 rfl ?_
    try go_frame
    first | refine tq0 10 rfl ?_ | refine tq1 10 rfl ?_
    try go_frame
    first | refine tq0 11 rfl ?_ | refine tq1 11 rfl ?_
    try go_frame
    first | refine tq0 12 rfl ?_ | refine tq1 12 rfl ?_
    try go_frame
    first | refine tq0 13 rfl ?_ | refine tq1 13 rfl ?_
    try go_frame
    first | refine tq0 14 rfl ?_ | refine tq1 14 rfl ?_
    try go_frame
    refine wpAnyH_ready (rs := [15, 21]) (by kernel_rfl) (by simp) ?_
    refine AllReadyH.cons (o := ⟨_, _, _, _, _, _⟩) rfl (fun K hK => ?_) (AllReadyH.cons (o := ⟨_, _, _, _, _, _⟩) rfl (fun K hK => ?_) AllReadyH.nil)
    · go_simp
      go_at_call 31
      refine (HR.out _ L5.out).mono ?_
      rintro r w1 ⟨ax, cx, ae, ce, rfl, h1, h2, hb1⟩
      have L6a := Lib.hid (L5.out.trans (hb1.mono L5.out.size))
      have SW := Lib.hid h1
      have SE := Lib.hid h2
      refine hK.out _ _ ?_ (fun hHeld => ?_)
      · exact S5.out _ L6a.out
      clear hK K
      try go_frame
      clear h1 h2 hb1
      first | refine tq0 16 rfl ?_ | refine tq1 16 rfl ?_
      try go_frame
      first | refine tq0 17 rfl ?_ | refine tq1 17 rfl ?_
      try go_frame
      first | refine tq0 18 rfl ?_ | refine tq1 18 rfl ?_
      try go_frame
      first | refine tq0 19 rfl ?_ | refine tq1 19 rfl ?_
      try go_frame
      first | refine tq0 20 rfl ?_ | refine tq1 20 rfl ?_
      try go_frame
      refine wpAnyH_ready (rs := [21]) (by kernel_rfl) (by simp) ?_
      refine AllReadyH.cons (o := ⟨_, _, _, _, _, _⟩) rfl (fun K hK => ?_) AllReadyH.nil
      have L6b := Lib.hid (L6a.out.trans ((balloc w1 (.cells #[.slice none 0 0, .int .i64 0, .int .i64 0] 55)).mono L6a.out.size))
      have X5 := Lib.hid (heap_alloc_new w1 (.cells #[.slice none 0 0, .int .i64 0, .int .i64 0] 55))
      have HB5 := Lib.hid (show u3.heap.size ≤ w1.heap.size from L6a.out.size)
      go_simp
      refine hK.out _ _ ?_ (fun hHeld => ?_)
      · exact S5.out _ L6b.out
      clear hK K
      try go_frame
      have SW := Lib.hid (own_below SW.out (balloc w1 (.cells #[.slice none 0 0, .int .i64 0, .int .i64 0] 55)))
      have SE := Lib.hid (own_below SE.out (balloc w1 (.cells #[.slice none 0 0, .int .i64 0, .int .i64 0] 55)))
      generalize w1.alloc (.cells #[.slice none 0 0, .int .i64 0, .int .i64 0] 55) = w2 at *
      refine wpAnyH_ready (rs := [22]) (by kernel_rfl) (by simp) ?_
      refine AllReadyH.cons (o := ⟨_, _, _, _, _, _⟩) rfl (fun K hK => ?_) AllReadyH.nil
      have L6 := Lib.hid (L6b.out.trans (put_low7 HB5.out [.slice ax H.s.nw cx, .int .i64 H.s.sent, .int .i64 H.s.dice] 0 w2))
      have X6 := Lib.hid (put_three8 X5.out (.slice ax H.s.nw cx) (.int .i64 H.s.sent) (.int .i64 H.s.dice))
      have SW6 := Lib.hid (own_sets8 SW.out X5.out (by decide) [.slice ax H.s.nw cx, .int .i64 H.s.sent, .int .i64 H.s.dice] 0)
      have SE6 := Lib.hid (own_sets8 SE.out X5.out (by decide) [.slice ax H.s.nw cx, .int .i64 H.s.sent, .int .i64 H.s.dice] 0)
      have zf : ∀ q9, w2.frozen? ⟨w1.heap.size, q9, none⟩ = false := fun q9 => Lib.frozen_of_heap X5.out q9
      obtain ⟨z0, z1, z2⟩ := three_cells8 X5.out
      go_simp
      change K _ (World.setCells w2 (w1.heap.size) 0 [.slice ax H.s.nw cx, .int .i64 H.s.sent, .int .i64 H.s.dice])
      have BX := Lib.hid HB5.out
      clear z0 z1 z2 zf X5 SW SE HB5
      generalize World.setCells w2 (w1.heap.size) 0 [.slice ax H.s.nw cx, .int .i64 H.s.sent, .int .i64 H.s.dice] = w6 at *
      generalize w1.heap.size = B5 at *
      refine hK.out _ _ ?_ (fun hHeld => ?_)
      · exact S5.out _ L6.out
      clear hK K
      try go_frame
      first | refine tq0 23 rfl ?_ | refine tq1 23 rfl ?_
      try go_frame
      first | refine tq0 24 rfl ?_ | refine tq1 24 rfl ?_
      try go_frame
      first | refine tq0 25 rfl ?_ | refine tq1 25 rfl ?_
      try go_frame
      refine wpAnyH_done (by kernel_rfl) ?_ _
      clear hHeld
      go_wp2_with fail
      go_meet
      exact ⟨_, ax, cx, ae, ce, rfl, rfl, rfl, X6.out, BX.out, SW6.out, SE6.out, L6.out⟩
    · have L6a := Lib.hid (L5.out.trans ((balloc u4 (.cells #[.slice none 0 0, .int .i64 0, .int .i64 0] 55)).mono L5.out.size))
      have X5 := Lib.hid (heap_alloc_new u4 (.cells #[.slice none 0 0, .int .i64 0, .int .i64 0] 55))
      have HB5 := Lib.hid (show u3.heap.size ≤ u4.heap.size from L5.out.size)
      go_simp
      refine hK.out _ _ ?_ (fun hHeld => ?_)
      · exact S5.out _ L6a.out
      clear hK K
      try go_frame
      generalize u4.alloc (.cells #[.slice none 0 0, .int .i64 0, .int .i64 0] 55) = w0 at *
      refine wpAnyH_ready (rs := [15]) (by kernel_rfl) (by simp) ?_
      refine AllReadyH.cons (o := ⟨_, _, _, _, _, _⟩) rfl (fun K hK => ?_) AllReadyH.nil
      go_simp
      go_at_call 31
      refine (HR.out _ L6a.out).mono ?_
      rintro r w2 ⟨ax, cx, ae, ce, rfl, h1, h2, hb1⟩
      have L6b := Lib.hid (L6a.out.trans (hb1.mono L6a.out.size))
      have SW := Lib.hid h1
      have SE := Lib.hid h2
      refine hK.out _ _ ?_ (fun hHeld => ?_)
      · exact S5.out _ L6b.out
      clear hK K
      try go_frame
      have X5 := Lib.hid ((hb1.block _ (lt_of_block X5.out)).trans X5.out)
      clear h1 h2 hb1
      first | refine tq0 16 rfl ?_ | refine tq1 16 rfl ?_
      try go_frame
      first | refine tq0 17 rfl ?_ | refine tq1 17 rfl ?_
      try go_frame
      first | refine tq0 18 rfl ?_ | refine tq1 18 rfl ?_
      try go_frame
      first | refine tq0 19 rfl ?_ | refine tq1 19 rfl ?_
      try go_frame
      first | refine tq0 20 rfl ?_ | refine tq1 20 rfl ?_
      try go_frame
      refine wpAnyH_ready (rs := [22]) (by kernel_rfl) (by simp) ?_
      refine AllReadyH.cons (o := ⟨_, _, _, _, _, _⟩) rfl (fun K hK => ?_) AllReadyH.nil
      have L6 := Lib.hid (L6b.out.trans (put_low7 HB5.out [.slice ax H.s.nw cx, .int .i64 H.s.sent, .int .i64 H.s.dice] 0 w2))
      have X6 := Lib.hid (put_three8 X5.out (.slice ax H.s.nw cx) (.int .i64 H.s.sent) (.int .i64 H.s.dice))
      have SW6 := Lib.hid (own_sets8 SW.out X5.out (by decide) [.slice ax H.s.nw cx, .int .i64 H.s.sent, .int .i64 H.s.dice] 0)
      have SE6 := Lib.hid (own_sets8 SE.out X5.out (by decide) [.slice ax H.s.nw cx, .int .i64 H.s.sent, .int .i64 H.s.dice] 0)
      have zf : ∀ q9, w2.frozen? ⟨u4.heap.size, q9, none⟩ = false := fun q9 => Lib.frozen_of_heap X5.out q9
      obtain ⟨z0, z1, z2⟩ := three_cells8 X5.out
      go_simp
      change K _ (World.setCells w2 (u4.heap.size) 0 [.slice ax H.s.nw cx, .int .i64 H.s.sent, .int .i64 H.s.dice])
      have BX := Lib.hid HB5.out
      clear z0 z1 z2 zf X5 SW SE HB5
      generalize World.setCells w2 (u4.heap.size) 0 [.slice ax H.s.nw cx, .int .i64 H.s.sent, .int .i64 H.s.dice] = w6 at *
      generalize u4.heap.size = B5 at *
      refine hK.out _ _ ?_ (fun hHeld => ?_)
      · exact S5.out _ L6.out
      clear hK K
      try go_frame
      first | refine tq0 23 rfl ?_ | refine tq1 23 rfl ?_
      try go_frame
      first | refine tq0 24 rfl ?_ | refine tq1 24 rfl ?_
      try go_frame
      first | refine tq0 25 rfl ?_ | refine tq1 25 rfl ?_
      try go_frame
      refine wpAnyH_done (by kernel_rfl) ?_ _
      clear hHeld
      go_wp2_with fail
      go_meet
      exact ⟨_, ax, cx, ae, ce, rfl, rfl, rfl, X6.out, BX.out, SW6.out, SE6.out, L6.out⟩
  case rest =>
    obtain ⟨B5, ax, cx, ae, ce, rfl, rfl, rfl, hX5, hB5, hSW, hSE, hL⟩ := hcut
    have X5 := Lib.hid hX5
    have BB5 := Lib.hid hB5
    have SW := Lib.hid hSW
    have SE := Lib.hid hSE
    have LX := Lib.hid hL
    clear hX5 hB5 hSW hSE hL S5 HR L5
    have R5 := Lib.hid (R3.out.below LX.out)
    have SR5 := Lib.hid (SR3.out.kept (LX.out.block _ SR3.out.lt))
    have XE5 := Lib.hid ((LX.out.block _ (lt_of_block X3.out)).trans X3.out)
    have X50 := Lib.hid ((LX.out.block _ (lt_of_block X30.out)).trans X30.out)
    have K5 := Lib.hid (K30.out.on LX.out)
    have Z3 : Hid (u2.heap.size < u3.heap.size) := lt_of_block X3.out
    have HB5 := Lib.hid (show B5 ≠ bs by have := BB5.out; have := SR3.out.lt; omega)
    have L6 := Lib.hid (bdrew wc)
    go_upto_region 5 with fail
    refine wp_region_held_drew (S := (fun w' => w'.cell? ⟨P, 6, none⟩ = some (.slice (some ⟨bs, 0, none⟩) m.nl cS) ∧ w'.cell? ⟨u2.heap.size, 0, none⟩ = some (.float .f64 et) ∧ w'.cell? ⟨u2.heap.size, 1, none⟩ = some (.int .i64 es) ∧ w'.cell? ⟨u2.heap.size, 2, none⟩ = some (.int .i64 en) ∧ w'.cell? ⟨u2.heap.size, 3, none⟩ = some (.int .i64 (d : Int)) ∧ w'.cell? ⟨u2.heap.size, 4, none⟩ = some (.int .i64 ep) ∧ w'.cell? ⟨B5, 0, none⟩ = some (.slice ax H.s.nw cx) ∧ w'.cell? ⟨B5, 1, none⟩ = some (.int .i64 H.s.sent) ∧ w'.cell? ⟨B5, 2, none⟩ = some (.int .i64 H.s.dice))) (by kernel_rfl) ?_ (fun hHeld => ?_)
    · obtain ⟨q0, q1, q2, q3, q4⟩ := five_cells8 ((L6.out.block _ (lt_of_block XE5.out)).trans XE5.out)
      exact ⟨(R5.out.below L6.out).cells.2.2.2.2.2.2.1, q0, q1, q2, q3, q4, three_cells8 ((L6.out.block _ (lt_of_block X5.out)).trans X5.out)⟩
    change wpAnyH _ _ _ _ _ _ _ _ (World.drew wc)
    generalize World.drew wc = w5 at *
    have R5 := Lib.hid (R5.out.below L6.out)
    have SR5 := Lib.hid (SR5.out.kept (L6.out.block _ SR5.out.lt))
    have XE5 := Lib.hid ((L6.out.block _ (lt_of_block XE5.out)).trans XE5.out)
    have X5 := Lib.hid ((L6.out.block _ (lt_of_block X5.out)).trans X5.out)
    have X50 := Lib.hid ((L6.out.block _ (lt_of_block X50.out)).trans X50.out)
    have SW := Lib.hid (own_below SW.out L6.out)
    have SE := Lib.hid (own_below SE.out L6.out)
    have K5 := Lib.hid (K5.out.on L6.out)
    have KH5 := Lib.hid (show Below u3.heap.size u3 w5 from LX.out.trans (L6.out.mono LX.out.size))
    first | refine tq0 0 rfl ?_ | refine tq1 0 rfl ?_
    try go_frame
    first | refine tq0 1 rfl ?_ | refine tq1 1 rfl ?_
    try go_frame
    first | refine tq0 2 rfl ?_ | refine tq1 2 rfl ?_
    try go_frame
    first | refine tq0 3 rfl ?_ | refine tq1 3 rfl ?_
    try go_frame
    first | refine tq0 4 rfl ?_ | refine tq1 4 rfl ?_
    try go_frame
    first | refine tq0 5 rfl ?_ | refine tq1 5 rfl ?_
    try go_frame
    first | refine tq0 6 rfl ?_ | refine tq1 6 rfl ?_
    try go_frame
    first | refine tq0 7 rfl ?_ | refine tq1 7 rfl ?_
    try go_frame
    have r0 : w5.cell? ⟨bs, d * 3, none⟩ = some (g2 d) := SR5.out.c d hd 0 (by omega)
    have r1 : w5.cell? ⟨bs, d * 3 + 1, none⟩ = some (.int .i64 (x.S d).sent) := SR5.out.c d hd 1 (by omega)
    have r2 : w5.cell? ⟨bs, d * 3 + 2, none⟩ = some (.int .i64 (x.S d).dice) := SR5.out.c d hd 2 (by omega)
    have rf : ∀ q9, w5.frozen? ⟨bs, q9, none⟩ = false := by obtain ⟨cs, h9⟩ := SR5.out.b; exact fun q9 => Lib.frozen_of_heap h9 q9
    refine wpAnyH_ready (rs := [8]) (by kernel_rfl) (by simp) ?_
    refine AllReadyH.cons (o := ⟨_, _, _, _, _, _⟩) rfl (fun K hK => ?_) AllReadyH.nil
    go_simp
    change K _ (World.setCells w5 bs (d * 3) [.slice ax H.s.nw cx, .int .i64 H.s.sent, .int .i64 H.s.dice])
    have hbE : u2.heap.size ≠ bs := by have := LT.out; have := Z2; have := Z2.out; omega
    have XE6 := Lib.hid ((other_setsL hbE [.slice ax H.s.nw cx, .int .i64 H.s.sent, .int .i64 H.s.dice] (d * 3) w5).trans XE5.out)
    have X6 := Lib.hid ((other_setsL HB5.out [.slice ax H.s.nw cx, .int .i64 H.s.sent, .int .i64 H.s.dice] (d * 3) w5).trans X5.out)
    have X60 := Lib.hid ((other_setsL (show u.heap.size ≠ bs by have := LT.out; omega) [.slice ax H.s.nw cx, .int .i64 H.s.sent, .int .i64 H.s.dice] (d * 3) w5).trans X50.out)
    have KW := Lib.hid (show KpS (T3 P bm bs) w5 (World.setCells w5 bs (d * 3) [.slice ax H.s.nw cx, .int .i64 H.s.sent, .int .i64 H.s.dice]) from KpS.sets (T3.p3 P bm bs) [.slice ax H.s.nw cx, .int .i64 H.s.sent, .int .i64 H.s.dice] (d * 3) w5)
    have NO : Hid (∀ q9, u3.heap.size ≤ q9 → S1 q9 = false) := fun q9 hq => by
      cases c9 : S1 q9 with
      | false => rfl
      | true => have := SLO.out q9 c9; have := Z2.out; have := Z3.out; omega
    have SE6 : Hid (Sl 5 (gV8 H.l.f) H.l.n (.slice ae H.l.n ce) (HdS S1 (World.setCells w5 bs (d * 3) [.slice ax H.s.nw cx, .int .i64 H.s.sent, .int .i64 H.s.dice]))) := by
      obtain ⟨cs, h9⟩ := SR5.out.b
      have ho := own_sets8 SE.out h9 (by decide) [.slice ax H.s.nw cx, .int .i64 H.s.sent, .int .i64 H.s.dice] (d * 3)
      exact own_sl (own_hdS ho fun q9 hq => NO.out q9 (own_lt ho hq).1)
    have R6 : Hid (PSim S1 P bm bc bs m vd vp vl vi (.slice (some ⟨bs, 0, none⟩) m.nl cS) ⟨updS x.S d H.s, r⟩ nx nd (World.setCells w5 bs (d * 3) [.slice ax H.s.nw cx, .int .i64 H.s.sent, .int .i64 H.s.dice])) := by
      refine R5.out.next KW.out ((other_setsL NE.out.2.1 [.slice ax H.s.nw cx, .int .i64 H.s.sent, .int .i64 H.s.dice] (d * 3) w5).trans R5.out.box) ⟨fun k => if k = d then .slice ax H.s.nw cx else g2 k, ?_, fun k hk => ?_⟩ (R5.out.mp.kept (other_setsL NE.out.2.2.1 [.slice ax H.s.nw cx, .int .i64 H.s.sent, .int .i64 H.s.dice] (d * 3) w5))
      · refine SR5.out.set hd _ _ _ ?_ ?_ ?_ (fun i hi j => ?_)
        · simp [gT]
        · simp [gT, updS]
        · simp [gT, updS]
        · rcases j with _ | _ | j <;> simp [gT, updS, hi]
      · by_cases c : k = d
        · subst c
          simp only [updS]
          obtain ⟨cs, h9⟩ := SR5.out.b
          have ho := own_sets8 SW.out h9 (by decide) [.slice ax H.s.nw cx, .int .i64 H.s.sent, .int .i64 H.s.dice] (k * 3)
          exact own_sl (own_hdS ho fun q9 hq => NO.out q9 (own_lt ho hq).1)
        · simp only [updS, if_neg c]
          exact (HWD3.out k hk).below (((KpS.of KH5.out).trans KW.out).mono R5.out.sub).hd
    have K6 := Lib.hid (K5.out.trans KW.out)
    clear r0 r1 r2 rf KW
    generalize World.setCells w5 bs (d * 3) [.slice ax H.s.nw cx, .int .i64 H.s.sent, .int .i64 H.s.dice] = w6 at *
    obtain ⟨q0, q1, q2, q3, q4⟩ := five_cells8 XE6.out
    refine hK.out _ _ ?_ (fun hHeld => ?_)
    · exact ⟨R6.out.cells.2.2.2.2.2.2.1, q0, q1, q2, q3, q4, three_cells8 X6.out⟩
    clear hK K
    try go_frame
    refine wpAnyH_done (by kernel_rfl) ?_ _
    clear hHeld q0 q1 q2 q3 q4
    have HWA := Lib.hid (pwait_any S1 P bm bc bs m vd vp vl vi _ ⟨updS x.S d H.s, r⟩ nx nd H.l (.slice ae H.l.n ce) w6 R6.out SE6.out (by have := HNX.out; have := HL4.out; omega))
    go_upto_region 7 with (go_at_call 25; refine HWA.out.mono ?_; rintro z u7 ⟨rfl, hp7, hk7⟩; have R7 := Lib.hid hp7; have K7 := Lib.hid hk7; clear hp7 hk7)
    have T3E : Hid (∀ q9, u.heap.size ≤ q9 → T3 P bm bs q9 = false) := fun q9 hq => T3.no (by have := LT.out; omega) (by have := LT.out; omega) (by have := LT.out; omega)
    have XE7 := Lib.hid ((K7.out.blk (lt_of_block XE6.out) (T3E.out _ (Nat.le_of_lt Z2.out))).trans XE6.out)
    have X70 := Lib.hid ((K7.out.blk (lt_of_block X60.out) (T3E.out _ (Nat.le_refl _))).trans X60.out)
    have hnd := HND.out
    obtain ⟨p0, p1, p2, p3, p4, p5, p6, p7, p8, p9, p10, pf⟩ := R7.out.cells
    have K8 := Lib.hid (show KpS (T3 P bm bs) u7 (u7.setCell ⟨P, 10, none⟩ (.int .i64 ((nd : Int) + 1))) from KpS.set (T3.p1 P bm bs) 10 _ u7)
    have R8 : Hid (PSim S1 P bm bc bs m vd vp vl vi (.slice (some ⟨bs, 0, none⟩) m.nl cS) ⟨updS x.S d H.s, insAll r (toL H.l)⟩ (nx + H.l.n) (nd + 1) (u7.setCell ⟨P, 10, none⟩ (.int .i64 ((nd : Int) + 1)))) := R7.out.next K8.out (Joins.block_setCell (i := 10) R7.out.box _) (R7.out.sts K8.out (Below.heap_setCell u7 ⟨P, 10, none⟩ _ bs (fun e9 => NE.out.2.1 e9.symm))) (R7.out.mp.kept (Below.heap_setCell u7 ⟨P, 10, none⟩ _ bm (fun e9 => NE.out.1 e9.symm)))
    have XE8 := Lib.hid ((Below.heap_setCell u7 ⟨P, 10, none⟩ (.int .i64 ((nd : Int) + 1)) u2.heap.size (show u2.heap.size ≠ P by have := LT.out; have := Z2.out; omega)).trans XE7.out)
    have X80 := Lib.hid ((Below.heap_setCell u7 ⟨P, 10, none⟩ (.int .i64 ((nd : Int) + 1)) u.heap.size (show u.heap.size ≠ P by have := LT.out; omega)).trans X70.out)
    go_upto_region 8 with fail
    clear p0 p1 p2 p3 p4 p5 p6 p7 p8 p9 p10 pf hnd
    have KK := Lib.hid ((K6.out.trans K7.out).trans K8.out)
    generalize u7.setCell ⟨P, 10, none⟩ (.int .i64 ((nd : Int) + 1)) = u8 at *
    have c80 := six_cells7 X80.out
    obtain ⟨q0, q1, q2, q3, q4⟩ := five_cells8 XE8.out
    obtain ⟨z0, z1, z2, z3, z4, z5⟩ := c80
    have zf : ∀ q9, u8.frozen? ⟨u.heap.size, q9, none⟩ = false := fun q9 => Lib.frozen_of_heap X80.out q9
    have X9 := Lib.hid (put_six8 X80.out (.float .f64 et) (.int .i64 es) (.int .i64 en) (.int .i64 (d : Int)) (.int .i64 ep) (.int .i64 H.f))
    have K9 := Lib.hid (show KpS (T3 P bm bs) u (World.setCells u8 u.heap.size 0 [.float .f64 et, .int .i64 es, .int .i64 en, .int .i64 (d : Int), .int .i64 ep, .int .i64 H.f]) from KK.out.low (put_low7 (base := u.heap.size) (Nat.le_refl _) [.float .f64 et, .int .i64 es, .int .i64 en, .int .i64 (d : Int), .int .i64 ep, .int .i64 H.f] 0 u8))
    have R9 : Hid (PSim S P bm bc bs m vd vp vl vi (.slice (some ⟨bs, 0, none⟩) m.nl cS) ⟨updS x.S d H.s, insAll r (toL H.l)⟩ (nx + H.l.n) (nd + 1) (World.setCells u8 u.heap.size 0 [.float .f64 et, .int .i64 es, .int .i64 en, .int .i64 (d : Int), .int .i64 ep, .int .i64 H.f])) := by
      refine pSim_unhide (R8.out.kept (T := fun k => k == u.heap.size) (KpS.sets (by simp) [.float .f64 et, .int .i64 es, .int .i64 en, .int .i64 (d : Int), .int .i64 ep, .int .i64 H.f] 0 u8) (fun k hk => ?_) ?_ ?_ ?_) SUB.out R0.out.hP R0.out.hm R0.out.hs R0.out.hc
      · simp only [beq_iff_eq] at hk; rw [hk]; exact SD0.out
      · have := LT.out; simp; omega
      · have := LT.out; simp; omega
      · have := LT.out; simp; omega
    go_wp2_with fail
    change bodyPost _ _ _ _ _ (World.setCells u8 u.heap.size 0 [.float .f64 et, .int .i64 es, .int .i64 en, .int .i64 (d : Int), .int .i64 ep, .int .i64 H.f])
    clear z0 z1 z2 z3 z4 z5 zf q0 q1 q2 q3 q4
    generalize World.setCells u8 u.heap.size 0 [.float .f64 et, .int .i64 es, .int .i64 en, .int .i64 (d : Int), .int .i64 ep, .int .i64 H.f] = u9 at *
    obtain ⟨z0, z1, z2, z3, z4, z5⟩ := six_cells7 X9.out
    exact bodyPost_ret (v := .tuple #[.agg #[.float .f64 et, .int .i64 es, .int .i64 en, .int .i64 (d : Int), .int .i64 ep, .int .i64 H.f], .bool true]) (by simp [results, Tryz.results10, go_sem, z0, z1, z2, z3, z4, z5]) rfl ⟨rfl, R9.out, K9.out⟩
end Go.Proofs.YthkfaeplmmlnlaaGreat
