/- The contract of the document's Handle. -/
import Derived.Deep.DeepCutAuto
import Derived.Test.YthkfaeplmmlnlaaGreatRZ8
import Derived.Test.YthkfaeplmmlnlaaGreatRZ0
import Derived.Test.YthkfaeplmmlnlaaGreatRZ3
namespace Go.Proofs.YthkfaeplmmlnlaaGreat
open Go.RowKit Go.Deep
set_option linter.unusedVariables false
set_option maxRecDepth 100000

/-- what Handle has boxed -/
structure HInv (w : World) (m : Mdl) (vd vp vl vi : Value) (s : Sta) (vI : Value) (e : Evn) (u : World) : Prop where
  m : u.heap[w.heap.size]? = some (.cells #[.int .i64 m.seed, .float .f64 m.fin, vd, vp, vl, vi] 28)
  s : u.heap[w.heap.size + 1]? = some (.cells #[vI, .int .i64 s.sent, .int .i64 s.dice] 55)
  e : u.heap[w.heap.size + 2]? = some (.cells #[.float .f64 e.t, .int .i64 e.src, .int .i64 e.n, .int .i64 e.dst, .int .i64 e.pay] 41)
  z : u.heap[w.heap.size + 3]? = some (.cells #[.slice none 0 0, .int .i64 0, .int .i64 0] 55)
  l : Below w.heap.size w u
section
variable {w : World} {m : Mdl} {vd vp vl vi : Value} {s : Sta} {vI : Value} {e : Evn} {u u2 : World}
theorem HInv.below4 (h : HInv w m vd vp vl vi s vI e u) (k : Below (w.heap.size + 4) u u2) : HInv w m vd vp vl vi s vI e u2 :=
  ⟨(k.block _ (by omega)).trans h.m, (k.block _ (by omega)).trans h.s, (k.block _ (by omega)).trans h.e, (k.block _ (by omega)).trans h.z, h.l.trans (k.mono (by omega))⟩
theorem HInv.size (h : HInv w m vd vp vl vi s vI e u) : w.heap.size + 4 ≤ u.heap.size := lt_of_block h.z
theorem HInv.below (h : HInv w m vd vp vl vi s vI e u) (k : Below u.heap.size u u2) : HInv w m vd vp vl vi s vI e u2 := h.below4 (k.mono h.size)
theorem hinv_begin (w : World) (m : Mdl) (vd vp vl vi : Value) (s : Sta) (vI : Value) (e : Evn) : HInv w m vd vp vl vi s vI e ((((w.alloc (.cells #[.int .i64 m.seed, .float .f64 m.fin, vd, vp, vl, vi] 28)).alloc (.cells #[vI, .int .i64 s.sent, .int .i64 s.dice] 55)).alloc (.cells #[.float .f64 e.t, .int .i64 e.src, .int .i64 e.n, .int .i64 e.dst, .int .i64 e.pay] 41)).alloc (.cells #[.slice none 0 0, .int .i64 0, .int .i64 0] 55)) := by
  have z0 : (w.alloc (.cells #[.int .i64 m.seed, .float .f64 m.fin, vd, vp, vl, vi] 28)).heap.size = w.heap.size + 1 := World.size_alloc _ _
  have z1 : ((w.alloc (.cells #[.int .i64 m.seed, .float .f64 m.fin, vd, vp, vl, vi] 28)).alloc (.cells #[vI, .int .i64 s.sent, .int .i64 s.dice] 55)).heap.size = w.heap.size + 2 := by rw [World.size_alloc, z0]
  have z2 : (((w.alloc (.cells #[.int .i64 m.seed, .float .f64 m.fin, vd, vp, vl, vi] 28)).alloc (.cells #[vI, .int .i64 s.sent, .int .i64 s.dice] 55)).alloc (.cells #[.float .f64 e.t, .int .i64 e.src, .int .i64 e.n, .int .i64 e.dst, .int .i64 e.pay] 41)).heap.size = w.heap.size + 3 := by rw [World.size_alloc, z1]
  have e1 := heap_alloc_new w (.cells #[.int .i64 m.seed, .float .f64 m.fin, vd, vp, vl, vi] 28)
  have e2 := heap_alloc_new (w.alloc (.cells #[.int .i64 m.seed, .float .f64 m.fin, vd, vp, vl, vi] 28)) (.cells #[vI, .int .i64 s.sent, .int .i64 s.dice] 55)
  have e3 := heap_alloc_new ((w.alloc (.cells #[.int .i64 m.seed, .float .f64 m.fin, vd, vp, vl, vi] 28)).alloc (.cells #[vI, .int .i64 s.sent, .int .i64 s.dice] 55)) (.cells #[.float .f64 e.t, .int .i64 e.src, .int .i64 e.n, .int .i64 e.dst, .int .i64 e.pay] 41)
  have e4 := heap_alloc_new (((w.alloc (.cells #[.int .i64 m.seed, .float .f64 m.fin, vd, vp, vl, vi] 28)).alloc (.cells #[vI, .int .i64 s.sent, .int .i64 s.dice] 55)).alloc (.cells #[.float .f64 e.t, .int .i64 e.src, .int .i64 e.n, .int .i64 e.dst, .int .i64 e.pay] 41)) (.cells #[.slice none 0 0, .int .i64 0, .int .i64 0] 55)
  rw [z0] at e2; rw [z1] at e3; rw [z2] at e4
  refine ⟨?_, ?_, ?_, e4, bthen (bthen (bthen (balloc _ _) (balloc _ _)) (balloc _ _)) (balloc _ _)⟩
  · exact (Below.heap_alloc _ _ _ (by omega)).trans ((Below.heap_alloc _ _ _ (by omega)).trans ((Below.heap_alloc _ _ _ (by omega)).trans e1))
  · exact (Below.heap_alloc _ _ _ (by omega)).trans ((Below.heap_alloc _ _ _ (by omega)).trans e2)
  · exact (Below.heap_alloc _ _ _ (by omega)).trans e3
end
/-- what the run came to, in a block of its own -/
structure XInv (base xb : Nat) (o : Ou) (aw : Option Addr) (cw : Nat) (as_ : Option Addr) (cs : Nat) (u : World) : Prop where
  x : u.heap[xb]? = some (.cells #[.slice aw o.nw cw, .slice as_ o.ns cs, .int .i64 o.dice, .int .i64 o.f] 90 (0, 0))
  w : u.ownsRow base 3 1 (.slice aw o.nw cw) o.nw (rowCells 1 (gW o.w) o.nw)
  s : u.ownsRow base 97 3 (.slice as_ o.ns cs) o.ns (rowCells 3 (gS o.sn) o.ns)
section
variable {base xb : Nat} {o : Ou} {aw : Option Addr} {cw : Nat} {as_ : Option Addr} {cs : Nat} {u u2 : World}
theorem XInv.below (h : XInv base xb o aw cw as_ cs u) (k : Below u.heap.size u u2) : XInv base xb o aw cw as_ cs u2 :=
  ⟨(k.block _ (lt_of_block h.x)).trans h.x, own_below h.w k, own_below h.s k⟩
theorem XInv.grown (h : XInv base xb o aw cw as_ cs u) {n : Nat} {v : Value} {xs : List Value} (hv : u.ownsRow base 41 5 v n xs) (hg : u.grownBy u2 v.ownBlock) : XInv base xb o aw cw as_ cs u2 :=
  ⟨grown_keep7 hv hg h.x (by decide), grown_own hv hg h.w (by decide), grown_own hv hg h.s (by decide)⟩
/-- the k-th that was sent -/
theorem XInv.sn (h : XInv base xb o aw cw as_ cs u) {k : Nat} (hk : k < o.ns) : ∃ b q, as_ = some ⟨b, q, none⟩ ∧ u.cell? ⟨b, q + k * 3, none⟩ = some (.int .i64 (o.sn k).dst) ∧ u.cell? ⟨b, q + k * 3 + 1, none⟩ = some (.int .i64 (o.sn k).dl) ∧ u.cell? ⟨b, q + k * 3 + 2, none⟩ = some (.int .i64 (o.sn k).pay) := by
  obtain ⟨a, c, e1, _, _, h2⟩ := own_sl h.s
  simp only [Value.slice.injEq, true_and] at e1
  obtain ⟨rfl, rfl⟩ := e1
  obtain ⟨b, q, rfl, hA⟩ := h2 (by omega)
  exact ⟨b, q, rfl, hA.2 k hk 0 (by omega), hA.2 k hk 1 (by omega), hA.2 k hk 2 (by omega)⟩
end

theorem sl_none8 (C : Nat) (g : Nat → Nat → Value) (u : World) : Sl C g 0 (.slice none 0 0) u := ⟨none, 0, rfl, Nat.le_refl _, by omega, fun h => absurd h (Nat.lt_irrefl 0)⟩
theorem setCells_other8 {B q : Nat} (hne : q ≠ B) : ∀ (l : List Value) (o : Nat) (W : World), (W.setCells B o l).heap[q]? = W.heap[q]?
  | [], _, _ => rfl
  | v :: l, o, W => (setCells_other8 hne l (o + 1) _).trans (Below.heap_setCell W ⟨B, o, none⟩ v q hne)
theorem put_three8 {W : World} {B : Nat} {c0 c1 c2 : Value} {T : TypeId} (h : W.heap[B]? = some (.cells #[c0, c1, c2] T (0, 0))) (u0 u1 u2 : Value) :
    (W.setCells B 0 [u0, u1, u2]).heap[B]? = some (.cells #[u0, u1, u2] T (0, 0)) :=
  Joins.block_setCell (Joins.block_setCell (Joins.block_setCell h u0) u1) u2
theorem chk_lp {m : Mdl} (h : chkN m = 0) : (∀ i, i < m.nl → 0 ≤ m.lp i ∧ m.lp i < m.np) ∧ 1 ≤ m.nd ∧ m.nd ≤ 8 := by
  unfold chkN at h
  have hm : mayB m = true := by
    cases hq : mayB m with
    | true => rfl
    | false => rw [hq] at h; exact absurd h (by decide)
  unfold mayB at hm
  simp only [Bool.and_eq_true] at hm
  obtain ⟨hc, _, _, _, hl, _⟩ := hm
  unfold countsB from1 at hc
  simp only [Bool.and_eq_true, decide_eq_true_eq] at hc
  refine ⟨fun i hi => ?_, hc.2.2.1.1, hc.2.2.1.2⟩
  have := (allN_iff _ _).1 hl i hi
  unfold lpB oneOf at this
  simp only [Bool.and_eq_true, decide_eq_true_eq] at this
  exact this.1
theorem laterB_false {m : Mdl} {e : Evn} {o : Ou} {j : Nat} (h : (whenS m e o j).2 ≠ 0) : ∀ n, j < n → laterB m e o n = false
  | 0, hj => absurd hj (Nat.not_lt_zero j)
  | n + 1, hj => by
    unfold laterB
    rcases Nat.lt_succ_iff_lt_or_eq.1 hj with h2 | h2
    · rw [laterB_false h n h2]; rfl
    · rw [← h2, decide_eq_false h, Bool.and_false]
/-- what the document's Handle hands back -/
def HNew (base : Nat) (v : Value) : Prop := ∀ g, v.ownBlock = some g → base ≤ g
theorem hnew_none (base n c : Nat) : HNew base (.slice none n c) := fun g h => by simp [Value.ownBlock] at h
def HPost (w : World) (m : Mdl) (lp : Int) (s : Sta) (e : Evn) (x : Ending) (w' : World) : Prop :=
  ∃ vs ve, x = .returned (.tuple #[sval (handH m lp s e).s vs, ve, .int .i64 (handH m lp s e).f, .int .i64 (handH m lp s e).e]) ∧ Sl 1 (gW (handH m lp s e).s.w) (handH m lp s e).s.nw vs w' ∧ Sl 5 (gV8 (handH m lp s e).l.f) (handH m lp s e).l.n ve w' ∧ Below w.heap.size w w'
def HPost9 (w : World) (m : Mdl) (lp : Int) (s : Sta) (e : Evn) (vI : Value) (x : Ending) (w' : World) : Prop :=
  ∃ vs ve, x = .returned (.tuple #[sval (handH m lp s e).s vs, ve, .int .i64 (handH m lp s e).f, .int .i64 (handH m lp s e).e]) ∧ Sl 1 (gW (handH m lp s e).s.w) (handH m lp s e).s.nw vs w' ∧ Sl 5 (gV8 (handH m lp s e).l.f) (handH m lp s e).l.n ve w' ∧ Below w.heap.size w w' ∧ (vs = vI ∨ HNew w.heap.size vs) ∧ HNew w.heap.size ve

theorem sentE_n (m : Mdl) (lp : Int) (s : Sta) (e : Evn) (o : Ou) : ∀ k, (sentE m lp s e o k).n ≤ k
  | 0 => Nat.le_refl _
  | k + 1 => by
    unfold sentE
    split
    · show (sentE m lp s e o k).n + 1 ≤ k + 1; have := sentE_n m lp s e o k; omega
    · have := sentE_n m lp s e o k; omega

set_option maxHeartbeats 6400000 in
theorem refHandle9_any (m : Mdl) (vd vp vl vi : Value) (lp : Int) (s : Sta) (vI : Value) (e : Evn) (w : World) (hm : MdlAt m vd vp vl vi w) (hs : Sl 1 (gW s.w) s.nw vI w) (hc : chkN m = 0)
    (hb : ∀ p k, r64v (m.pr p k).b) (hbd : Bd (beginM (inpOf m lp s e))) :
    Calls Tryz.prog 17 #[mval m vd vp vl vi, .int .i64 lp, sval s vI, eval8 e] w (HPost9 w m lp s e vI) := by
  obtain ⟨i0, hi0, hz0, hz1, hz2⟩ := info_parts info_event8
  have H0 := Lib.hid (hinv_begin w m vd vp vl vi s vI e)
  have HM := Lib.hid hm
  have HS := Lib.hid hs
  have HC := Lib.hid hc
  have HB := Lib.hid hb
  have HBD := Lib.hid hbd
  obtain ⟨ai, ci, rfl, _, _, _⟩ := id hs
  obtain ⟨gl, hl1, hl2⟩ := id hm.l
  obtain ⟨al, cl, rfl, ml1, ml2, kl⟩ := hl1
  obtain ⟨gp, hp1, hp2⟩ := id hm.p
  obtain ⟨ap, cp, rfl, mp1, mp2, kp⟩ := hp1
  have KL := Lib.hid kl
  have KP := Lib.hid kp
  have HP2 := Lib.hid hp2
  have HH : Hid (handH m lp s e = if badArg m lp s e then ⟨sta0, evs0, 0, 2⟩ else if (ouAt m lp s e).f ≠ 0 then ⟨s, evs0, (ouAt m lp s e).f, 0⟩ else if laterB m e (ouAt m lp s e) (ouAt m lp s e).ns = false then ⟨s, evs0, 7, 0⟩ else ⟨⟨(ouAt m lp s e).nw, (ouAt m lp s e).w, s.sent + ((ouAt m lp s e).ns : Int), (ouAt m lp s e).dice⟩, sentE m lp s e (ouAt m lp s e) (ouAt m lp s e).ns, 0, 0⟩) := rfl
  have hpost : ∀ x w', HPost9 w m lp s e (.slice ai s.nw ci) x w' = ∃ vs ve, x = .returned (.tuple #[sval (handH m lp s e).s vs, ve, .int .i64 (handH m lp s e).f, .int .i64 (handH m lp s e).e]) ∧ Sl 1 (gW (handH m lp s e).s.w) (handH m lp s e).s.nw vs w' ∧ Sl 5 (gV8 (handH m lp s e).l.f) (handH m lp s e).l.n ve w' ∧ Below w.heap.size w w' ∧ (vs = (.slice ai s.nw ci) ∨ HNew w.heap.size vs) ∧ HNew w.heap.size ve := fun _ _ => rfl
  have HPO := Lib.hid hpost
  clear hpost hm hs hc hb hbd kl kp hl2 hp2
  unfold mval sval eval8
  generalize HPost9 w m lp s e (.slice ai s.nw ci) = POST at *
  generalize hu : (((w.alloc (.cells #[.int .i64 m.seed, .float .f64 m.fin, vd, .slice ap m.np cp, .slice al m.nl cl, vi] 28)).alloc (.cells #[.slice ai s.nw ci, .int .i64 s.sent, .int .i64 s.dice] 55)).alloc (.cells #[.float .f64 e.t, .int .i64 e.src, .int .i64 e.n, .int .i64 e.dst, .int .i64 e.pay] 41)).alloc (.cells #[.slice none 0 0, .int .i64 0, .int .i64 0] 55) = u at *
  go_enter Tryz.func17, Tryz.ntmps17
  go_upto_region 1 with fail
  try rw [hu]
  clear hu
  go_cut [62] (fun v wx => ∃ bb : Bool, v = .bool bb ∧ (bb = true ↔ badArg m lp s e) ∧ wx = u)
  case first =>
    obtain ⟨m0, m1, m2, m3, m4, m5⟩ := six_cells7 H0.out.m
    obtain ⟨s0, s1, s2⟩ := three_cells8 H0.out.s
    obtain ⟨e0, e1, e2, e3, e4⟩ := five_cells8 H0.out.e
    clear HH HPO
    by_cases c0 : lp < 0
    · have d0 : decide (lp < 0) = true := by simp; omega
      have hbad : Hid (badArg m lp s e) := Or.inl c0
      clear c0
      go_wp2_with fail
      go_meet
      exact ⟨true, rfl, by simp [hbad.out], rfl⟩
    have d0 : decide (lp < 0) = false := by simp; omega
    by_cases c1 : (m.nl : Int) ≤ lp
    · have d1 : decide ((m.nl : Int) ≤ lp) = true := by simp; omega
      have hbad : Hid (badArg m lp s e) := Or.inr (Or.inl c1)
      clear c0 c1
      go_wp2_with fail
      go_meet
      exact ⟨true, rfl, by simp [hbad.out], rfl⟩
    have d1 : decide ((m.nl : Int) ≤ lp) = false := by simp; omega
    by_cases c2 : ¬ isNum e.t
    · have d2 : (FloatKind.f64.format.order e.t e.t != some .eq) = true := by rw [bne, ord_eq]; simp [c2]
      have hbad : Hid (badArg m lp s e) := Or.inr (Or.inr (Or.inl c2))
      clear c0 c1 c2
      go_wp2_with fail
      go_meet
      exact ⟨true, rfl, by simp [hbad.out], rfl⟩
    have d2 : (FloatKind.f64.format.order e.t e.t != some .eq) = false := by rw [bne, ord_eq]; simp [Classical.not_not.1 c2]
    by_cases c3 : 8 < s.nw
    · have d3 : decide ((8 : Int) < (s.nw : Int)) = true := by simp; omega
      have hbad : Hid (badArg m lp s e) := Or.inr (Or.inr (Or.inr (Or.inl c3)))
      clear c0 c1 c2 c3
      go_wp2_with fail
      go_meet
      exact ⟨true, rfl, by simp [hbad.out], rfl⟩
    have d3 : decide ((8 : Int) < (s.nw : Int)) = false := by simp; omega
    by_cases c4 : s.sent < 0
    · have d4 : decide (s.sent < 0) = true := by simp; omega
      have hbad : Hid (badArg m lp s e) := Or.inr (Or.inr (Or.inr (Or.inr (Or.inl c4))))
      clear c0 c1 c2 c3 c4
      go_wp2_with fail
      go_meet
      exact ⟨true, rfl, by simp [hbad.out], rfl⟩
    have d4 : decide (s.sent < 0) = false := by simp; omega
    by_cases c5 : 1099511627776 < s.sent
    · have d5 : decide ((1099511627776 : Int) < s.sent) = true := by simp; omega
      have hbad : Hid (badArg m lp s e) := Or.inr (Or.inr (Or.inr (Or.inr (Or.inr (Or.inl c5)))))
      clear c0 c1 c2 c3 c4 c5
      go_wp2_with fail
      go_meet
      exact ⟨true, rfl, by simp [hbad.out], rfl⟩
    have d5 : decide ((1099511627776 : Int) < s.sent) = false := by simp; omega
    by_cases c6 : s.dice < 0
    · have d6 : decide (s.dice < 0) = true := by simp; omega
      have hbad : Hid (badArg m lp s e) := Or.inr (Or.inr (Or.inr (Or.inr (Or.inr (Or.inr (Or.inl c6))))))
      clear c0 c1 c2 c3 c4 c5 c6
      go_wp2_with fail
      go_meet
      exact ⟨true, rfl, by simp [hbad.out], rfl⟩
    have d6 : decide (s.dice < 0) = false := by simp; omega
    by_cases c7 : 1099511627776 < s.dice
    · have d7 : decide ((1099511627776 : Int) < s.dice) = true := by simp; omega
      have hbad : Hid (badArg m lp s e) := Or.inr (Or.inr (Or.inr (Or.inr (Or.inr (Or.inr (Or.inr (c7)))))))
      clear c0 c1 c2 c3 c4 c5 c6 c7
      go_wp2_with fail
      go_meet
      exact ⟨true, rfl, by simp [hbad.out], rfl⟩
    have d7 : decide ((1099511627776 : Int) < s.dice) = false := by simp; omega
    have hgood : Hid (¬ badArg m lp s e) := by show ¬ _; unfold badArg; simp only [c0, c1, c2, c3, c4, c5, c6, c7, or_self, not_false_iff]
    clear c0 c1 c2 c3 c4 c5 c6 c7
    go_wp2_with fail
    go_meet
    exact ⟨false, rfl, by simp [hgood.out], rfl⟩
  case rest =>
    obtain ⟨bb, rfl, hbb, hwx⟩ := hcut
    subst wc
    cases bb with
    | true =>
      have hbad := hbb.1 rfl
      have EH : Hid (handH m lp s e = ⟨sta0, evs0, 0, 2⟩) := by show _ = _; rw [HH.out, if_pos hbad]
      clear hbb hbad HH
      obtain ⟨z0, z1, z2⟩ := three_cells8 H0.out.z
      have zf : ∀ q, u.frozen? ⟨w.heap.size + 3, q, none⟩ = false := fun q => Lib.frozen_of_heap H0.out.z q
      go_wp2_with fail
      change bodyPost _ _ _ _ _ (World.setCells u (w.heap.size + 3) 0 [.slice none 0 0, .int .i64 0, .int .i64 0])
      have h5 := put_three8 H0.out.z (.slice none 0 0) (.int .i64 0) (.int .i64 0)
      have LZ := Lib.hid (H0.out.l.trans (put_low7 (show w.heap.size ≤ w.heap.size + 3 by omega) [.slice none 0 0, .int .i64 0, .int .i64 0] 0 u))
      obtain ⟨t0, t1, t2⟩ := three_cells8 h5
      clear h5
      generalize World.setCells u (w.heap.size + 3) 0 [.slice none 0 0, .int .i64 0, .int .i64 0] = w9 at *
      exact bodyPost_ret (v := .tuple #[.agg #[.slice none 0 0, .int .i64 0, .int .i64 0], .slice none 0 0, .int .i64 0, .int .i64 2]) (by simp [results, Tryz.results17, go_sem, t0, t1, t2]) rfl (by
        rw [HPO.out, EH.out]
        exact ⟨_, _, rfl, sl_none8 1 _ _, sl_none8 5 _ _, LZ.out, .inr (hnew_none _ _ _), hnew_none _ _ _⟩)
    | false =>
      have hgood : ¬ badArg m lp s e := fun h => absurd (hbb.2 h) (by decide)
      have g0 : ¬ lp < 0 := fun h => hgood (Or.inl h)
      have g1 : ¬ (m.nl : Int) ≤ lp := fun h => hgood (Or.inr (Or.inl h))
      have g4 : ¬ s.sent < 0 := fun h => hgood (Or.inr (Or.inr (Or.inr (Or.inr (Or.inl h)))))
      have g5 : ¬ 1099511627776 < s.sent := fun h => hgood (Or.inr (Or.inr (Or.inr (Or.inr (Or.inr (Or.inl h))))))
      obtain ⟨L, rfl⟩ : ∃ L : Nat, lp = (L : Int) := ⟨lp.toNat, by omega⟩
      have hLn : L < m.nl := by omega
      obtain ⟨hlp, hd1, hd8⟩ := chk_lp HC.out
      obtain ⟨p, hp⟩ : ∃ p : Nat, m.lp L = (p : Int) := ⟨(m.lp L).toNat, by have := hlp L hLn; omega⟩
      have hpn : p < m.np := by have := hlp L hLn; omega
      have hpg : pgOf m (L : Int) = p := by unfold pgOf; rw [Int.toNat_natCast, hp]; omega
      have EH0 : Hid (handH m L s e = if (ouAt m L s e).f ≠ 0 then ⟨s, evs0, (ouAt m L s e).f, 0⟩ else if laterB m e (ouAt m L s e) (ouAt m L s e).ns = false then ⟨s, evs0, 7, 0⟩ else ⟨⟨(ouAt m L s e).nw, (ouAt m L s e).w, s.sent + ((ouAt m L s e).ns : Int), (ouAt m L s e).dice⟩, sentE m L s e (ouAt m L s e) (ouAt m L s e).ns, 0, 0⟩) := by show _ = _; rw [HH.out, if_neg hgood]
      have HO : Hid (∀ u2, Below w.heap.size w u2 → Calls Tryz.prog 35 #[gp p, .agg #[.slice ai s.nw ci, .int .i64 e.pay, .int .i64 (L : Int), .int .i64 (m.nl : Int), .int .i64 m.seed, .int .i64 s.dice]] u2 fun x w' => ∃ v c, x = .returned (.tuple #[v, .int .i64 c]) ∧ OutAt u2.heap.size (ouAt m L s e) v w' ∧ Below u2.heap.size u2 w') := fun u2 k => by
        have h1 := do7_any (m.pr p) (m.pl p) (gp p) (inpOf m L s e) (.slice ai s.nw ci) u2 ((HP2.out p hpn).below k) (HS.out.below k) HBD.out (HB.out p)
        unfold ouAt
        rw [hpg]
        exact h1.mono fun x w' ⟨v, q1, q2, q3⟩ => ⟨v, _, q1, q2, q3⟩
      have SENT := Lib.hid (And.intro g4 g5)
      have HN := Lib.hid (And.intro hLn hpn)
      have ND := Lib.hid (And.intro hd1 hd8)
      have HNS : Hid ((ouAt m L s e).ns ≤ 4) := (ouAt_ns m L s e)
      clear hbb hgood g0 g1 g4 g5 HH hlp hd1 hd8 hpg HP2 HBD HB
      obtain ⟨bl, ol, rfl, hAL⟩ := KL.out (by omega)
      obtain ⟨bp, op, rfl, hAP⟩ := KP.out (by omega)
      have HAL := Lib.hid hAL
      have HAP := Lib.hid hAP
      have PL := Lib.hid hp
      obtain ⟨m0, m1, m2, m3, m4, m5⟩ := six_cells7 H0.out.m
      obtain ⟨s0, s1, s2⟩ := three_cells8 H0.out.s
      obtain ⟨e0, e1, e2, e3, e4⟩ := five_cells8 H0.out.e
      have H3 := Lib.hid (H0.out.below (balloc u (.cells #[.slice ai s.nw ci, .int .i64 e.pay, .int .i64 (L : Int), .int .i64 (m.nl : Int), .int .i64 m.seed, .int .i64 s.dice] 87)))
      have X3 := Lib.hid (heap_alloc_new u (.cells #[.slice ai s.nw ci, .int .i64 e.pay, .int .i64 (L : Int), .int .i64 (m.nl : Int), .int .i64 m.seed, .int .i64 s.dice] 87))
      have I3 : Hid (w.heap.size + 4 ≤ u.heap.size) := H0.out.size
      clear hAL hAP KL KP hLn hpn hp
      go_upto_region 4 with fail
      clear m0 m1 m2 m3 m4 m5 s0 s1 s2 e0 e1 e2 e3 e4 H0
      generalize u.alloc (.cells #[.slice ai s.nw ci, .int .i64 e.pay, .int .i64 (L : Int), .int .i64 (m.nl : Int), .int .i64 m.seed, .int .i64 s.dice] 87) = u3 at *
      generalize u.heap.size = ib at *
      generalize ouAt m L s e = o at *
      go_cut [13] (fun v wx => ∃ xb aw cw as_ cs, v = .pointer (some ⟨xb, 0, none⟩) ∧ HInv w m vd (.slice (some ⟨bp, op, none⟩) m.np cp) (.slice (some ⟨bl, ol, none⟩) m.nl cl) vi s (.slice ai s.nw ci) e wx ∧ XInv (w.heap.size + 4) xb o aw cw as_ cs wx)
      case first =>
        have SS : ∀ u2, HInv w m vd (.slice (some ⟨bp, op, none⟩) m.np cp) (.slice (some ⟨bl, ol, none⟩) m.nl cl) vi s (.slice ai s.nw ci) e u2 → u2.heap[ib]? = some (.cells #[.slice ai s.nw ci, .int .i64 e.pay, .int .i64 (L : Int), .int .i64 (m.nl : Int), .int .i64 m.seed, .int .i64 s.dice] 87) → (fun w' => w'.cell? ⟨w.heap.size, 3, none⟩ = some (.slice (some ⟨bp, op, none⟩) m.np cp) ∧ w'.cell? ⟨w.heap.size, 4, none⟩ = some (.slice (some ⟨bl, ol, none⟩) m.nl cl) ∧ w'.cell? ⟨bl, ol + L * 2, none⟩ = some (.int .i64 (p : Int)) ∧ w'.cell? ⟨bp, op + p, none⟩ = some (gp p) ∧ w'.cell? ⟨ib, 0, none⟩ = some (.slice ai s.nw ci) ∧ w'.cell? ⟨ib, 1, none⟩ = some (.int .i64 e.pay) ∧ w'.cell? ⟨ib, 2, none⟩ = some (.int .i64 (L : Int)) ∧ w'.cell? ⟨ib, 3, none⟩ = some (.int .i64 (m.nl : Int)) ∧ w'.cell? ⟨ib, 4, none⟩ = some (.int .i64 m.seed) ∧ w'.cell? ⟨ib, 5, none⟩ = some (.int .i64 s.dice)) u2 := fun u2 h1 h2 => by
          obtain ⟨q0, q1, q2, q3, q4, q5⟩ := six_cells7 h1.m
          obtain ⟨r0, r1, r2, r3, r4, r5⟩ := six_cells7 h2
          have a1 := (HAL.out.below h1.l).2 L HN.out.1 0 (by omega)
          have a2 := (HAP.out.below h1.l).one p HN.out.2
          simp only [gL, gV, PL.out] at a1 a2
          exact ⟨q3, q4, a1, a2, r0, r1, r2, r3, r4, r5⟩
        have SS := Lib.hid SS
        have hL2 : (L : Int) < (m.nl : Int) := by have := HN.out.1; omega
        have hL0 : (0 : Int) ≤ (L : Int) := by omega
        have hLt : ((L : Nat) : Int).toNat = L := by omega
        have hp2 : (p : Int) < (m.np : Int) := by have := HN.out.2; omega
        have hp0 : (0 : Int) ≤ (p : Int) := by omega
        have hpt : ((p : Nat) : Int).toNat = p := by omega
        have HD := Lib.hid (H3.out.below (bdrew u3))
        have XD : Hid (u3.drew.heap[ib]? = some (.cells #[.slice ai s.nw ci, .int .i64 e.pay, .int .i64 (L : Int), .int .i64 (m.nl : Int), .int .i64 m.seed, .int .i64 s.dice] 87)) := X3.out
        refine wp_region_held_drew (S := (fun w' => w'.cell? ⟨w.heap.size, 3, none⟩ = some (.slice (some ⟨bp, op, none⟩) m.np cp) ∧ w'.cell? ⟨w.heap.size, 4, none⟩ = some (.slice (some ⟨bl, ol, none⟩) m.nl cl) ∧ w'.cell? ⟨bl, ol + L * 2, none⟩ = some (.int .i64 (p : Int)) ∧ w'.cell? ⟨bp, op + p, none⟩ = some (gp p) ∧ w'.cell? ⟨ib, 0, none⟩ = some (.slice ai s.nw ci) ∧ w'.cell? ⟨ib, 1, none⟩ = some (.int .i64 e.pay) ∧ w'.cell? ⟨ib, 2, none⟩ = some (.int .i64 (L : Int)) ∧ w'.cell? ⟨ib, 3, none⟩ = some (.int .i64 (m.nl : Int)) ∧ w'.cell? ⟨ib, 4, none⟩ = some (.int .i64 m.seed) ∧ w'.cell? ⟨ib, 5, none⟩ = some (.int .i64 s.dice))) (by kernel_rfl) ?_ (fun hHeld => ?_)
        · exact SS.out _ HD.out XD.out
        change wpAnyH _ _ _ _ _ _ _ _ (World.drew u3)
        clear H3 X3
        generalize u3.drew = u0 at *
        first | refine tq0 0 rfl ?_ | refine tq1 0 rfl ?_
        try go_frame
        first | refine tq0 1 rfl ?_ | refine tq1 1 rfl ?_
        try go_frame
        first | refine tq0 2 rfl ?_ | refine tq1 2 rfl ?_
        try go_frame
        first | refine tq0 3 rfl ?_ | refine tq1 3 rfl ?_
        try go_frame
        first | refine tq0 4 rfl ?_ | refine tq1 4 rfl ?_
        try go_frame
        first | refine tq0 5 rfl ?_ | refine tq1 5 rfl ?_
        try go_frame
        first | refine tq0 6 rfl ?_ | refine tq1 6 rfl ?_
        try go_frame
        first | refine tq0 7 rfl ?_ | refine tq1 7 rfl ?_
        try go_frame
        first | refine tq0 8 rfl ?_ | refine tq1 8 rfl ?_
        try go_frame
        first | refine tq0 9 rfl ?_ | refine tq1 9 rfl ?_
        try go_frame
        first | refine tq0 10 rfl ?_ | refine tq1 10 rfl ?_
        try go_frame
        refine wpAnyH_ready (rs := [11, 15]) (by kernel_rfl) (by simp) ?_
        refine AllReadyH.cons (o := ⟨_, _, _, _, _, _⟩) rfl (fun K hK => ?_) (AllReadyH.cons (o := ⟨_, _, _, _, _, _⟩) rfl (fun K hK => ?_) AllReadyH.nil)
        · go_simp
          go_at_call 35
          refine (HO.out _ HD.out.l).mono ?_
          rintro x w1 ⟨v, c, rfl, hov, hbv⟩
          have Hw1 := Lib.hid (HD.out.below hbv)
          have Xw1 := Lib.hid ((hbv.block _ (lt_of_block XD.out)).trans XD.out)
          have Ow1 := Lib.hid (hov.lower HD.out.size)
          refine hK.out _ _ ?_ (fun hHeld => ?_)
          · exact SS.out _ Hw1.out Xw1.out
          clear hK K
          try go_frame
          obtain ⟨aw, cw, as_, cs, rfl, _, _⟩ := id Ow1.out
          clear hov hbv
          first | refine tq0 12 rfl ?_ | refine tq1 12 rfl ?_
          try go_frame
          first | refine tq0 13 rfl ?_ | refine tq1 13 rfl ?_
          try go_frame
          first | refine tq0 14 rfl ?_ | refine tq1 14 rfl ?_
          try go_frame
          refine wpAnyH_ready (rs := [15]) (by kernel_rfl) (by simp) ?_
          refine AllReadyH.cons (o := ⟨_, _, _, _, _, _⟩) rfl (fun K hK => ?_) AllReadyH.nil
          go_simp
          have H2 := Lib.hid (Hw1.out.below (balloc w1 (.cells #[.slice none 0 0, .slice none 0 0, .int .i64 0, .int .i64 0] 90)))
          have X2 := Lib.hid ((Below.heap_alloc w1 (.cells #[.slice none 0 0, .slice none 0 0, .int .i64 0, .int .i64 0] 90) _ (lt_of_block Xw1.out)).trans Xw1.out)
          have Z2 := Lib.hid (heap_alloc_new w1 (.cells #[.slice none 0 0, .slice none 0 0, .int .i64 0, .int .i64 0] 90))
          have O2 := Lib.hid (Ow1.out.below (balloc w1 (.cells #[.slice none 0 0, .slice none 0 0, .int .i64 0, .int .i64 0] 90)))
          have hxb : w.heap.size + 4 ≤ w1.heap.size := Hw1.out.size
          refine hK.out _ _ ?_ (fun hHeld => ?_)
          · exact SS.out _ H2.out X2.out
          clear hK K
          try go_frame
          generalize w1.alloc (.cells #[.slice none 0 0, .slice none 0 0, .int .i64 0, .int .i64 0] 90) = wz at *
          generalize w1.heap.size = xb at *
          have BZ := Lib.hid (put_low7 (base := w.heap.size + 4) (B := xb) hxb [.slice aw o.nw cw, .slice as_ o.ns cs, .int .i64 o.dice, .int .i64 o.f] 0 wz)
          have HZ := Lib.hid (H2.out.below4 BZ.out)
          have hne : ib ≠ xb := by
            rintro rfl
            have := X2.out.symm.trans Z2.out
            simp only [Option.some.injEq, Obj.cells.injEq] at this
            exact absurd this.2.1 (by decide)
          have XZ := Lib.hid ((setCells_other8 hne [.slice aw o.nw cw, .slice as_ o.ns cs, .int .i64 o.dice, .int .i64 o.f] 0 wz).trans X2.out)
          have VZ : Hid (XInv (w.heap.size + 4) (xb) o aw cw as_ cs (World.setCells wz (xb) 0 [.slice aw o.nw cw, .slice as_ o.ns cs, .int .i64 o.dice, .int .i64 o.f])) := by
            obtain ⟨_, _, _, _, e1, r1, r2⟩ := O2.out
            simp only [Value.agg.injEq, Array.mk.injEq, List.cons.injEq, Value.slice.injEq, true_and, and_true] at e1
            obtain ⟨⟨rfl, rfl⟩, rfl, rfl⟩ := e1
            exact ⟨put_four Z2.out _ _ _ _, own_setCells (own_not r1 Z2.out (by decide)) _ 0 _ r1, own_setCells (own_not r2 Z2.out (by decide)) _ 0 _ r2⟩
          obtain ⟨z0, z1, z2, z3⟩ := four_cells Z2.out
          have zf : ∀ q, wz.frozen? ⟨xb, q, none⟩ = false := fun q => Lib.frozen_of_heap Z2.out q
          refine wpAnyH_ready (rs := [16]) (by kernel_rfl) (by simp) ?_
          refine AllReadyH.cons (o := ⟨_, _, _, _, _, _⟩) rfl (fun K hK => ?_) AllReadyH.nil
          go_simp
          change K _ (World.setCells wz (xb) 0 [.slice aw o.nw cw, .slice as_ o.ns cs, .int .i64 o.dice, .int .i64 o.f])
          refine hK.out _ _ ?_ (fun hHeld => ?_)
          · exact SS.out _ HZ.out XZ.out
          clear hK K z0 z1 z2 z3 zf
          try go_frame
          first | refine tq0 17 rfl ?_ | refine tq1 17 rfl ?_
          try go_frame
          refine wpAnyH_done (by kernel_rfl) ?_ _
          change Exit.then _ _ _ _ (World.setCells wz (xb) 0 [.slice aw o.nw cw, .slice as_ o.ns cs, .int .i64 o.dice, .int .i64 o.f])
          generalize World.setCells wz (xb) 0 [.slice aw o.nw cw, .slice as_ o.ns cs, .int .i64 o.dice, .int .i64 o.f] = w9 at *
          go_wp2_with fail
          go_meet
          exact ⟨_, aw, cw, as_, cs, rfl, HZ.out, VZ.out⟩
        · go_simp
          have H2 := Lib.hid (HD.out.below (balloc u0 (.cells #[.slice none 0 0, .slice none 0 0, .int .i64 0, .int .i64 0] 90)))
          have X2 := Lib.hid ((Below.heap_alloc u0 (.cells #[.slice none 0 0, .slice none 0 0, .int .i64 0, .int .i64 0] 90) _ (lt_of_block XD.out)).trans XD.out)
          have Z2 := Lib.hid (heap_alloc_new u0 (.cells #[.slice none 0 0, .slice none 0 0, .int .i64 0, .int .i64 0] 90))
          have hxb : w.heap.size + 4 ≤ u0.heap.size := HD.out.size
          refine hK.out _ _ ?_ (fun hHeld => ?_)
          · exact SS.out _ H2.out X2.out
          clear hK K
          try go_frame
          generalize u0.alloc (.cells #[.slice none 0 0, .slice none 0 0, .int .i64 0, .int .i64 0] 90) = u2 at *
          generalize u0.heap.size = xb at *
          refine wpAnyH_ready (rs := [11]) (by kernel_rfl) (by simp) ?_
          refine AllReadyH.cons (o := ⟨_, _, _, _, _, _⟩) rfl (fun K hK => ?_) AllReadyH.nil
          go_simp
          go_at_call 35
          refine (HO.out _ H2.out.l).mono ?_
          rintro x wz ⟨v, c, rfl, hov, hbv⟩
          have Hwz := Lib.hid (H2.out.below hbv)
          have Xwz := Lib.hid ((hbv.block _ (lt_of_block X2.out)).trans X2.out)
          have Owz := Lib.hid (hov.lower H2.out.size)
          have Z3 := Lib.hid ((hbv.block _ (lt_of_block Z2.out)).trans Z2.out)
          refine hK.out _ _ ?_ (fun hHeld => ?_)
          · exact SS.out _ Hwz.out Xwz.out
          clear hK K
          try go_frame
          obtain ⟨aw, cw, as_, cs, rfl, _, _⟩ := id Owz.out
          clear hov hbv
          first | refine tq0 12 rfl ?_ | refine tq1 12 rfl ?_
          try go_frame
          first | refine tq0 13 rfl ?_ | refine tq1 13 rfl ?_
          try go_frame
          first | refine tq0 14 rfl ?_ | refine tq1 14 rfl ?_
          try go_frame
          have BZ := Lib.hid (put_low7 (base := w.heap.size + 4) (B := xb) hxb [.slice aw o.nw cw, .slice as_ o.ns cs, .int .i64 o.dice, .int .i64 o.f] 0 wz)
          have HZ := Lib.hid (Hwz.out.below4 BZ.out)
          have hne : ib ≠ xb := by
            rintro rfl
            have := Xwz.out.symm.trans Z3.out
            simp only [Option.some.injEq, Obj.cells.injEq] at this
            exact absurd this.2.1 (by decide)
          have XZ := Lib.hid ((setCells_other8 hne [.slice aw o.nw cw, .slice as_ o.ns cs, .int .i64 o.dice, .int .i64 o.f] 0 wz).trans Xwz.out)
          have VZ : Hid (XInv (w.heap.size + 4) (xb) o aw cw as_ cs (World.setCells wz (xb) 0 [.slice aw o.nw cw, .slice as_ o.ns cs, .int .i64 o.dice, .int .i64 o.f])) := by
            obtain ⟨_, _, _, _, e1, r1, r2⟩ := Owz.out
            simp only [Value.agg.injEq, Array.mk.injEq, List.cons.injEq, Value.slice.injEq, true_and, and_true] at e1
            obtain ⟨⟨rfl, rfl⟩, rfl, rfl⟩ := e1
            exact ⟨put_four Z3.out _ _ _ _, own_setCells (own_not r1 Z3.out (by decide)) _ 0 _ r1, own_setCells (own_not r2 Z3.out (by decide)) _ 0 _ r2⟩
          obtain ⟨z0, z1, z2, z3⟩ := four_cells Z3.out
          have zf : ∀ q, wz.frozen? ⟨xb, q, none⟩ = false := fun q => Lib.frozen_of_heap Z3.out q
          refine wpAnyH_ready (rs := [16]) (by kernel_rfl) (by simp) ?_
          refine AllReadyH.cons (o := ⟨_, _, _, _, _, _⟩) rfl (fun K hK => ?_) AllReadyH.nil
          go_simp
          change K _ (World.setCells wz (xb) 0 [.slice aw o.nw cw, .slice as_ o.ns cs, .int .i64 o.dice, .int .i64 o.f])
          refine hK.out _ _ ?_ (fun hHeld => ?_)
          · exact SS.out _ HZ.out XZ.out
          clear hK K z0 z1 z2 z3 zf
          try go_frame
          first | refine tq0 17 rfl ?_ | refine tq1 17 rfl ?_
          try go_frame
          refine wpAnyH_done (by kernel_rfl) ?_ _
          change Exit.then _ _ _ _ (World.setCells wz (xb) 0 [.slice aw o.nw cw, .slice as_ o.ns cs, .int .i64 o.dice, .int .i64 o.f])
          generalize World.setCells wz (xb) 0 [.slice aw o.nw cw, .slice as_ o.ns cs, .int .i64 o.dice, .int .i64 o.f] = w9 at *
          go_wp2_with fail
          go_meet
          exact ⟨_, aw, cw, as_, cs, rfl, HZ.out, VZ.out⟩
      case rest =>
        obtain ⟨xb, aw, cw, as_, cs, rfl, hH, hX⟩ := hcut
        have HU := Lib.hid hH
        have XU := Lib.hid hX
        clear hH hX H3 X3
        obtain ⟨x0, x1, x2, x3⟩ := four_cells XU.out.x
        obtain ⟨s0, s1, s2⟩ := three_cells8 HU.out.s
        obtain ⟨z0, z1, z2⟩ := three_cells8 HU.out.z
        have zf : ∀ q, wc.frozen? ⟨w.heap.size + 3, q, none⟩ = false := fun q => Lib.frozen_of_heap HU.out.z q
        by_cases hf : o.f = 0
        · have df : (o.f != 0) = false := by simp [hf]
          have EH1 : Hid (handH m L s e = if laterB m e o o.ns = false then ⟨s, evs0, 7, 0⟩ else ⟨⟨o.nw, o.w, s.sent + (o.ns : Int), o.dice⟩, sentE m L s e o o.ns, 0, 0⟩) := by show _ = _; rw [EH0.out, if_neg (by simp [hf])]
          clear hf EH0
          go_wp2_with fail
          go_loopw [15, 16] (fun v i wr => ∃ j : Nat, j ≤ o.ns ∧ i = .int .i64 j ∧ EvsAt (w.heap.size + 4) (sentE m L s e o j) v wr ∧ laterB m e o j = true ∧ HInv w m vd (.slice (some ⟨bp, op, none⟩) m.np cp) (.slice (some ⟨bl, ol, none⟩) m.nl cl) vi s (.slice ai s.nw ci) e wr ∧ XInv (w.heap.size + 4) xb o aw cw as_ cs wr) (fun _ i _ => o.ns - (intOf i).toNat)
          case atStart => exact ⟨0, Nat.zero_le _, rfl, evsAt_none _ _, rfl, HU.out, XU.out⟩
          case round =>
            obtain ⟨j, hj, rfl, hv, hlb, hH, hX⟩ := hrel
            have HV := Lib.hid hv
            have HLB := Lib.hid hlb
            have HR := Lib.hid hH
            have XR := Lib.hid hX
            obtain ⟨az, cz, rfl, _⟩ := id hv
            clear hv hlb hH hX x0 x1 x2 x3 s0 s1 s2 z0 z1 z2 zf HU XU
            obtain ⟨x0, x1, x2, x3⟩ := four_cells XR.out.x
            have hn4 := HNS.out
            obtain ⟨hs0, hs1⟩ := SENT.out
            by_cases hlt : j < o.ns
            · obtain ⟨b, q, rfl, _, _, _⟩ := XR.out.sn hlt
              have HLT := Lib.hid hlt
              have SS : ∀ u2, HInv w m vd (.slice (some ⟨bp, op, none⟩) m.np cp) (.slice (some ⟨bl, ol, none⟩) m.nl cl) vi s (.slice ai s.nw ci) e u2 → XInv (w.heap.size + 4) xb o aw cw (some ⟨b, q, none⟩) cs u2 → (fun w' => w'.cell? ⟨w.heap.size + 2, 0, none⟩ = some (.float .f64 e.t) ∧ w'.cell? ⟨w.heap.size, 0, none⟩ = some (.int .i64 m.seed) ∧ w'.cell? ⟨w.heap.size, 1, none⟩ = some (.float .f64 m.fin) ∧ w'.cell? ⟨w.heap.size, 2, none⟩ = some vd ∧ w'.cell? ⟨w.heap.size, 3, none⟩ = some (.slice (some ⟨bp, op, none⟩) m.np cp) ∧ w'.cell? ⟨w.heap.size, 4, none⟩ = some (.slice (some ⟨bl, ol, none⟩) m.nl cl) ∧ w'.cell? ⟨w.heap.size, 5, none⟩ = some vi ∧ w'.cell? ⟨xb, 1, none⟩ = some (.slice (some ⟨b, q, none⟩) o.ns cs) ∧ w'.cell? ⟨b, q + j * 3 + 1, none⟩ = some (.int .i64 (o.sn j).dl)) u2 ∧ (fun w' => w'.cell? ⟨w.heap.size + 1, 1, none⟩ = some (.int .i64 s.sent) ∧ w'.cell? ⟨xb, 1, none⟩ = some (.slice (some ⟨b, q, none⟩) o.ns cs) ∧ w'.cell? ⟨b, q + j * 3, none⟩ = some (.int .i64 (o.sn j).dst) ∧ w'.cell? ⟨b, q + j * 3 + 2, none⟩ = some (.int .i64 (o.sn j).pay)) u2 := fun u2 h1 h2 => by
                obtain ⟨q0, q1, q2, q3, q4, q5⟩ := six_cells7 h1.m
                obtain ⟨r0, r1, r2⟩ := three_cells8 h1.s
                obtain ⟨v0, v1, v2, v3, v4⟩ := five_cells8 h1.e
                obtain ⟨b9, q9, e9, y0, y1, y2⟩ := h2.sn HLT.out
                simp only [Option.some.injEq, Addr.mk.injEq, and_true] at e9
                obtain ⟨rfl, rfl⟩ := e9
                obtain ⟨c0, c1, c2, c3⟩ := four_cells h2.x
                exact ⟨⟨v0, q0, q1, q2, q3, q4, q5, c1, y1⟩, r1, c1, y0, y2⟩
              have SS := Lib.hid SS
              have HDL : Hid (∀ u2, Below w.heap.size w u2 → Calls Tryz.prog 37 #[.agg #[.int .i64 m.seed, .float .f64 m.fin, vd, .slice (some ⟨bp, op, none⟩) m.np cp, .slice (some ⟨bl, ol, none⟩) m.nl cl, vi], .int .i64 (o.sn j).dl] u2 fun e w' => e = .returned (.float .f64 (m.d (dlyN m.nd (o.sn j).dl))) ∧ Below u2.heap.size u2 w') := fun u2 k => refDelay_any m vd _ _ vi (o.sn j).dl u2 (HM.out.d.below k) ND.out.1 ND.out.2
              have HLA := Lib.hid (refLater_any e.t (m.d (dlyN m.nd (o.sn j).dl)))
              have WS : Hid (whenS m e o j = laterSpec e.t (m.d (dlyN m.nd (o.sn j).dl))) := rfl
              unfold feRet at HLA
              generalize m.d (dlyN m.nd (o.sn j).dl) = dv at *
              generalize laterSpec e.t dv = ts at *
              obtain ⟨t, te⟩ := ts
              simp only at HLA
              have EB : Hid (sentE m L s e o (j + 1) = if leqF t m.fin then (sentE m L s e o j).push ⟨t, L, s.sent + (j : Int), (o.sn j).dst, (o.sn j).pay⟩ else sentE m L s e o j) := by
                show _ = _
                rw [show sentE m L s e o (j + 1) = (if leqF (whenS m e o j).1 m.fin then (sentE m L s e o j).push ⟨(whenS m e o j).1, L, s.sent + (j : Int), (o.sn j).dst, (o.sn j).pay⟩ else sentE m L s e o j) from rfl, WS.out]
              have EL : Hid (laterB m e o (j + 1) = decide (te = 0)) := by
                show _ = _
                rw [show laterB m e o (j + 1) = (laterB m e o j && decide ((whenS m e o j).2 = 0)) from rfl, WS.out, HLB.out]; rfl
              have hj2 : (j : Int) < (o.ns : Int) := by omega
              have hj0 : (0 : Int) ≤ (j : Int) := by omega
              have hjt : ((j : Nat) : Int).toNat = j := by omega
              go_upto_region 11 with fail
              have HD := Lib.hid (HR.out.below (bdrew wr))
              have XD := Lib.hid (XR.out.below (bdrew wr))
              have VD := Lib.hid (HV.out.below (bdrew wr))
              refine wp_region_held_drew (S := (fun w' => w'.cell? ⟨w.heap.size + 2, 0, none⟩ = some (.float .f64 e.t) ∧ w'.cell? ⟨w.heap.size, 0, none⟩ = some (.int .i64 m.seed) ∧ w'.cell? ⟨w.heap.size, 1, none⟩ = some (.float .f64 m.fin) ∧ w'.cell? ⟨w.heap.size, 2, none⟩ = some vd ∧ w'.cell? ⟨w.heap.size, 3, none⟩ = some (.slice (some ⟨bp, op, none⟩) m.np cp) ∧ w'.cell? ⟨w.heap.size, 4, none⟩ = some (.slice (some ⟨bl, ol, none⟩) m.nl cl) ∧ w'.cell? ⟨w.heap.size, 5, none⟩ = some vi ∧ w'.cell? ⟨xb, 1, none⟩ = some (.slice (some ⟨b, q, none⟩) o.ns cs) ∧ w'.cell? ⟨b, q + j * 3 + 1, none⟩ = some (.int .i64 (o.sn j).dl))) (by kernel_rfl) ?_ (fun hHeld => ?_)
              · exact (SS.out _ HD.out XD.out).1
              change wpAnyH _ _ _ _ _ _ _ _ (World.drew wr)
              clear x0 x1 x2 x3 HR XR HV
              generalize wr.drew = u0 at *
              first | refine tq0 0 rfl ?_ | refine tq1 0 rfl ?_
              try go_frame
              first | refine tq0 1 rfl ?_ | refine tq1 1 rfl ?_
              try go_frame
              first | refine tq0 2 rfl ?_ | refine tq1 2 rfl ?_
              try go_frame
              first | refine tq0 3 rfl ?_ | refine tq1 3 rfl ?_
              try go_frame
              first | refine tq0 4 rfl ?_ | refine tq1 4 rfl ?_
              try go_frame
              first | refine tq0 5 rfl ?_ | refine tq1 5 rfl ?_
              try go_frame
              first | refine tq0 6 rfl ?_ | refine tq1 6 rfl ?_
              try go_frame
              first | refine tq0 7 rfl ?_ | refine tq1 7 rfl ?_
              try go_frame
              first | refine tq0 8 rfl ?_ | refine tq1 8 rfl ?_
              try go_frame
              first | refine tq0 9 rfl ?_ | refine tq1 9 rfl ?_
              try go_frame
              refine wpAnyH_ready (rs := [10]) (by kernel_rfl) (by simp) ?_
              refine AllReadyH.cons (o := ⟨_, _, _, _, _, _⟩) rfl (fun K hK => ?_) AllReadyH.nil
              go_simp
              go_at_call 37
              refine (HDL.out _ HD.out.l).mono ?_
              rintro x w1 ⟨rfl, hb1⟩
              have H1 := Lib.hid (HD.out.below hb1)
              have X1 := Lib.hid (XD.out.below hb1)
              have V1 := Lib.hid (VD.out.below hb1)
              refine hK.out _ _ ?_ (fun hHeld => ?_)
              · exact (SS.out _ H1.out X1.out).1
              clear hK K
              try go_frame
              refine wpAnyH_ready (rs := [11]) (by kernel_rfl) (by simp) ?_
              refine AllReadyH.cons (o := ⟨_, _, _, _, _, _⟩) rfl (fun K hK => ?_) AllReadyH.nil
              go_simp
              go_at_call 36
              refine (HLA.out _).mono ?_
              rintro x w2 ⟨rfl, hb2⟩
              have H2 := Lib.hid (H1.out.below hb2)
              have X2 := Lib.hid (X1.out.below hb2)
              have V2 := Lib.hid (V1.out.below hb2)
              refine hK.out _ _ ?_ (fun hHeld => ?_)
              · exact (SS.out _ H2.out X2.out).1
              clear hK K
              try go_frame
              clear hb1 hb2
              first | refine tq0 12 rfl ?_ | refine tq1 12 rfl ?_
              try go_frame
              first | refine tq0 13 rfl ?_ | refine tq1 13 rfl ?_
              try go_frame
              first | refine tq0 14 rfl ?_ | refine tq1 14 rfl ?_
              try go_frame
              first | refine tq0 15 rfl ?_ | refine tq1 15 rfl ?_
              try go_frame
              first | refine tq0 16 rfl ?_ | refine tq1 16 rfl ?_
              try go_frame
              refine wpAnyH_done (by kernel_rfl) ?_ _
              clear hHeld
              obtain ⟨m0, m1, m2, m3, m4, m5⟩ := six_cells7 H2.out.m
              obtain ⟨s0, s1, s2⟩ := three_cells8 H2.out.s
              obtain ⟨z0, z1, z2⟩ := three_cells8 H2.out.z
              have zf : ∀ q, w2.frozen? ⟨w.heap.size + 3, q, none⟩ = false := fun q => Lib.frozen_of_heap H2.out.z q
              by_cases ht : te = 0
              · subst ht
                have EL2 : Hid (laterB m e o (j + 1) = true) := by show _ = _; rw [EL.out]; rfl
                cases hq : leqF t m.fin with
                | false =>
                  have dq : ((FloatKind.f64.format.order t m.fin == some Ordering.lt) || (FloatKind.f64.format.order t m.fin == some Ordering.eq)) = false := hq
                  rw [hq] at EB
                  clear hq
                  go_wp2_with fail
                  go_roundw
                  case rel => exact ⟨j + 1, by omega, by go_num, by rw [EB.out]; exact V2.out, EL2.out, H2.out, X2.out⟩
                  case measure => simp [intOf]; omega
                | true =>
                  have dq : ((FloatKind.f64.format.order t m.fin == some Ordering.lt) || (FloatKind.f64.format.order t m.fin == some Ordering.eq)) = true := hq
                  rw [hq] at EB
                  clear hq
                  have l1 : -9223372036854775808 ≤ s.sent + (j : Int) := by omega
                  have l2 : s.sent + (j : Int) ≤ 9223372036854775807 := by omega
                  have hwr : IntKind.i64.wrap (s.sent + (j : Int)) = s.sent + (j : Int) := IntWalk.i64_in _ ⟨l1, l2⟩
                  have hbn : (sentE m L s e o j).n ≤ j := sentE_n m L s e o j
                  go_upto_region 15 with fail
                  have HE := Lib.hid (H2.out.below (bdrew w2))
                  have XE := Lib.hid (X2.out.below (bdrew w2))
                  have VE := Lib.hid (V2.out.below (bdrew w2))
                  refine wp_region_held_drew (S := (fun w' => w'.cell? ⟨w.heap.size + 1, 1, none⟩ = some (.int .i64 s.sent) ∧ w'.cell? ⟨xb, 1, none⟩ = some (.slice (some ⟨b, q, none⟩) o.ns cs) ∧ w'.cell? ⟨b, q + j * 3, none⟩ = some (.int .i64 (o.sn j).dst) ∧ w'.cell? ⟨b, q + j * 3 + 2, none⟩ = some (.int .i64 (o.sn j).pay))) (by kernel_rfl) ?_ (fun hHeld => ?_)
                  · exact (SS.out _ HE.out XE.out).2
                  change wpAnyH _ _ _ _ _ _ _ _ (World.drew w2)
                  clear m0 m1 m2 m3 m4 m5 s0 s1 s2 z0 z1 z2 zf H2 X2 V2 H1 X1 V1 HD XD VD
                  generalize w2.drew = u5 at *
                  first | refine tq0 0 rfl ?_ | refine tq1 0 rfl ?_
                  try go_frame
                  first | refine tq0 1 rfl ?_ | refine tq1 1 rfl ?_
                  try go_frame
                  first | refine tq0 2 rfl ?_ | refine tq1 2 rfl ?_
                  try go_frame
                  first | refine tq0 3 rfl ?_ | refine tq1 3 rfl ?_
                  try go_frame
                  first | refine tq0 4 rfl ?_ | refine tq1 4 rfl ?_
                  try go_frame
                  first | refine tq0 5 rfl ?_ | refine tq1 5 rfl ?_
                  try go_frame
                  first | refine tq0 6 rfl ?_ | refine tq1 6 rfl ?_
                  try go_frame
                  first | refine tq0 7 rfl ?_ | refine tq1 7 rfl ?_
                  try go_frame
                  first | refine tq0 8 rfl ?_ | refine tq1 8 rfl ?_
                  try go_frame
                  first | refine tq0 9 rfl ?_ | refine tq1 9 rfl ?_
                  try go_frame
                  first | refine tq0 10 rfl ?_ | refine tq1 10 rfl ?_
                  try go_frame
                  first | refine tq0 11 rfl ?_ | refine tq1 11 rfl ?_
                  try go_frame
                  first | refine tq0 12 rfl ?_ | refine tq1 12 rfl ?_
                  try go_frame
                  first | refine tq0 13 rfl ?_ | refine tq1 13 rfl ?_
                  try go_frame
                  first | refine tq0 14 rfl ?_ | refine tq1 14 rfl ?_
                  try go_frame
                  first | refine tq0 15 rfl ?_ | refine tq1 15 rfl ?_
                  try go_frame
                  first | refine tq0 16 rfl ?_ | refine tq1 16 rfl ?_
                  try go_frame
                  first | refine tq0 17 rfl ?_ | refine tq1 17 rfl ?_
                  try go_frame
                  first | refine tq0 18 rfl ?_ | refine tq1 18 rfl ?_
                  try go_frame
                  first | refine tq0 19 rfl ?_ | refine tq1 19 rfl ?_
                  try go_frame
                  first | refine tq0 20 rfl ?_ | refine tq1 20 rfl ?_
                  try go_frame
                  refine wpAnyH_ready (rs := [21]) (by kernel_rfl) (by simp) ?_
                  refine AllReadyH.cons (o := ⟨_, _, _, _, _, _⟩) rfl (fun K hK => ?_) AllReadyH.nil
                  go_simp
                  have H6 := Lib.hid (HE.out.below (balloc u5 (.cells #[.float .f64 t, .int .i64 (L : Int), .int .i64 (s.sent + (j : Int)), .int .i64 (o.sn j).dst, .int .i64 (o.sn j).pay] 41)))
                  have X6 := Lib.hid (XE.out.below (balloc u5 (.cells #[.float .f64 t, .int .i64 (L : Int), .int .i64 (s.sent + (j : Int)), .int .i64 (o.sn j).dst, .int .i64 (o.sn j).pay] 41)))
                  have V6 := Lib.hid (VE.out.below (balloc u5 (.cells #[.float .f64 t, .int .i64 (L : Int), .int .i64 (s.sent + (j : Int)), .int .i64 (o.sn j).dst, .int .i64 (o.sn j).pay] 41)))
                  have HNW := Lib.hid (news_cells7 u5 #[.float .f64 t, .int .i64 (L : Int), .int .i64 (s.sent + (j : Int)), .int .i64 (o.sn j).dst, .int .i64 (o.sn j).pay] 41)
                  have HOW : Hid ((u5.alloc (.cells #[.float .f64 t, .int .i64 (L : Int), .int .i64 (s.sent + (j : Int)), .int .i64 (o.sn j).dst, .int .i64 (o.sn j).pay] 41)).ownsRow (w.heap.size + 4) 41 5 (.slice az (sentE m L s e o j).n cz) (sentE m L s e o j).n (rowCells 5 (gV8 (sentE m L s e o j).f) (sentE m L s e o j).n)) := by
                    obtain ⟨_, _, e1, h1⟩ := V6.out
                    simp only [Value.slice.injEq, true_and] at e1
                    obtain ⟨rfl, rfl⟩ := e1
                    exact h1
                  have HBS : Hid (w.heap.size + 4 ≤ (u5.alloc (.cells #[.float .f64 t, .int .i64 (L : Int), .int .i64 (s.sent + (j : Int)), .int .i64 (o.sn j).dst, .int .i64 (o.sn j).pay] 41)).heap.size) := H6.out.size
                  refine hK.out _ _ ?_ (fun hHeld => ?_)
                  · exact (SS.out _ H6.out X6.out).2
                  clear hK K
                  try go_frame
                  refine wpAnyH_ready (rs := [22]) (by kernel_rfl) (by simp) ?_
                  refine AllReadyH.cons (o := ⟨_, _, _, _, _, _⟩) rfl (fun K hK => ?_) AllReadyH.nil
                  refine step_append_lies _ rfl (.tmp 127) (.tmp 148) 50 rfl (w.heap.size + 4) 41 i0 (.agg #[.float .f64 0, .int .i64 0, .int .i64 0, .int .i64 0, .int .i64 0]) 5 40 Tryz.underlying50 hi0 hz0 hz1 hz2 rfl (by decide) (.slice az (sentE m L s e o j).n cz) (sentE m L s e o j).n _ (by simp [Act.eval]) HOW.out ⟨u5.heap.size, 0, none⟩ 1 1 [.float .f64 t, .int .i64 (L : Int), .int .i64 (s.sent + (j : Int)), .int .i64 (o.sn j).dst, .int .i64 (o.sn j).pay] (by simp [Act.eval]) rfl HNW.out (by simp [Value.oneCell']) (by decide) (by unfold maxLen; omega) (by omega) HBS.out _ rfl ?_
                  intro g9 cap9 w10 hown10 hgr _ _
                  have H7 := Lib.hid (H6.out.below4 (below_grown HOW.out HBS.out hgr))
                  have X7 := Lib.hid (X6.out.grown HOW.out hgr)
                  have V7 : Hid (EvsAt (w.heap.size + 4) (sentE m L s e o (j + 1)) (.slice (some ⟨g9, 0, none⟩) ((sentE m L s e o j).n + 1) cap9) w10) := by
                    show EvsAt _ _ _ _
                    rw [EB.out]
                    first | rw [if_pos rfl] | rw [if_pos trivial]
                    refine ⟨some ⟨g9, 0, none⟩, cap9, rfl, ?_⟩
                    rw [← push_cells (sentE m L s e o j) ⟨t, L, s.sent + (j : Int), (o.sn j).dst, (o.sn j).pay⟩]
                    exact hown10
                  refine hK.out _ _ ?_ (fun hHeld => ?_)
                  · exact (SS.out _ H7.out X7.out).2
                  clear hK K
                  try go_frame
                  clear hown10 hgr
                  first | refine tq0 23 rfl ?_ | refine tq1 23 rfl ?_
                  try go_frame
                  refine wpAnyH_done (by kernel_rfl) ?_ _
                  go_wp2_with fail
                  go_roundw
                  case rel => exact ⟨j + 1, by omega, by go_num, V7.out, EL2.out, H7.out, X7.out⟩
                  case measure => simp [intOf]; omega
              · have dt : (te != 0) = true := by simp [ht]
                have EH : Hid (handH m L s e = ⟨s, evs0, 7, 0⟩) := by show _ = _; rw [EH1.out, if_pos (laterB_false (j := j) (by rw [WS.out]; exact ht) _ HLT.out)]
                clear ht
                go_wp2_with fail
                change bodyPost _ _ _ _ _ (World.setCells w2 (w.heap.size + 3) 0 [.slice ai s.nw ci, .int .i64 s.sent, .int .i64 s.dice])
                have h5 := put_three8 H2.out.z (.slice ai s.nw ci) (.int .i64 s.sent) (.int .i64 s.dice)
                have h6 : (World.setCells w2 (w.heap.size + 3) 0 [.slice ai s.nw ci, .int .i64 s.sent, .int .i64 s.dice]).heap[w.heap.size + 3]? = some (.cells #[.slice ai s.nw ci, .int .i64 s.sent, .int .i64 s.dice] 55 (0, 0)) := h5
                have LZ := Lib.hid (H2.out.l.trans (put_low7 (show w.heap.size ≤ w.heap.size + 3 by omega) [.slice ai s.nw ci, .int .i64 s.sent, .int .i64 s.dice] 0 w2))
                obtain ⟨t0, t1, t2⟩ := three_cells8 h6
                clear h5 h6
                generalize (World.setCells w2 (w.heap.size + 3) 0 [.slice ai s.nw ci, .int .i64 s.sent, .int .i64 s.dice]) = w9 at *
                exact bodyPost_ret (v := .tuple #[.agg #[.slice ai s.nw ci, .int .i64 s.sent, .int .i64 s.dice], .slice none 0 0, .int .i64 7, .int .i64 0]) (by simp [results, Tryz.results17, go_sem, t0, t1, t2]) rfl (by
                  rw [HPO.out, EH.out]
                  exact ⟨_, _, rfl, HS.out.below LZ.out, sl_none8 5 _ _, LZ.out, .inl rfl, hnew_none _ _ _⟩)
            · obtain rfl : j = o.ns := by omega
              have EH : Hid (handH m L s e = ⟨⟨o.nw, o.w, s.sent + (o.ns : Int), o.dice⟩, sentE m L s e o o.ns, 0, 0⟩) := by show _ = _; rw [EH1.out, if_neg (by rw [HLB.out]; decide)]
              have l1 : -9223372036854775808 ≤ s.sent + (o.ns : Int) := by omega
              have l2 : s.sent + (o.ns : Int) ≤ 9223372036854775807 := by omega
              obtain ⟨s0, s1, s2⟩ := three_cells8 HR.out.s
              obtain ⟨z0, z1, z2⟩ := three_cells8 HR.out.z
              have zf : ∀ q, wr.frozen? ⟨w.heap.size + 3, q, none⟩ = false := fun q => Lib.frozen_of_heap HR.out.z q
              go_wp2_with fail
              change bodyPost _ _ _ _ _ (World.setCells wr (w.heap.size + 3) 0 [.slice aw o.nw cw, .int .i64 (s.sent + (o.ns : Int)), .int .i64 o.dice])
              have h5 := put_three8 HR.out.z (.slice aw o.nw cw) (.int .i64 (s.sent + (o.ns : Int))) (.int .i64 o.dice)
              have h6 : (World.setCells wr (w.heap.size + 3) 0 [.slice aw o.nw cw, .int .i64 (s.sent + (o.ns : Int)), .int .i64 o.dice]).heap[w.heap.size + 3]? = some (.cells #[.slice aw o.nw cw, .int .i64 (s.sent + (o.ns : Int)), .int .i64 o.dice] 55 (0, 0)) := h5
              have LZ := Lib.hid (HR.out.l.trans (put_low7 (show w.heap.size ≤ w.heap.size + 3 by omega) [.slice aw o.nw cw, .int .i64 (s.sent + (o.ns : Int)), .int .i64 o.dice] 0 wr))
              have SW : Hid (Sl 1 (gW o.w) o.nw (.slice aw o.nw cw) (World.setCells wr (w.heap.size + 3) 0 [.slice aw o.nw cw, .int .i64 (s.sent + (o.ns : Int)), .int .i64 o.dice])) := own_sl (own_setCells (own_not XR.out.w HR.out.z (by decide)) _ 0 _ XR.out.w)
              have NW9 : Hid (HNew w.heap.size (.slice aw o.nw cw)) := fun g hg => by have := (own_lt XR.out.w hg).1; omega
              have NV9 : Hid (HNew w.heap.size (.slice az (sentE m L s e o o.ns).n cz)) := by
                obtain ⟨_, _, e1, h1⟩ := HV.out
                simp only [Value.slice.injEq, true_and] at e1
                obtain ⟨rfl, rfl⟩ := e1
                exact fun g hg => by have := (own_lt h1 hg).1; omega
              have SV : Hid (Sl 5 (gV8 (sentE m L s e o o.ns).f) (sentE m L s e o o.ns).n (.slice az (sentE m L s e o o.ns).n cz) (World.setCells wr (w.heap.size + 3) 0 [.slice aw o.nw cw, .int .i64 (s.sent + (o.ns : Int)), .int .i64 o.dice])) := by
                obtain ⟨_, _, e1, h1⟩ := HV.out
                simp only [Value.slice.injEq, true_and] at e1
                obtain ⟨rfl, rfl⟩ := e1
                exact own_sl (own_setCells (own_not h1 HR.out.z (by decide)) _ 0 _ h1)
              obtain ⟨t0, t1, t2⟩ := three_cells8 h6
              clear h5 h6
              generalize (World.setCells wr (w.heap.size + 3) 0 [.slice aw o.nw cw, .int .i64 (s.sent + (o.ns : Int)), .int .i64 o.dice]) = w9 at *
              exact bodyPost_ret (v := .tuple #[.agg #[.slice aw o.nw cw, .int .i64 (s.sent + (o.ns : Int)), .int .i64 o.dice], .slice az (sentE m L s e o o.ns).n cz, .int .i64 0, .int .i64 0]) (by simp [results, Tryz.results17, go_sem, t0, t1, t2]) rfl (by
                rw [HPO.out, EH.out]
                exact ⟨_, _, rfl, SW.out, SV.out, LZ.out, .inr NW9.out, NV9.out⟩)
        · have df : (o.f != 0) = true := by simp [hf]
          have EH : Hid (handH m L s e = ⟨s, evs0, o.f, 0⟩) := by show _ = _; rw [EH0.out, if_pos hf]
          clear hf EH0
          go_wp2_with fail
          go_region
          change Exit.then _ _ _ _ (World.setCells wc (w.heap.size + 3) 0 [.slice ai s.nw ci, .int .i64 s.sent, .int .i64 s.dice]).drew
          have h5 := put_three8 HU.out.z (.slice ai s.nw ci) (.int .i64 s.sent) (.int .i64 s.dice)
          have h6 : (World.setCells wc (w.heap.size + 3) 0 [.slice ai s.nw ci, .int .i64 s.sent, .int .i64 s.dice]).drew.heap[w.heap.size + 3]? = some (.cells #[.slice ai s.nw ci, .int .i64 s.sent, .int .i64 s.dice] 55 (0, 0)) := h5
          have LZ := Lib.hid (HU.out.l.trans (put_low7 (show w.heap.size ≤ w.heap.size + 3 by omega) [.slice ai s.nw ci, .int .i64 s.sent, .int .i64 s.dice] 0 wc)).drew
          obtain ⟨t0, t1, t2⟩ := three_cells8 h6
          clear h5 h6
          generalize (World.setCells wc (w.heap.size + 3) 0 [.slice ai s.nw ci, .int .i64 s.sent, .int .i64 s.dice]).drew = w9 at *
          go_wp2_with fail
          exact bodyPost_ret (v := .tuple #[.agg #[.slice ai s.nw ci, .int .i64 s.sent, .int .i64 s.dice], .slice none 0 0, .int .i64 o.f, .int .i64 0]) (by simp [results, Tryz.results17, go_sem, t0, t1, t2]) rfl (by
            rw [HPO.out, EH.out]
            exact ⟨_, _, rfl, HS.out.below LZ.out, sl_none8 5 _ _, LZ.out, .inl rfl, hnew_none _ _ _⟩)
theorem refHandle8_any (m : Mdl) (vd vp vl vi : Value) (lp : Int) (s : Sta) (vI : Value) (e : Evn) (w : World) (hm : MdlAt m vd vp vl vi w) (hs : Sl 1 (gW s.w) s.nw vI w) (hc : chkN m = 0)
    (hb : ∀ p k, r64v (m.pr p k).b) (hbd : Bd (beginM (inpOf m lp s e))) :
    Calls Tryz.prog 17 #[mval m vd vp vl vi, .int .i64 lp, sval s vI, eval8 e] w (HPost w m lp s e) :=
  (refHandle9_any m vd vp vl vi lp s vI e w hm hs hc hb hbd).mono fun x w' ⟨vs, ve, h1, h2, h3, h4, _⟩ => ⟨vs, ve, h1, h2, h3, h4⟩

end Go.Proofs.YthkfaeplmmlnlaaGreat
