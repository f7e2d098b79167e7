/- The walk of the law ActAgain, over whatever the program's Handle is known to answer. -/
import Derived.Deep.DeepCutAuto
import Derived.Test.YtplhkplfbcmbdaaYZ27
namespace Go.Proofs.Ytplhkplfbcmbdaa
open Go.RowKit Go.Deep
set_option linter.unusedVariables false
set_option maxRecDepth 100000

theorem light8d_any (m : Mdl) (vd vp vl vi : Value) (lp : Int) (s : Sta) (aI : Option Addr) (cI : Nat) (e : Evn) (w : World) (hm : MdlAt m vd vp vl vi w) :
    Calls Try.prog 19 #[.agg #[.int .i64 m.seed, .float .f64 m.fin, vd, vp, vl, vi, .int .i64 lp, .slice aI s.nw cI, .int .i64 s.sent, .int .i64 s.dice, .float .f64 e.t, .int .i64 e.src, .int .i64 e.n, .int .i64 e.dst, .int .i64 e.pay]] w fun x w' => ∃ b, x = .returned (.bool b) ∧ (b = true → s.nw < 60) ∧ Below w.heap.size w w' := by
  have X1 : Hid ((w.alloc (.cells #[.int .i64 m.seed, .float .f64 m.fin, vd, vp, vl, vi, .int .i64 lp, .slice aI s.nw cI, .int .i64 s.sent, .int .i64 s.dice, .float .f64 e.t, .int .i64 e.src, .int .i64 e.n, .int .i64 e.dst, .int .i64 e.pay] 51)).heap[w.heap.size]? = some (.cells #[.int .i64 m.seed, .float .f64 m.fin, vd, vp, vl, vi, .int .i64 lp, .slice aI s.nw cI, .int .i64 s.sent, .int .i64 s.dice, .float .f64 e.t, .int .i64 e.src, .int .i64 e.n, .int .i64 e.dst, .int .i64 e.pay] 51)) := heap_alloc_new w _
  have B1 := Lib.hid (balloc w (.cells #[.int .i64 m.seed, .float .f64 m.fin, vd, vp, vl, vi, .int .i64 lp, .slice aI s.nw cI, .int .i64 s.sent, .int .i64 s.dice, .float .f64 e.t, .int .i64 e.src, .int .i64 e.n, .int .i64 e.dst, .int .i64 e.pay] 51))
  have HL := Lib.hid (light8_any m vd vp vl vi _ (hm.below B1.out))
  obtain ⟨k0, k1, k2, k3, k4, k5, k6, k7, k8, k9, k10, k11, k12, k13, k14⟩ := cbox_cells (m := m) (vd := vd) (vp := vp) (vl := vl) (vi := vi) (lp := lp) (s := s) (vI := .slice aI s.nw cI) (e := e) X1.out
  clear hm
  unfold mval at HL
  by_cases hq : s.nw < 60
  · have HQ := Lib.hid hq
    have dq : decide ((s.nw : Int) < (60 : Int)) = true := by simp; omega
    clear hq
    go_enter Try.func19, Try.ntmps19
    go_upto_region 1 with fail
    generalize w.alloc (.cells #[.int .i64 m.seed, .float .f64 m.fin, vd, vp, vl, vi, .int .i64 lp, .slice aI s.nw cI, .int .i64 s.sent, .int .i64 s.dice, .float .f64 e.t, .int .i64 e.src, .int .i64 e.n, .int .i64 e.dst, .int .i64 e.pay] 51) = u at *
    go_wp2_with (go_at_call 9; refine HL.out.mono ?_; rintro x u2 ⟨b, rfl, hb2⟩; have B2 := Lib.hid (bthen B1.out hb2); have kk := (cbox_cells (m := m) (vd := vd) (vp := vp) (vl := vl) (vi := vi) (lp := lp) (s := s) (vI := .slice aI s.nw cI) (e := e) ((hb2.block _ (lt_of_block X1.out)).trans X1.out)).2.2.2.2.2.2.2.1; clear hb2 k7; cases b)
    · go_wp2_with fail
      go_ret
      exact ⟨false, rfl, fun h => (by cases h), B2.out⟩
    · go_wp2_with fail
      go_ret
      exact ⟨true, rfl, fun _ => HQ.out, B2.out⟩
  · have dq : decide ((s.nw : Int) < (60 : Int)) = false := by simp; omega
    clear hq
    go_enter Try.func19, Try.ntmps19
    go_upto_region 1 with fail
    generalize w.alloc (.cells #[.int .i64 m.seed, .float .f64 m.fin, vd, vp, vl, vi, .int .i64 lp, .slice aI s.nw cI, .int .i64 s.sent, .int .i64 s.dice, .float .f64 e.t, .int .i64 e.src, .int .i64 e.n, .int .i64 e.dst, .int .i64 e.pay] 51) = u at *
    go_wp2_with (go_at_call 9; refine HL.out.mono ?_; rintro x u2 ⟨b, rfl, hb2⟩; have B2 := Lib.hid (bthen B1.out hb2); have kk := (cbox_cells (m := m) (vd := vd) (vp := vp) (vl := vl) (vi := vi) (lp := lp) (s := s) (vI := .slice aI s.nw cI) (e := e) ((hb2.block _ (lt_of_block X1.out)).trans X1.out)).2.2.2.2.2.2.2.1; clear hb2 k7; cases b)
    · go_wp2_with fail
      go_ret
      exact ⟨false, rfl, fun h => (by cases h), B2.out⟩
    · go_wp2_with fail
      go_ret
      exact ⟨false, rfl, fun h => (by cases h), B2.out⟩

/-- what stays: the two cases boxed, and the words put aside -/
structure AgI (w : World) (cb ob : Obj) (s : Sta) (a5 : Option Addr) (c5 : Nat) (u : World) : Prop where
  c : u.heap[w.heap.size]? = some cb
  o : u.heap[w.heap.size + 1]? = some ob
  r : u.ownsRow w.heap.size 3 1 (.slice a5 s.nw c5) s.nw (rowCells 1 (gW s.w) s.nw)
  low : Below w.heap.size w u
theorem AgI.below {w : World} {cb ob : Obj} {s : Sta} {a5 : Option Addr} {c5 : Nat} {u u2 : World} (h : AgI w cb ob s a5 c5 u) (k : Below u.heap.size u u2) : AgI w cb ob s a5 c5 u2 :=
  ⟨(k.block _ (lt_of_block h.c)).trans h.c, (k.block _ (lt_of_block h.o)).trans h.o, own_below h.r k, bthen h.low k⟩
/-- the loop that writes over the words that were handed back -/
structure AgL (w : World) (cb ob : Obj) (s : Sta) (a5 : Option Addr) (c5 : Nat) (hs : Sta) (hl : Evs) (aJ : Option Addr) (cJ yb : Nat) (ve : Value) (u : World) : Prop where
  i : AgI w cb ob s a5 c5 u
  y : u.heap[yb]? = some (.cells #[.slice aJ hs.nw cJ, .int .i64 hs.sent, .int .i64 hs.dice] 37 (0, 0))
  j : ∃ fJ, u.ownsRow w.heap.size 3 1 (.slice aJ hs.nw cJ) hs.nw (rowCells 1 (gW fJ) hs.nw)
  ap : ∀ g, (Value.slice a5 s.nw c5).ownBlock = some g → (Value.slice aJ hs.nw cJ).ownBlock ≠ some g
  v : EvsAt w.heap.size hl ve u
theorem AgL.below {w : World} {cb ob : Obj} {s : Sta} {a5 : Option Addr} {c5 : Nat} {hs : Sta} {hl : Evs} {aJ : Option Addr} {cJ yb : Nat} {ve : Value} {u u2 : World} (h : AgL w cb ob s a5 c5 hs hl aJ cJ yb ve u) (k : Below u.heap.size u u2) : AgL w cb ob s a5 c5 hs hl aJ cJ yb ve u2 := by
  obtain ⟨fJ, hj⟩ := h.j
  exact ⟨h.i.below k, (k.block _ (lt_of_block h.y)).trans h.y, ⟨fJ, own_below hj k⟩, h.ap, h.v.below k⟩
theorem AgL.set {w : World} {ccs ocs : Array Value} {s : Sta} {a5 : Option Addr} {c5 : Nat} {hs : Sta} {hl : Evs} {aJ : Option Addr} {cJ yb : Nat} {ve : Value} {u : World} (h : AgL w (.cells ccs 51) (.cells ocs 51) s a5 c5 hs hl aJ cJ yb ve u) {j : Nat} (hj : j < hs.nw) :
    ∃ bw x0, aJ = some ⟨bw, 0, none⟩ ∧ u.cell? ⟨bw, j, none⟩ = some (.int .i64 x0) ∧ (∀ q, u.frozen? ⟨bw, q, none⟩ = false) ∧ hs.nw ≤ cJ ∧
      ∀ x, AgL w (.cells ccs 51) (.cells ocs 51) s a5 c5 hs hl aJ cJ yb ve (u.setCell ⟨bw, j, none⟩ (.int .i64 x)) := by
  obtain ⟨fJ, hr⟩ := h.j
  obtain ⟨_, _, e9, hle, _, _⟩ := own_sl hr
  simp only [Value.slice.injEq, true_and] at e9
  obtain ⟨bw, cap, e1, e2, e3, e4, e5⟩ := own_set hr hj
  simp only [Value.slice.injEq, true_and] at e1
  obtain ⟨rfl, rfl⟩ := e1
  have n : ∀ k {c : Array Value} {t : TypeId} {f : Nat × Nat}, u.heap[k]? = some (.cells c t f) → t ≠ 3 → k ≠ bw := fun k c t f hk ht => by
    rintro rfl
    exact own_not hr hk ht rfl
  refine ⟨bw, fJ j, rfl, e3, e4, by rw [e9.2]; exact hle, fun x => ⟨⟨?_, ?_, own_setCell h.i.r (fun e => h.ap _ e rfl), h.i.low.setCell (p := ⟨bw, j, none⟩) e2 _⟩, ?_, ⟨_, e5 x⟩, h.ap, ?_⟩⟩
  · exact (Below.heap_setCell u ⟨bw, j, none⟩ _ _ (n _ h.i.c (by decide))).trans h.i.c
  · exact (Below.heap_setCell u ⟨bw, j, none⟩ _ _ (n _ h.i.o (by decide))).trans h.i.o
  · exact (Below.heap_setCell u ⟨bw, j, none⟩ _ _ (n _ h.y (by decide))).trans h.y
  · obtain ⟨a, c, rfl, hv⟩ := h.v
    exact ⟨a, c, rfl, own_setCell hv (fun e => own_apart hv hr (by decide) e rfl)⟩
set_option maxHeartbeats 6400000 in
theorem actAgain_core (HAW : Hid (∀ w, Calls Try.prog 10 #[] w fun e w' => e = .returned (.bool true) ∧ Below w.heap.size w w')) (HH : Hid HandleAny)
    (m : Mdl) (vd vp vl vi : Value) (lp : Int) (s : Sta) (vI : Value) (e : Evn) (m2 : Mdl) (vd2 vp2 vl2 vi2 : Value) (lp2 : Int) (s2 : Sta) (vI2 : Value) (e2 : Evn) (w : World) (hm : MdlAt m vd vp vl vi w) (hs : Sl 1 (gW s.w) s.nw vI w) (hb : ∀ p k, r64v (m.pr p k).b) (hbd : Bd (beginM (inpOf m lp s e)))
    (hm2 : MdlAt m2 vd2 vp2 vl2 vi2 w) (hs2 : Sl 1 (gW s2.w) s2.nw vI2 w) (hb2 : ∀ p k, r64v (m2.pr p k).b) (hbd2 : Bd (beginM (inpOf m2 lp2 s2 e2))) :
    Calls Try.prog 8 #[cval m vd vp vl vi lp s vI e, cval m2 vd2 vp2 vl2 vi2 lp2 s2 vI2 e2] w fun x w' => x = .returned (.bool true) ∧ Below w.heap.size w w' := by
  obtain ⟨i0, hi0, hz0, hz1, hz2⟩ := info_parts info_int7
  have HWD := Lib.hid hs
  obtain ⟨aI, cI, rfl, _, _, _⟩ := id hs
  obtain ⟨aI2, cI2, rfl, _, _, _⟩ := id hs2
  obtain ⟨hh, ehh⟩ : ∃ h, h = handA m lp s e := ⟨_, rfl⟩
  have HA : Hid (∀ u, Below w.heap.size w u → Calls Try.prog 20 #[.agg #[.int .i64 m.seed, .float .f64 m.fin, vd, vp, vl, vi], .int .i64 lp, .agg #[.slice aI s.nw cI, .int .i64 s.sent, .int .i64 s.dice], .agg #[.float .f64 e.t, .int .i64 e.src, .int .i64 e.n, .int .i64 e.dst, .int .i64 e.pay]] u fun x w' => ∃ vs ve, x = .returned (.tuple #[vs, ve, .int .i64 hh.f, .int .i64 hh.e]) ∧ StaAt u.heap.size hh.s vs w' ∧ EvsAt u.heap.size hh.l ve w' ∧ Below u.heap.size u w') := fun u k => by rw [ehh]; exact HH.out m vd vp vl vi lp s _ e u (hm.below k) (hs.below k) hb hbd
  have HA2 : Hid (∀ u, Below w.heap.size w u → Calls Try.prog 20 #[.agg #[.int .i64 m2.seed, .float .f64 m2.fin, vd2, vp2, vl2, vi2], .int .i64 lp2, .agg #[.slice aI2 s2.nw cI2, .int .i64 s2.sent, .int .i64 s2.dice], .agg #[.float .f64 e2.t, .int .i64 e2.src, .int .i64 e2.n, .int .i64 e2.dst, .int .i64 e2.pay]] u fun x w' => ∃ vs ve f g, x = .returned (.tuple #[vs, ve, .int .i64 f, .int .i64 g]) ∧ Below u.heap.size u w') := fun u k => (HH.out m2 vd2 vp2 vl2 vi2 lp2 s2 _ e2 u (hm2.below k) (hs2.below k) hb2 hbd2).mono fun x w' ⟨vs, ve, h1, _, _, h4⟩ => ⟨vs, ve, _, _, h1, h4⟩
  have HL := Lib.hid (fun u (k : Below w.heap.size w u) => light8d_any m vd vp vl vi lp s aI cI e u (hm.below k))
  have HL2 := Lib.hid (fun u (k : Below w.heap.size w u) => light8d_any m2 vd2 vp2 vl2 vi2 lp2 s2 aI2 cI2 e2 u (hm2.below k))
  have HSM : Hid (∀ (b : Sta) (va vb : Value) (u : World), Sl 1 (gW b.w) b.nw va u → Sl 1 (gW b.w) b.nw vb u → Calls Try.prog 17 #[.agg #[va, .int .i64 b.sent, .int .i64 b.dice], .agg #[vb, .int .i64 b.sent, .int .i64 b.dice]] u fun x w' => x = .returned (.bool true) ∧ Below u.heap.size u w') := fun b va vb u h1 h2 => by
    have := refSame8_any b b va vb u h1 h2
    rw [sameW_refl, decide_eq_true rfl, decide_eq_true rfl] at this
    exact this
  have HSE : Hid (∀ (l : Evs) (va vb : Value) (u : World), Sl 5 (gV8 l.f) l.n va u → Sl 5 (gV8 l.f) l.n vb u → Calls Try.prog 15 #[va, vb] u fun x w' => x = .returned (.bool true) ∧ Below u.heap.size u w') := fun l va vb u h1 h2 => sameEv8_refl l va vb u h1 h2
  have HIN : Hid (∀ (va vb : Value) (u : World), Sl 1 (gW s.w) s.nw va u → Sl 1 (gW s.w) s.nw vb u → Calls Try.prog 25 #[va, vb] u fun x w' => x = .returned (.bool true) ∧ Below u.heap.size u w') := fun va vb u h1 h2 => by
    have := ints5_any s.w s.w s.nw s.nw va vb u h1 h2
    rwa [sameW_refl] at this
  obtain ⟨hs9, hl9, hf9, he9⟩ := hh
  simp only at HA
  clear hm hs hb hbd hm2 hs2 hb2 hbd2 HH ehh
  have XC : Hid (((w.alloc (.cells #[.int .i64 m.seed, .float .f64 m.fin, vd, vp, vl, vi, .int .i64 lp, .slice aI s.nw cI, .int .i64 s.sent, .int .i64 s.dice, .float .f64 e.t, .int .i64 e.src, .int .i64 e.n, .int .i64 e.dst, .int .i64 e.pay] 51)).alloc (.cells #[.int .i64 m2.seed, .float .f64 m2.fin, vd2, vp2, vl2, vi2, .int .i64 lp2, .slice aI2 s2.nw cI2, .int .i64 s2.sent, .int .i64 s2.dice, .float .f64 e2.t, .int .i64 e2.src, .int .i64 e2.n, .int .i64 e2.dst, .int .i64 e2.pay] 51)).heap[w.heap.size]? = some (.cells #[.int .i64 m.seed, .float .f64 m.fin, vd, vp, vl, vi, .int .i64 lp, .slice aI s.nw cI, .int .i64 s.sent, .int .i64 s.dice, .float .f64 e.t, .int .i64 e.src, .int .i64 e.n, .int .i64 e.dst, .int .i64 e.pay] 51)) := (Below.heap_alloc _ _ _ (by rw [World.size_alloc]; omega)).trans (heap_alloc_new w _)
  have XO : Hid (((w.alloc (.cells #[.int .i64 m.seed, .float .f64 m.fin, vd, vp, vl, vi, .int .i64 lp, .slice aI s.nw cI, .int .i64 s.sent, .int .i64 s.dice, .float .f64 e.t, .int .i64 e.src, .int .i64 e.n, .int .i64 e.dst, .int .i64 e.pay] 51)).alloc (.cells #[.int .i64 m2.seed, .float .f64 m2.fin, vd2, vp2, vl2, vi2, .int .i64 lp2, .slice aI2 s2.nw cI2, .int .i64 s2.sent, .int .i64 s2.dice, .float .f64 e2.t, .int .i64 e2.src, .int .i64 e2.n, .int .i64 e2.dst, .int .i64 e2.pay] 51)).heap[w.heap.size + 1]? = some (.cells #[.int .i64 m2.seed, .float .f64 m2.fin, vd2, vp2, vl2, vi2, .int .i64 lp2, .slice aI2 s2.nw cI2, .int .i64 s2.sent, .int .i64 s2.dice, .float .f64 e2.t, .int .i64 e2.src, .int .i64 e2.n, .int .i64 e2.dst, .int .i64 e2.pay] 51)) := by
    have := heap_alloc_new (w.alloc (.cells #[.int .i64 m.seed, .float .f64 m.fin, vd, vp, vl, vi, .int .i64 lp, .slice aI s.nw cI, .int .i64 s.sent, .int .i64 s.dice, .float .f64 e.t, .int .i64 e.src, .int .i64 e.n, .int .i64 e.dst, .int .i64 e.pay] 51)) (.cells #[.int .i64 m2.seed, .float .f64 m2.fin, vd2, vp2, vl2, vi2, .int .i64 lp2, .slice aI2 s2.nw cI2, .int .i64 s2.sent, .int .i64 s2.dice, .float .f64 e2.t, .int .i64 e2.src, .int .i64 e2.n, .int .i64 e2.dst, .int .i64 e2.pay] 51)
    rwa [World.size_alloc] at this
  have B1 := Lib.hid (bthen (balloc w (.cells #[.int .i64 m.seed, .float .f64 m.fin, vd, vp, vl, vi, .int .i64 lp, .slice aI s.nw cI, .int .i64 s.sent, .int .i64 s.dice, .float .f64 e.t, .int .i64 e.src, .int .i64 e.n, .int .i64 e.dst, .int .i64 e.pay] 51)) (balloc _ (.cells #[.int .i64 m2.seed, .float .f64 m2.fin, vd2, vp2, vl2, vi2, .int .i64 lp2, .slice aI2 s2.nw cI2, .int .i64 s2.sent, .int .i64 s2.dice, .float .f64 e2.t, .int .i64 e2.src, .int .i64 e2.n, .int .i64 e2.dst, .int .i64 e2.pay] 51)))
  obtain ⟨k0, k1, k2, k3, k4, k5, k6, k7, k8, k9, k10, k11, k12, k13, k14⟩ := cbox_cells (m := m) (vd := vd) (vp := vp) (vl := vl) (vi := vi) (lp := lp) (s := s) (vI := .slice aI s.nw cI) (e := e) XC.out
  obtain ⟨l0, l1, l2, l3, l4, l5, l6, l7, l8, l9, l10, l11, l12, l13, l14⟩ := cbox_cells (m := m2) (vd := vd2) (vp := vp2) (vl := vl2) (vi := vi2) (lp := lp2) (s := s2) (vI := .slice aI2 s2.nw cI2) (e := e2) XO.out
  unfold cval
  generalize hu : ((w.alloc (.cells #[.int .i64 m.seed, .float .f64 m.fin, vd, vp, vl, vi, .int .i64 lp, .slice aI s.nw cI, .int .i64 s.sent, .int .i64 s.dice, .float .f64 e.t, .int .i64 e.src, .int .i64 e.n, .int .i64 e.dst, .int .i64 e.pay] 51)).alloc (.cells #[.int .i64 m2.seed, .float .f64 m2.fin, vd2, vp2, vl2, vi2, .int .i64 lp2, .slice aI2 s2.nw cI2, .int .i64 s2.sent, .int .i64 s2.dice, .float .f64 e2.t, .int .i64 e2.src, .int .i64 e2.n, .int .i64 e2.dst, .int .i64 e2.pay] 51)) = u at *
  go_enter Try.func8, Try.ntmps8
  go_upto_region 1 with fail
  try rw [hu]
  clear hu
  go_cut [26] (fun v wx => ∃ bb : Bool, v = .bool bb ∧ (bb = false → s.nw < 60) ∧ wx.heap[w.heap.size]? = some (.cells #[.int .i64 m.seed, .float .f64 m.fin, vd, vp, vl, vi, .int .i64 lp, .slice aI s.nw cI, .int .i64 s.sent, .int .i64 s.dice, .float .f64 e.t, .int .i64 e.src, .int .i64 e.n, .int .i64 e.dst, .int .i64 e.pay] 51) ∧ wx.heap[w.heap.size + 1]? = some (.cells #[.int .i64 m2.seed, .float .f64 m2.fin, vd2, vp2, vl2, vi2, .int .i64 lp2, .slice aI2 s2.nw cI2, .int .i64 s2.sent, .int .i64 s2.dice, .float .f64 e2.t, .int .i64 e2.src, .int .i64 e2.n, .int .i64 e2.dst, .int .i64 e2.pay] 51) ∧ Below w.heap.size w wx)
  case first =>
    have BB := B1
    go_wp2_with (first
      | (go_at_call 19; with_reducible refine (HL.out _ BB.out).mono ?_; rintro x u2 ⟨b, rfl, hlt, hb2⟩; have BB := Lib.hid (bthen BB.out hb2); have XC := Lib.hid ((hb2.block _ (lt_of_block XC.out)).trans XC.out); have XO := Lib.hid ((hb2.block _ (lt_of_block XO.out)).trans XO.out); have HLT := Lib.hid hlt; clear hb2 hlt l0 l1 l2 l3 l4 l5 l6 l7 l8 l9 l10 l11 l12 l13 l14; obtain ⟨l0, l1, l2, l3, l4, l5, l6, l7, l8, l9, l10, l11, l12, l13, l14⟩ := cbox_cells (m := m2) (vd := vd2) (vp := vp2) (vl := vl2) (vi := vi2) (lp := lp2) (s := s2) (vI := .slice aI2 s2.nw cI2) (e := e2) XO.out; cases b)
      | (go_at_call 19; with_reducible refine (HL2.out _ BB.out).mono ?_; rintro x u3 ⟨b, rfl, hlt2, hb2⟩; have BB := Lib.hid (bthen BB.out hb2); have XC := Lib.hid ((hb2.block _ (lt_of_block XC.out)).trans XC.out); have XO := Lib.hid ((hb2.block _ (lt_of_block XO.out)).trans XO.out); clear hb2 hlt2; cases b))
    · go_meet
      exact ⟨true, rfl, fun h => (by cases h), XC.out, XO.out, BB.out⟩
    · go_meet
      exact ⟨true, rfl, fun h => (by cases h), XC.out, XO.out, BB.out⟩
    · go_meet
      exact ⟨false, rfl, fun _ => HLT.out trivial, XC.out, XO.out, BB.out⟩
  case rest =>
    obtain ⟨bb, rfl, hlt, hxc, hxo, hbl⟩ := hcut
    have X2 := Lib.hid hxc
    have Y2 := Lib.hid hxo
    have B2 := Lib.hid hbl
    have HLT := Lib.hid hlt
    clear XC XO B1 hxc hxo hbl hlt k0 k1 k2 k3 k4 k5 k6 k7 k8 k9 k10 k11 k12 k13 k14 l0 l1 l2 l3 l4 l5 l6 l7 l8 l9 l10 l11 l12 l13 l14
    cases bb with
    | true =>
      go_wp2_with (go_at_call 10; refine (HAW.out _).mono ?_; rintro x w9 ⟨rfl, hb9⟩; have BU := Lib.hid (bthen B2.out hb9); clear hb9)
      go_ret
      exact ⟨rfl, BU.out⟩
    | false =>
      have h60 := HLT.out rfl
      have H60 := Lib.hid h60
      clear HLT h60
      obtain ⟨k0, k1, k2, k3, k4, k5, k6, k7, k8, k9, k10, k11, k12, k13, k14⟩ := cbox_cells (m := m) (vd := vd) (vp := vp) (vl := vl) (vi := vi) (lp := lp) (s := s) (vI := .slice aI s.nw cI) (e := e) X2.out
      go_upto_region 3 with fail
      go_cut [5] (fun v wx => ∃ a5 c5, v = .slice a5 s.nw c5 ∧ AgI w (.cells #[.int .i64 m.seed, .float .f64 m.fin, vd, vp, vl, vi, .int .i64 lp, .slice aI s.nw cI, .int .i64 s.sent, .int .i64 s.dice, .float .f64 e.t, .int .i64 e.src, .int .i64 e.n, .int .i64 e.dst, .int .i64 e.pay] 51) (.cells #[.int .i64 m2.seed, .float .f64 m2.fin, vd2, vp2, vl2, vi2, .int .i64 lp2, .slice aI2 s2.nw cI2, .int .i64 s2.sent, .int .i64 s2.dice, .float .f64 e2.t, .int .i64 e2.src, .int .i64 e2.n, .int .i64 e2.dst, .int .i64 e2.pay] 51) s a5 c5 wx)
      case first =>
        have XA := Lib.hid ((Below.heap_alloc wc (.cells #[] 3) _ (lt_of_block X2.out)).trans X2.out)
        have YA := Lib.hid ((Below.heap_alloc wc (.cells #[] 3) _ (lt_of_block Y2.out)).trans Y2.out)
        have BA := Lib.hid (bthen B2.out (balloc wc (.cells #[] 3)))
        have EA := Lib.hid (World.ownsRow_lit (base := w.heap.size) (e := 3) (size := 1) wc #[] 0 B2.out.size (by decide) rfl)
        have WA := Lib.hid (HWD.out.below BA.out)
        clear k0 k1 k2 k3 k4 k5 k6 k7 k8 k9 k10 k11 k12 k13 k14
        obtain ⟨k0, k1, k2, k3, k4, k5, k6, k7, k8, k9, k10, k11, k12, k13, k14⟩ := cbox_cells (m := m) (vd := vd) (vp := vp) (vl := vl) (vi := vi) (lp := lp) (s := s) (vI := .slice aI s.nw cI) (e := e) XA.out
        rcases Nat.eq_zero_or_pos s.nw with hz | hnz
        · have HZ := Lib.hid hz
          clear hz
          have hsrc : Src Try.prog i0.size 35 (.slice aI s.nw cI) 0 [] (wc.alloc (.cells #[] 3)) := by
            rw [HZ.out]
            cases aI with
            | none => exact Src.ofNil _ Try.underlying35 cI
            | some ad => exact Src.ofSlice _ Try.underlying35 ad 0 cI [] (by simp) (by simp) (by simp)
          have HS := Lib.hid hsrc
          clear hsrc
          go_wp2_with (at_builtin; refine wpList_append_nothing7 rfl _ _ 35 rfl 3 i0 Try.underlying35 hi0 _ 0 0 rfl (Nat.le_refl _) _ rfl HS.out ?_)
          go_meet
          exact ⟨_, 0, by rw [HZ.out], XA.out, YA.out, by rw [HZ.out, rowCells_zero]; exact EA.out, BA.out⟩
        · obtain ⟨a9, c9, e9, l2, l3, k9⟩ := WA.out
          simp only [Value.slice.injEq, true_and] at e9
          obtain ⟨rfl, rfl⟩ := e9
          obtain ⟨bw, ow, rfl, hat⟩ := k9 hnz
          have HN := Lib.hid (at_news hat)
          have HB := Lib.hid (Nat.le_trans B2.out.size (balloc wc (.cells #[] 3)).size)
          have h60 := H60.out
          clear hat
          go_wp2_with (at_builtin; refine wpList_append_own _ rfl _ _ 35 rfl w.heap.size 3 i0 (.int .i64 0) 1 8 Try.underlying35 hi0 hz0 hz1 hz2 rfl (by decide) _ 0 _ rfl EA.out ⟨bw, ow, none⟩ s.nw cI (rowCells 1 (gW s.w) s.nw) rfl (rowCells_len _ _ _) HN.out (row_one _ _) (by unfold maxLen; omega) (by omega) HB.out ?_)
          intro v1 w10 hown hgr hnn
          have W10 := Lib.hid hown
          have B10 := Lib.hid (BA.out.trans (below_grown EA.out HB.out hgr))
          have X10 := Lib.hid (grown_keep7 EA.out hgr XA.out (by decide))
          have Y10 := Lib.hid (grown_keep7 EA.out hgr YA.out (by decide))
          obtain ⟨a1, c1, rfl⟩ : ∃ a c, v1 = .slice a s.nw c := by
            rcases hown.2 with ⟨rfl, h⟩ | ⟨g, cap, cur, rfl, _⟩
            · omega
            · exact ⟨_, _, rfl⟩
          clear hown hgr hnn
          go_wp2_with fail
          go_meet
          exact ⟨_, _, rfl, X10.out, Y10.out, W10.out, B10.out⟩
      case rest =>
        obtain ⟨a5, c5, rfl, hI⟩ := hcut
        have I3 := Lib.hid hI
        clear hI X2 Y2 B2 k0 k1 k2 k3 k4 k5 k6 k7 k8 k9 k10 k11 k12 k13 k14
        obtain ⟨k0, k1, k2, k3, k4, k5, k6, k7, k8, k9, k10, k11, k12, k13, k14⟩ := cbox_cells (m := m) (vd := vd) (vp := vp) (vl := vl) (vi := vi) (lp := lp) (s := s) (vI := .slice aI s.nw cI) (e := e) I3.out.c
        go_wp2_with fail
        refine (HA.out _ I3.out.low).mono ?_
        rintro x u4 ⟨vs, ve, rfl, h1, h2, hb4⟩
        obtain ⟨vJ, rfl, h1⟩ := h1
        obtain ⟨aJ, cJ, rfl, _⟩ := id (own_sl h1)
        obtain ⟨aE, cE, rfl, _⟩ := id h2
        have AP : Hid (∀ g, (Value.slice a5 s.nw c5).ownBlock = some g → (Value.slice aJ hs9.nw cJ).ownBlock ≠ some g) := fun g q1 q2 => by have := (own_lt I3.out.r q1).2; have := (own_lt h1 q2).1; omega
        have L4 : Hid (AgL w (.cells #[.int .i64 m.seed, .float .f64 m.fin, vd, vp, vl, vi, .int .i64 lp, .slice aI s.nw cI, .int .i64 s.sent, .int .i64 s.dice, .float .f64 e.t, .int .i64 e.src, .int .i64 e.n, .int .i64 e.dst, .int .i64 e.pay] 51) (.cells #[.int .i64 m2.seed, .float .f64 m2.fin, vd2, vp2, vl2, vi2, .int .i64 lp2, .slice aI2 s2.nw cI2, .int .i64 s2.sent, .int .i64 s2.dice, .float .f64 e2.t, .int .i64 e2.src, .int .i64 e2.n, .int .i64 e2.dst, .int .i64 e2.pay] 51) s a5 c5 hs9 hl9 aJ cJ u4.heap.size (.slice aE hl9.n cE) (u4.alloc (.cells #[.slice aJ hs9.nw cJ, .int .i64 hs9.sent, .int .i64 hs9.dice] 37))) := ⟨(I3.out.below hb4).below (balloc _ _), heap_alloc_new _ _, ⟨_, own_below (own_lower h1 I3.out.low.size) (balloc _ _)⟩, AP.out, (h2.lower I3.out.low.size).below (balloc _ _)⟩
        unfold sval
        clear hb4 h1 h2 I3 k0 k1 k2 k3 k4 k5 k6 k7 k8 k9 k10 k11 k12 k13 k14
        go_upto_region 5 with fail
        generalize u4.alloc (.cells #[.slice aJ hs9.nw cJ, .int .i64 hs9.sent, .int .i64 hs9.dice] 37) = u5 at *
        generalize u4.heap.size = yb at *
        obtain ⟨l0, l1, l2, l3, l4, l5, l6, l7, l8, l9, l10, l11, l12, l13, l14⟩ := cbox_cells (m := m2) (vd := vd2) (vp := vp2) (vl := vl2) (vi := vi2) (lp := lp2) (s := s2) (vI := .slice aI2 s2.nw cI2) (e := e2) L4.out.i.o
        go_wp2_with fail
        refine (HA2.out _ L4.out.i.low).mono ?_
        rintro x u6 ⟨v6, e6, f6, g6, rfl, hb6⟩
        have L6 := Lib.hid (L4.out.below hb6)
        clear hb6 L4 l0 l1 l2 l3 l4 l5 l6 l7 l8 l9 l10 l11 l12 l13 l14
        go_wp2_with fail
        go_loopw [10] (fun i wr => ∃ j : Nat, j ≤ hs9.nw ∧ i = .int .i64 j ∧ AgL w (.cells #[.int .i64 m.seed, .float .f64 m.fin, vd, vp, vl, vi, .int .i64 lp, .slice aI s.nw cI, .int .i64 s.sent, .int .i64 s.dice, .float .f64 e.t, .int .i64 e.src, .int .i64 e.n, .int .i64 e.dst, .int .i64 e.pay] 51) (.cells #[.int .i64 m2.seed, .float .f64 m2.fin, vd2, vp2, vl2, vi2, .int .i64 lp2, .slice aI2 s2.nw cI2, .int .i64 s2.sent, .int .i64 s2.dice, .float .f64 e2.t, .int .i64 e2.src, .int .i64 e2.n, .int .i64 e2.dst, .int .i64 e2.pay] 51) s a5 c5 hs9 hl9 aJ cJ yb (.slice aE hl9.n cE) wr) (fun i _ => hs9.nw - (intOf i).toNat)
        case atStart => exact ⟨0, Nat.zero_le _, rfl, L6.out⟩
        case round =>
          obtain ⟨j, hj, rfl, hr⟩ := hrel
          have HR := Lib.hid hr
          clear hr L6
          obtain ⟨y0, y1, y2⟩ := three_cells8 HR.out.y
          by_cases hlt : j < hs9.nw
          · obtain ⟨bw, x0, rfl, c0, cf, hcj, hset⟩ := HR.out.set hlt
            have HS := Lib.hid (hset 99)
            have hj2 : (j : Int) < (hs9.nw : Int) := by omega
            have hj0 : (0 : Int) ≤ (j : Int) := by omega
            have hjt : ((j : Nat) : Int).toNat = j := by omega
            clear hset
            go_wp2_with fail
            go_roundw
            case rel => exact ⟨j + 1, by omega, by go_num, HS.out⟩
            case measure => simp [intOf]; omega
          · obtain rfl : j = hs9.nw := by omega
            obtain ⟨k0, k1, k2, k3, k4, k5, k6, k7, k8, k9, k10, k11, k12, k13, k14⟩ := cbox_cells (m := m) (vd := vd) (vp := vp) (vl := vl) (vi := vi) (lp := lp) (s := s) (vI := .slice aI s.nw cI) (e := e) HR.out.i.c
            have I7 := Lib.hid HR.out.i
            have V7 := Lib.hid HR.out.v
            clear hlt hj
            go_wp2_with fail
            refine (HA.out _ I7.out.low).mono ?_
            rintro x u8 ⟨vs, ve, rfl, h1, h2, hb8⟩
            obtain ⟨vX, rfl, h1⟩ := h1
            obtain ⟨aX, cX, rfl, _⟩ := id (own_sl h1)
            have S8 := Lib.hid (own_below h1 (balloc u8 (.cells #[.slice aX hs9.nw cX, .int .i64 hs9.sent, .int .i64 hs9.dice] 37)))
            have E8 := Lib.hid (h2.below (balloc u8 (.cells #[.slice aX hs9.nw cX, .int .i64 hs9.sent, .int .i64 hs9.dice] 37)))
            have I8 := Lib.hid ((I7.out.below hb8).below (balloc u8 (.cells #[.slice aX hs9.nw cX, .int .i64 hs9.sent, .int .i64 hs9.dice] 37)))
            have V8 := Lib.hid ((V7.out.below hb8).below (balloc u8 (.cells #[.slice aX hs9.nw cX, .int .i64 hs9.sent, .int .i64 hs9.dice] 37)))
            have P8 := Lib.hid (heap_alloc_new u8 (.cells #[.slice aX hs9.nw cX, .int .i64 hs9.sent, .int .i64 hs9.dice] 37))
            unfold sval
            clear hb8 h1 h2 I7 V7 HR y0 y1 y2 k0 k1 k2 k3 k4 k5 k6 k7 k8 k9 k10 k11 k12 k13 k14
            go_upto_region 11 with fail
            generalize u8.alloc (.cells #[.slice aX hs9.nw cX, .int .i64 hs9.sent, .int .i64 hs9.dice] 37) = u9 at *
            generalize u8.heap.size = xb at *
            obtain ⟨k0, k1, k2, k3, k4, k5, k6, k7, k8, k9, k10, k11, k12, k13, k14⟩ := cbox_cells (m := m) (vd := vd) (vp := vp) (vl := vl) (vi := vi) (lp := lp) (s := s) (vI := .slice aI s.nw cI) (e := e) I8.out.c
            go_wp2_with fail
            refine (HA.out _ I8.out.low).mono ?_
            rintro x u10 ⟨vs, ve2, rfl, h1, h2, hb10⟩
            obtain ⟨vY, rfl, h1⟩ := h1
            obtain ⟨aY, cY, rfl, _⟩ := id (own_sl h1)
            have KB := Lib.hid (bthen hb10 (balloc u10 (.cells #[.slice aY hs9.nw cY, .int .i64 hs9.sent, .int .i64 hs9.dice] 37)))
            have T8 := Lib.hid (own_below h1 (balloc u10 (.cells #[.slice aY hs9.nw cY, .int .i64 hs9.sent, .int .i64 hs9.dice] 37)))
            have Q8 := Lib.hid (heap_alloc_new u10 (.cells #[.slice aY hs9.nw cY, .int .i64 hs9.sent, .int .i64 hs9.dice] 37))
            unfold sval
            clear hb10 h1 h2 k0 k1 k2 k3 k4 k5 k6 k7 k8 k9 k10 k11 k12 k13 k14
            go_upto_region 12 with fail
            generalize u10.alloc (.cells #[.slice aY hs9.nw cY, .int .i64 hs9.sent, .int .i64 hs9.dice] 37) = u11 at *
            generalize u10.heap.size = zb at *
            have I9 := Lib.hid (I8.out.below KB.out)
            have V9 := Lib.hid (V8.out.below KB.out).sl
            have E9 := Lib.hid (E8.out.below KB.out).sl
            have S9 := Lib.hid (own_sl (own_below S8.out KB.out))
            have T9 := Lib.hid (own_sl T8.out)
            have P9 := Lib.hid ((KB.out.block _ (lt_of_block P8.out)).trans P8.out)
            have N9 := Lib.hid (own_sl I9.out.r)
            have W9 := Lib.hid (HWD.out.below I9.out.low)
            clear I8 V8 E8 S8 T8 P8 KB
            have g1 : (he9 == he9) = true := by simp
            have g2 : (hf9 == hf9) = true := by simp
            go_wp2_with (first
              | (go_at_call 10; refine (HAW.out _).mono ?_; rintro x w9 ⟨rfl, hb9⟩; have B8 := Lib.hid hb9; clear hb9; obtain ⟨p0, p1, p2⟩ := three_cells8 ((B8.out.block _ (lt_of_block P9.out)).trans P9.out); obtain ⟨q0, q1, q2⟩ := three_cells8 ((B8.out.block _ (lt_of_block Q8.out)).trans Q8.out))
              | (go_at_call 15; refine (HSE.out hl9 _ _ _ (V9.out.below B8.out) (E9.out.below B8.out)).mono ?_; rintro x w11 ⟨rfl, hb11⟩; have B8 := Lib.hid (bthen B8.out hb11); clear hb11 p0 p1 p2 q0 q1 q2; obtain ⟨p0, p1, p2⟩ := three_cells8 ((B8.out.block _ (lt_of_block P9.out)).trans P9.out); obtain ⟨q0, q1, q2⟩ := three_cells8 ((B8.out.block _ (lt_of_block Q8.out)).trans Q8.out))
              | (go_at_call 17; refine (HSM.out hs9 _ _ _ (S9.out.below B8.out) (T9.out.below B8.out)).mono ?_; rintro x w12 ⟨rfl, hb12⟩; have B8 := Lib.hid (bthen B8.out hb12); clear hb12; obtain ⟨k0, k1, k2, k3, k4, k5, k6, k7, k8, k9, k10, k11, k12, k13, k14⟩ := cbox_cells (m := m) (vd := vd) (vp := vp) (vl := vl) (vi := vi) (lp := lp) (s := s) (vI := .slice aI s.nw cI) (e := e) ((B8.out.block _ (lt_of_block I9.out.c)).trans I9.out.c))
              | (go_at_call 25; refine (HIN.out _ _ _ (W9.out.below B8.out) (N9.out.below B8.out)).mono ?_; rintro x w13 ⟨rfl, hb13⟩; have B8 := Lib.hid (bthen B8.out hb13); clear hb13))
            go_ret
            exact ⟨rfl, bthen I9.out.low B8.out⟩

end Go.Proofs.Ytplhkplfbcmbdaa
