/- The contracts of the program's First, mayHandle, inputOf. -/
import Derived.Test.YthkfaeplmmlnlaaGreatRZ14
import Derived.Test.YthkfaeplmmlnlaaGreatRZ16
namespace Go.Proofs.YthkfaeplmmlnlaaGreat
open Go.RowKit Go.Deep
set_option linter.unusedVariables false
set_option maxRecDepth 100000

theorem chk_more8 {m : Mdl} (h : chkN m = 0) : (∀ i, i < m.nl → m.wl i ≤ 8) ∧ m.ni ≤ 16 ∧ (∀ i, i < m.ni → isNum (m.ev i).t) ∧ (∀ i, i < m.np → (1 ≤ m.pl i ∧ m.pl i ≤ 48) ∧ allN (fun k => insB (m.pr i k) (m.pl i)) (m.pl i) = true) := by
  unfold chkN at h
  have hm : mayB m = true := by
    cases hq : mayB m with
    | true => rfl
    | false => rw [hq] at h; exact absurd h (by decide)
  unfold mayB at hm
  simp only [Bool.and_eq_true] at hm
  obtain ⟨hc, _, _, hp, hl, he⟩ := hm
  unfold countsB from1 at hc
  simp only [Bool.and_eq_true, decide_eq_true_eq] at hc
  refine ⟨fun i hi => ?_, hc.2.2.2, fun i hi => ?_, fun i hi => ?_⟩
  · have := (allN_iff _ _).1 hl i hi
    unfold lpB at this
    simp only [Bool.and_eq_true, decide_eq_true_eq] at this
    exact this.2
  · have := (allN_iff _ _).1 he i hi
    unfold evB numF at this
    simp only [Bool.and_eq_true, decide_eq_true_eq] at this
    exact this.1
  · have := (allN_iff _ _).1 hp i hi
    unfold progB from1 at this
    simp only [Bool.and_eq_true, decide_eq_true_eq] at this
    exact this
theorem sta0_at (base : Nat) (u : World) : StaAt base sta0 (.agg #[.slice none 0 0, .int .i64 0, .int .i64 0]) u :=
  ⟨_, rfl, by rw [show sta0.nw = 0 from rfl, rowCells_zero]; exact World.ownsRow_nil _ _ _ _⟩

set_option maxHeartbeats 3200000 in
theorem firstAny : FirstAny := by
  intro m vd vp vl vi lp w hm
  have HM := Lib.hid hm
  obtain ⟨ad, cd, rfl, _, _, _⟩ := id hm.d
  obtain ⟨ai, ci, rfl, li1, li2, ki⟩ := id hm.i
  obtain ⟨_, ⟨ap, cp, rfl, _, _, _⟩, _⟩ := id hm.p
  obtain ⟨gl, ⟨al, cl, rfl, ml1, ml2, kl⟩, hl2⟩ := id hm.l
  unfold mval
  have KL := Lib.hid kl
  have HL2 := Lib.hid hl2
  have X1 : Hid (((w.alloc (.cells #[.int .i64 m.seed, .float .f64 m.fin, .slice ad m.nd cd, .slice ap m.np cp, .slice al m.nl cl, .slice ai m.ni ci] 28)).alloc (.cells #[.slice none 0 0, .int .i64 0, .int .i64 0] 55)).heap[w.heap.size]? = some (.cells #[.int .i64 m.seed, .float .f64 m.fin, .slice ad m.nd cd, .slice ap m.np cp, .slice al m.nl cl, .slice ai m.ni ci] 28)) := (Below.heap_alloc _ _ _ (by rw [World.size_alloc]; omega)).trans (heap_alloc_new w _)
  have Z1 : Hid (((w.alloc (.cells #[.int .i64 m.seed, .float .f64 m.fin, .slice ad m.nd cd, .slice ap m.np cp, .slice al m.nl cl, .slice ai m.ni ci] 28)).alloc (.cells #[.slice none 0 0, .int .i64 0, .int .i64 0] 55)).heap[w.heap.size + 1]? = some (.cells #[.slice none 0 0, .int .i64 0, .int .i64 0] 55)) := by
    have := heap_alloc_new (w.alloc (.cells #[.int .i64 m.seed, .float .f64 m.fin, .slice ad m.nd cd, .slice ap m.np cp, .slice al m.nl cl, .slice ai m.ni ci] 28)) (.cells #[.slice none 0 0, .int .i64 0, .int .i64 0] 55)
    rwa [World.size_alloc] at this
  have B1 := Lib.hid (bthen (balloc w (.cells #[.int .i64 m.seed, .float .f64 m.fin, .slice ad m.nd cd, .slice ap m.np cp, .slice al m.nl cl, .slice ai m.ni ci] 28)) (balloc _ (.cells #[.slice none 0 0, .int .i64 0, .int .i64 0] 55)))
  have HK : Hid (∀ u, Below w.heap.size w u → Calls Tryz.prog 20 #[(.agg #[.int .i64 m.seed, .float .f64 m.fin, .slice ad m.nd cd, .slice ap m.np cp, .slice al m.nl cl, .slice ai m.ni ci])] u fun e w' => e = .returned (.int .i64 (chkN m)) ∧ Below u.heap.size u w') := fun u k => check_any m _ _ _ _ u (HM.out.below k)
  have HP : Hid (∀ u, Calls Tryz.prog 56 #[(.agg #[.int .i64 m.seed, .float .f64 m.fin, .slice ad m.nd cd, .slice ap m.np cp, .slice al m.nl cl, .slice ai m.ni ci]), .int .i64 lp] u fun e w' => e = .returned (.bool (proB m.nl lp)) ∧ Below u.heap.size u w') := fun u => isProcess8_any m _ _ _ al cl lp u
  obtain ⟨m0, m1, m2, m3, m4, m5⟩ := six_cells7 X1.out
  have hc : chkN m = 0 ∨ chkN m = 15 := by unfold chkN; split <;> simp
  clear hm hl2 kl ki
  generalize hu : ((w.alloc (.cells #[.int .i64 m.seed, .float .f64 m.fin, .slice ad m.nd cd, .slice ap m.np cp, .slice al m.nl cl, .slice ai m.ni ci] 28)).alloc (.cells #[.slice none 0 0, .int .i64 0, .int .i64 0] 55)) = u at *
  go_enter Tryz.func23, Tryz.ntmps23
  go_upto_region 1 with fail
  try rw [hu]
  clear hu
  by_cases h0 : chkN m = 0
  · have HWL := Lib.hid (chk_more8 h0).1
    have EF0 : Hid (firstA m lp = if lp < 0 ∨ (m.nl : Int) ≤ lp then (sta0, 2) else (firstS m lp.toNat, 0)) := if_neg (by simp [h0])
    rw [h0] at HK
    clear h0 hc
    by_cases hp : lp < 0 ∨ (m.nl : Int) ≤ lp
    · have EF : Hid (firstA m lp = (sta0, 2)) := EF0.out.trans (if_pos hp)
      rw [show proB m.nl lp = false from by unfold proB; rw [Bool.and_eq_false_iff, decide_eq_false_iff_not, decide_eq_false_iff_not]; omega] at HP
      clear hp EF0
      go_wp2_with (first
        | (go_at_call 20; refine (HK.out _ B1.out).mono ?_; rintro e u2 ⟨rfl, hb2⟩; have B2 := Lib.hid (bthen B1.out hb2); have X2 := Lib.hid ((hb2.block _ (lt_of_block X1.out)).trans X1.out); have Z2 := Lib.hid ((hb2.block _ (lt_of_block Z1.out)).trans Z1.out); clear hb2 m0 m1 m2 m3 m4 m5; obtain ⟨m0, m1, m2, m3, m4, m5⟩ := six_cells7 X2.out)
        | (go_at_call 56; refine (HP.out _).mono ?_; rintro e u3 ⟨rfl, hb3⟩; have B3 := Lib.hid (bthen B2.out hb3); have Z3 := Lib.hid ((hb3.block _ (lt_of_block Z2.out)).trans Z2.out); clear hb3 m0 m1 m2 m3 m4 m5; obtain ⟨z0, z1, z2⟩ := three_cells8 Z3.out; have zf : ∀ q, u3.frozen? ⟨w.heap.size + 1, q, none⟩ = false := fun q => Lib.frozen_of_heap Z3.out q))
      change bodyPost _ _ _ _ _ (World.setCells u3 (w.heap.size + 1) 0 [.slice none 0 0, .int .i64 0, .int .i64 0])
      have h5 := put_three8 Z3.out (.slice none 0 0) (.int .i64 0) (.int .i64 0)
      have LZ := Lib.hid (B3.out.trans (put_low7 (show w.heap.size ≤ w.heap.size + 1 by omega) [.slice none 0 0, .int .i64 0, .int .i64 0] 0 u3))
      have SA := Lib.hid (sta0_at w.heap.size (World.setCells u3 (w.heap.size + 1) 0 [.slice none 0 0, .int .i64 0, .int .i64 0]))
      obtain ⟨t0, t1, t2⟩ := three_cells8 h5
      clear h5
      generalize World.setCells u3 (w.heap.size + 1) 0 [.slice none 0 0, .int .i64 0, .int .i64 0] = w9 at *
      exact bodyPost_ret (v := .tuple #[.agg #[.slice none 0 0, .int .i64 0, .int .i64 0], .int .i64 2]) (by simp [results, Tryz.results23, go_sem, t0, t1, t2]) rfl ⟨_, by rw [EF.out], by rw [EF.out]; exact SA.out, LZ.out⟩
    · have EF : Hid (firstA m lp = (firstS m lp.toNat, 0)) := EF0.out.trans (if_neg hp)
      rw [show proB m.nl lp = true from by unfold proB; rw [Bool.and_eq_true, decide_eq_true_eq, decide_eq_true_eq]; omega] at HP
      obtain ⟨L, rfl⟩ : ∃ L : Nat, lp = (L : Int) := ⟨lp.toNat, by omega⟩
      have hL : L < m.nl := by omega
      rw [show ((L : Nat) : Int).toNat = L from by omega] at EF
      obtain ⟨bl, ol, rfl, hAL⟩ := KL.out (by omega)
      have HAL := Lib.hid hAL
      have WL := Lib.hid (HL2.out L hL)
      obtain ⟨aw, cw, ew, _, _, _⟩ := id (HL2.out L hL)
      have EW := Lib.hid ew
      have HN := Lib.hid hL
      have h8 := HWL.out L hL
      have HCP : Hid (∀ u2, Below w.heap.size w u2 → Calls Tryz.prog 34 #[.agg #[.slice aw (m.wl L) cw, .int .i64 0, .int .i64 0]] u2 fun e w' => ∃ v, e = .returned v ∧ StaAt u2.heap.size (firstS m L) v w' ∧ Below u2.heap.size u2 w') := fun u2 k => copyAny8 (firstS m L) _ u2 (show m.wl L ≤ 100 by omega) (by have := WL.out.below k; rw [EW.out] at this; exact this)
      have CL : Hid (∀ u2, Below w.heap.size w u2 → u2.cell? ⟨bl, ol + L * 2 + 1, none⟩ = some (.slice aw (m.wl L) cw)) := fun u2 k => by
        have := ((HAL.out.below k).two L HN.out).2
        simp only [gL] at this
        rw [EW.out] at this
        exact this
      have hL2 : (L : Int) < (m.nl : Int) := by omega
      have hL0 : (0 : Int) ≤ (L : Int) := by omega
      have hLt : ((L : Nat) : Int).toNat = L := by omega
      clear hp EF0 hAL ew KL HWL hL
      go_wp2_with (first
        | (go_at_call 20; refine (HK.out _ B1.out).mono ?_; rintro e u2 ⟨rfl, hb2⟩; have B2 := Lib.hid (bthen B1.out hb2); have X2 := Lib.hid ((hb2.block _ (lt_of_block X1.out)).trans X1.out); have Z2 := Lib.hid ((hb2.block _ (lt_of_block Z1.out)).trans Z1.out); clear hb2 m0 m1 m2 m3 m4 m5; obtain ⟨m0, m1, m2, m3, m4, m5⟩ := six_cells7 X2.out)
        | (go_at_call 56; refine (HP.out _).mono ?_; rintro e u3 ⟨rfl, hb3⟩; have B3 := Lib.hid (bthen B2.out hb3); have Z3 := Lib.hid ((hb3.block _ (lt_of_block Z2.out)).trans Z2.out); have X3 := Lib.hid ((hb3.block _ (lt_of_block X2.out)).trans X2.out); clear hb3 m0 m1 m2 m3 m4 m5; obtain ⟨m0, m1, m2, m3, m4, m5⟩ := six_cells7 X3.out; have cl0 := CL.out _ B3.out))
      refine (HCP.out _ B3.out).mono ?_
      rintro e u4 ⟨v, rfl, hv, hb4⟩
      obtain ⟨vW, rfl, hw4⟩ := hv
      have B4 := Lib.hid (bthen B3.out hb4)
      have Z4 := Lib.hid ((hb4.block _ (lt_of_block Z3.out)).trans Z3.out)
      have W4 := Lib.hid (own_lower hw4 B3.out.size)
      obtain ⟨a1, c1, rfl, _, _, _⟩ := id (own_sl hw4)
      clear hb4 hw4 m0 m1 m2 m3 m4 m5 cl0
      unfold sval
      have zf : ∀ q, u4.frozen? ⟨w.heap.size + 1, q, none⟩ = false := fun q => Lib.frozen_of_heap Z4.out q
      obtain ⟨z0, z1, z2⟩ := three_cells8 Z4.out
      go_wp2_with fail
      change bodyPost _ _ _ _ _ (World.setCells u4 (w.heap.size + 1) 0 [.slice a1 (firstS m L).nw c1, .int .i64 (firstS m L).sent, .int .i64 (firstS m L).dice])
      have h5 := put_three8 Z4.out (.slice a1 (firstS m L).nw c1) (.int .i64 (firstS m L).sent) (.int .i64 (firstS m L).dice)
      have LZ := Lib.hid (B4.out.trans (put_low7 (show w.heap.size ≤ w.heap.size + 1 by omega) [.slice a1 (firstS m L).nw c1, .int .i64 (firstS m L).sent, .int .i64 (firstS m L).dice] 0 u4))
      have SA : Hid (StaAt w.heap.size (firstS m L) (.agg #[.slice a1 (firstS m L).nw c1, .int .i64 (firstS m L).sent, .int .i64 (firstS m L).dice]) (World.setCells u4 (w.heap.size + 1) 0 [.slice a1 (firstS m L).nw c1, .int .i64 (firstS m L).sent, .int .i64 (firstS m L).dice])) := ⟨_, rfl, own_setCells (own_not W4.out Z4.out (by decide)) _ 0 _ W4.out⟩
      obtain ⟨t0, t1, t2⟩ := three_cells8 h5
      clear h5
      generalize World.setCells u4 (w.heap.size + 1) 0 [.slice a1 (firstS m L).nw c1, .int .i64 (firstS m L).sent, .int .i64 (firstS m L).dice] = w9 at *
      exact bodyPost_ret (v := .tuple #[.agg #[.slice a1 (firstS m L).nw c1, .int .i64 (firstS m L).sent, .int .i64 (firstS m L).dice], .int .i64 0]) (by simp [results, Tryz.results23, go_sem, t0, t1, t2]) rfl ⟨_, by rw [EF.out], by rw [EF.out]; exact SA.out, LZ.out⟩
  · have EF : Hid (firstA m lp = (sta0, 15)) := if_pos h0
    have h15 : chkN m = 15 := hc.resolve_left h0
    rw [h15] at HK
    clear h0 h15 hc
    go_wp2_with (go_at_call 20; refine (HK.out _ B1.out).mono ?_; rintro e u2 ⟨rfl, hb2⟩; have B2 := Lib.hid (bthen B1.out hb2); have Z2 := Lib.hid ((hb2.block _ (lt_of_block Z1.out)).trans Z1.out); clear hb2 m0 m1 m2 m3 m4 m5; obtain ⟨z0, z1, z2⟩ := three_cells8 Z2.out; have zf : ∀ q, u2.frozen? ⟨w.heap.size + 1, q, none⟩ = false := fun q => Lib.frozen_of_heap Z2.out q)
    change bodyPost _ _ _ _ _ (World.setCells u2 (w.heap.size + 1) 0 [.slice none 0 0, .int .i64 0, .int .i64 0])
    have h5 := put_three8 Z2.out (.slice none 0 0) (.int .i64 0) (.int .i64 0)
    have LZ := Lib.hid (B2.out.trans (put_low7 (show w.heap.size ≤ w.heap.size + 1 by omega) [.slice none 0 0, .int .i64 0, .int .i64 0] 0 u2))
    have SA := Lib.hid (sta0_at w.heap.size (World.setCells u2 (w.heap.size + 1) 0 [.slice none 0 0, .int .i64 0, .int .i64 0]))
    obtain ⟨t0, t1, t2⟩ := three_cells8 h5
    clear h5
    generalize World.setCells u2 (w.heap.size + 1) 0 [.slice none 0 0, .int .i64 0, .int .i64 0] = w9 at *
    exact bodyPost_ret (v := .tuple #[.agg #[.slice none 0 0, .int .i64 0, .int .i64 0], .int .i64 15]) (by simp [results, Tryz.results23, go_sem, t0, t1, t2]) rfl ⟨_, by rw [EF.out], by rw [EF.out]; exact SA.out, LZ.out⟩


def badM (m : Mdl) (lp : Int) (s : Sta) (e : Evn) : Bool := !proB m.nl lp || (!numF e.t || (!cntB s.sent || !cntB s.dice))
def mayH (m : Mdl) (lp : Int) (s : Sta) (e : Evn) : Int := if chkN m ≠ 0 then 15 else if badM m lp s e then 2 else 0
set_option maxHeartbeats 3200000 in
theorem mayHandle8_any (m : Mdl) (vd vp vl vi : Value) (lp : Int) (s : Sta) (vI : Value) (e : Evn) (w : World) (hm : MdlAt m vd vp vl vi w) (hs : Sl 1 (gW s.w) s.nw vI w) :
    Calls Tryz.prog 61 #[mval m vd vp vl vi, .int .i64 lp, sval s vI, eval8 e] w fun x w' => x = .returned (.int .i64 (mayH m lp s e)) ∧ Below w.heap.size w w' := by
  have HM := Lib.hid hm
  obtain ⟨ad, cd, rfl, _, _, _⟩ := id hm.d
  obtain ⟨ai, ci, rfl, li1, li2, ki⟩ := id hm.i
  obtain ⟨_, ⟨ap, cp, rfl, _, _, _⟩, _⟩ := id hm.p
  obtain ⟨gl, ⟨al, cl, rfl, ml1, ml2, kl⟩, hl2⟩ := id hm.l
  obtain ⟨aI, cI, rfl, _, _, _⟩ := id hs
  unfold mval sval eval8
  have q0 : (w.alloc (.cells #[.int .i64 m.seed, .float .f64 m.fin, .slice ad m.nd cd, .slice ap m.np cp, .slice al m.nl cl, .slice ai m.ni ci] 28)).heap.size = w.heap.size + 1 := World.size_alloc _ _
  have q1 : ((w.alloc (.cells #[.int .i64 m.seed, .float .f64 m.fin, .slice ad m.nd cd, .slice ap m.np cp, .slice al m.nl cl, .slice ai m.ni ci] 28)).alloc (.cells #[.slice aI s.nw cI, .int .i64 s.sent, .int .i64 s.dice] 55)).heap.size = w.heap.size + 2 := by rw [World.size_alloc, q0]
  have e1 := heap_alloc_new w (.cells #[.int .i64 m.seed, .float .f64 m.fin, .slice ad m.nd cd, .slice ap m.np cp, .slice al m.nl cl, .slice ai m.ni ci] 28)
  have e2 := heap_alloc_new (w.alloc (.cells #[.int .i64 m.seed, .float .f64 m.fin, .slice ad m.nd cd, .slice ap m.np cp, .slice al m.nl cl, .slice ai m.ni ci] 28)) (.cells #[.slice aI s.nw cI, .int .i64 s.sent, .int .i64 s.dice] 55)
  have e3 := heap_alloc_new ((w.alloc (.cells #[.int .i64 m.seed, .float .f64 m.fin, .slice ad m.nd cd, .slice ap m.np cp, .slice al m.nl cl, .slice ai m.ni ci] 28)).alloc (.cells #[.slice aI s.nw cI, .int .i64 s.sent, .int .i64 s.dice] 55)) (.cells #[.float .f64 e.t, .int .i64 e.src, .int .i64 e.n, .int .i64 e.dst, .int .i64 e.pay] 41)
  rw [q0] at e2; rw [q1] at e3
  have XM : Hid ((((w.alloc (.cells #[.int .i64 m.seed, .float .f64 m.fin, .slice ad m.nd cd, .slice ap m.np cp, .slice al m.nl cl, .slice ai m.ni ci] 28)).alloc (.cells #[.slice aI s.nw cI, .int .i64 s.sent, .int .i64 s.dice] 55)).alloc (.cells #[.float .f64 e.t, .int .i64 e.src, .int .i64 e.n, .int .i64 e.dst, .int .i64 e.pay] 41)).heap[w.heap.size]? = some (.cells #[.int .i64 m.seed, .float .f64 m.fin, .slice ad m.nd cd, .slice ap m.np cp, .slice al m.nl cl, .slice ai m.ni ci] 28)) := (Below.heap_alloc _ _ _ (by omega)).trans ((Below.heap_alloc _ _ _ (by omega)).trans e1)
  have XS : Hid ((((w.alloc (.cells #[.int .i64 m.seed, .float .f64 m.fin, .slice ad m.nd cd, .slice ap m.np cp, .slice al m.nl cl, .slice ai m.ni ci] 28)).alloc (.cells #[.slice aI s.nw cI, .int .i64 s.sent, .int .i64 s.dice] 55)).alloc (.cells #[.float .f64 e.t, .int .i64 e.src, .int .i64 e.n, .int .i64 e.dst, .int .i64 e.pay] 41)).heap[w.heap.size + 1]? = some (.cells #[.slice aI s.nw cI, .int .i64 s.sent, .int .i64 s.dice] 55)) := (Below.heap_alloc _ _ _ (by omega)).trans e2
  have XE : Hid ((((w.alloc (.cells #[.int .i64 m.seed, .float .f64 m.fin, .slice ad m.nd cd, .slice ap m.np cp, .slice al m.nl cl, .slice ai m.ni ci] 28)).alloc (.cells #[.slice aI s.nw cI, .int .i64 s.sent, .int .i64 s.dice] 55)).alloc (.cells #[.float .f64 e.t, .int .i64 e.src, .int .i64 e.n, .int .i64 e.dst, .int .i64 e.pay] 41)).heap[w.heap.size + 2]? = some (.cells #[.float .f64 e.t, .int .i64 e.src, .int .i64 e.n, .int .i64 e.dst, .int .i64 e.pay] 41)) := e3
  have B1 := Lib.hid (bthen (bthen (balloc w (.cells #[.int .i64 m.seed, .float .f64 m.fin, .slice ad m.nd cd, .slice ap m.np cp, .slice al m.nl cl, .slice ai m.ni ci] 28)) (balloc _ (.cells #[.slice aI s.nw cI, .int .i64 s.sent, .int .i64 s.dice] 55))) (balloc _ (.cells #[.float .f64 e.t, .int .i64 e.src, .int .i64 e.n, .int .i64 e.dst, .int .i64 e.pay] 41)))
  clear q0 q1 e1 e2 e3
  have HK : Hid (∀ u, Below w.heap.size w u → Calls Tryz.prog 20 #[(.agg #[.int .i64 m.seed, .float .f64 m.fin, .slice ad m.nd cd, .slice ap m.np cp, .slice al m.nl cl, .slice ai m.ni ci])] u fun e w' => e = .returned (.int .i64 (chkN m)) ∧ Below u.heap.size u w') := fun u k => check_any m _ _ _ _ u (HM.out.below k)
  have HP : Hid (∀ u, Calls Tryz.prog 56 #[(.agg #[.int .i64 m.seed, .float .f64 m.fin, .slice ad m.nd cd, .slice ap m.np cp, .slice al m.nl cl, .slice ai m.ni ci]), .int .i64 lp] u fun e w' => e = .returned (.bool (proB m.nl lp)) ∧ Below u.heap.size u w') := fun u => isProcess8_any m _ _ _ al cl lp u
  have HN := Lib.hid (isNaN_any e.t)
  have HC1 := Lib.hid (isCount8_any s.sent)
  have HC2 := Lib.hid (isCount8_any s.dice)
  obtain ⟨m0, m1, m2, m3, m4, m5⟩ := six_cells7 XM.out
  obtain ⟨s0, s1, s2⟩ := three_cells8 XS.out
  obtain ⟨e0, e1, e2, e3, e4⟩ := five_cells8 XE.out
  have hc : chkN m = 0 ∨ chkN m = 15 := by unfold chkN; split <;> simp
  have HE : Hid (mayH m lp s e = if chkN m ≠ 0 then 15 else if badM m lp s e then 2 else 0) := rfl
  have HB : Hid (badM m lp s e = (!proB m.nl lp || (!numF e.t || (!cntB s.sent || !cntB s.dice)))) := rfl
  generalize mayH m lp s e = res at *
  generalize badM m lp s e = bd at *
  generalize chkN m = ck at *
  generalize proB m.nl lp = p1 at *
  generalize numF e.t = p2 at *
  generalize cntB s.sent = p3 at *
  generalize cntB s.dice = p4 at *
  clear hm hs hl2 kl ki
  generalize hu : ((w.alloc (.cells #[.int .i64 m.seed, .float .f64 m.fin, .slice ad m.nd cd, .slice ap m.np cp, .slice al m.nl cl, .slice ai m.ni ci] 28)).alloc (.cells #[.slice aI s.nw cI, .int .i64 s.sent, .int .i64 s.dice] 55)).alloc (.cells #[.float .f64 e.t, .int .i64 e.src, .int .i64 e.n, .int .i64 e.dst, .int .i64 e.pay] 41) = u at *
  go_enter Tryz.func61, Tryz.ntmps61
  go_upto_region 1 with fail
  try rw [hu]
  clear hu
  have BB := B1
  rcases hc with rfl | rfl
  · cases p1 with
    | false =>
      obtain rfl : res = 2 := by rw [HE.out, HB.out]; simp
      clear HE HB
      go_wp2_with (first
        | (go_at_call 20; refine (HK.out _ B1.out).mono ?_; rintro x u2 ⟨rfl, hb2⟩; have BB := Lib.hid (bthen BB.out hb2); have XM := Lib.hid ((hb2.block _ (lt_of_block XM.out)).trans XM.out); have XS := Lib.hid ((hb2.block _ (lt_of_block XS.out)).trans XS.out); have XE := Lib.hid ((hb2.block _ (lt_of_block XE.out)).trans XE.out); clear hb2 m0 m1 m2 m3 m4 m5 s0 s1 s2 e0 e1 e2 e3 e4; obtain ⟨m0, m1, m2, m3, m4, m5⟩ := six_cells7 XM.out; obtain ⟨s0, s1, s2⟩ := three_cells8 XS.out; obtain ⟨e0, e1, e2, e3, e4⟩ := five_cells8 XE.out)
        | (go_at_call 56; refine (HP.out _).mono ?_; rintro x u3 ⟨rfl, hb2⟩; have BB := Lib.hid (bthen BB.out hb2); have XM := Lib.hid ((hb2.block _ (lt_of_block XM.out)).trans XM.out); have XS := Lib.hid ((hb2.block _ (lt_of_block XS.out)).trans XS.out); have XE := Lib.hid ((hb2.block _ (lt_of_block XE.out)).trans XE.out); clear hb2 m0 m1 m2 m3 m4 m5 s0 s1 s2 e0 e1 e2 e3 e4; obtain ⟨m0, m1, m2, m3, m4, m5⟩ := six_cells7 XM.out; obtain ⟨s0, s1, s2⟩ := three_cells8 XS.out; obtain ⟨e0, e1, e2, e3, e4⟩ := five_cells8 XE.out)
        | (go_at_call 39; refine (HN.out _).mono ?_; rintro x u4 ⟨rfl, hw4⟩; subst u4)
        | (go_at_call 83; with_reducible refine (HC1.out _).mono ?_; rintro x u5 ⟨rfl, hw5⟩; subst u5)
        | (go_at_call 83; with_reducible refine (HC2.out _).mono ?_; rintro x u5 ⟨rfl, hw5⟩; subst u5))
      go_ret
      exact ⟨rfl, BB.out⟩
    | true =>
      cases p2 with
      | false =>
        obtain rfl : res = 2 := by rw [HE.out, HB.out]; simp
        clear HE HB
        go_wp2_with (first
          | (go_at_call 20; refine (HK.out _ B1.out).mono ?_; rintro x u2 ⟨rfl, hb2⟩; have BB := Lib.hid (bthen BB.out hb2); have XM := Lib.hid ((hb2.block _ (lt_of_block XM.out)).trans XM.out); have XS := Lib.hid ((hb2.block _ (lt_of_block XS.out)).trans XS.out); have XE := Lib.hid ((hb2.block _ (lt_of_block XE.out)).trans XE.out); clear hb2 m0 m1 m2 m3 m4 m5 s0 s1 s2 e0 e1 e2 e3 e4; obtain ⟨m0, m1, m2, m3, m4, m5⟩ := six_cells7 XM.out; obtain ⟨s0, s1, s2⟩ := three_cells8 XS.out; obtain ⟨e0, e1, e2, e3, e4⟩ := five_cells8 XE.out)
          | (go_at_call 56; refine (HP.out _).mono ?_; rintro x u3 ⟨rfl, hb2⟩; have BB := Lib.hid (bthen BB.out hb2); have XM := Lib.hid ((hb2.block _ (lt_of_block XM.out)).trans XM.out); have XS := Lib.hid ((hb2.block _ (lt_of_block XS.out)).trans XS.out); have XE := Lib.hid ((hb2.block _ (lt_of_block XE.out)).trans XE.out); clear hb2 m0 m1 m2 m3 m4 m5 s0 s1 s2 e0 e1 e2 e3 e4; obtain ⟨m0, m1, m2, m3, m4, m5⟩ := six_cells7 XM.out; obtain ⟨s0, s1, s2⟩ := three_cells8 XS.out; obtain ⟨e0, e1, e2, e3, e4⟩ := five_cells8 XE.out)
          | (go_at_call 39; refine (HN.out _).mono ?_; rintro x u4 ⟨rfl, hw4⟩; subst u4)
          | (go_at_call 83; with_reducible refine (HC1.out _).mono ?_; rintro x u5 ⟨rfl, hw5⟩; subst u5)
          | (go_at_call 83; with_reducible refine (HC2.out _).mono ?_; rintro x u5 ⟨rfl, hw5⟩; subst u5))
        go_ret
        exact ⟨rfl, BB.out⟩
      | true =>
        cases p3 with
        | false =>
          obtain rfl : res = 2 := by rw [HE.out, HB.out]; simp
          clear HE HB
          go_wp2_with (first
            | (go_at_call 20; refine (HK.out _ B1.out).mono ?_; rintro x u2 ⟨rfl, hb2⟩; have BB := Lib.hid (bthen BB.out hb2); have XM := Lib.hid ((hb2.block _ (lt_of_block XM.out)).trans XM.out); have XS := Lib.hid ((hb2.block _ (lt_of_block XS.out)).trans XS.out); have XE := Lib.hid ((hb2.block _ (lt_of_block XE.out)).trans XE.out); clear hb2 m0 m1 m2 m3 m4 m5 s0 s1 s2 e0 e1 e2 e3 e4; obtain ⟨m0, m1, m2, m3, m4, m5⟩ := six_cells7 XM.out; obtain ⟨s0, s1, s2⟩ := three_cells8 XS.out; obtain ⟨e0, e1, e2, e3, e4⟩ := five_cells8 XE.out)
            | (go_at_call 56; refine (HP.out _).mono ?_; rintro x u3 ⟨rfl, hb2⟩; have BB := Lib.hid (bthen BB.out hb2); have XM := Lib.hid ((hb2.block _ (lt_of_block XM.out)).trans XM.out); have XS := Lib.hid ((hb2.block _ (lt_of_block XS.out)).trans XS.out); have XE := Lib.hid ((hb2.block _ (lt_of_block XE.out)).trans XE.out); clear hb2 m0 m1 m2 m3 m4 m5 s0 s1 s2 e0 e1 e2 e3 e4; obtain ⟨m0, m1, m2, m3, m4, m5⟩ := six_cells7 XM.out; obtain ⟨s0, s1, s2⟩ := three_cells8 XS.out; obtain ⟨e0, e1, e2, e3, e4⟩ := five_cells8 XE.out)
            | (go_at_call 39; refine (HN.out _).mono ?_; rintro x u4 ⟨rfl, hw4⟩; subst u4)
            | (go_at_call 83; with_reducible refine (HC1.out _).mono ?_; rintro x u5 ⟨rfl, hw5⟩; subst u5)
            | (go_at_call 83; with_reducible refine (HC2.out _).mono ?_; rintro x u5 ⟨rfl, hw5⟩; subst u5))
          go_ret
          exact ⟨rfl, BB.out⟩
        | true =>
          cases p4 with
          | false =>
            obtain rfl : res = 2 := by rw [HE.out, HB.out]; simp
            clear HE HB
            go_wp2_with (first
              | (go_at_call 20; refine (HK.out _ B1.out).mono ?_; rintro x u2 ⟨rfl, hb2⟩; have BB := Lib.hid (bthen BB.out hb2); have XM := Lib.hid ((hb2.block _ (lt_of_block XM.out)).trans XM.out); have XS := Lib.hid ((hb2.block _ (lt_of_block XS.out)).trans XS.out); have XE := Lib.hid ((hb2.block _ (lt_of_block XE.out)).trans XE.out); clear hb2 m0 m1 m2 m3 m4 m5 s0 s1 s2 e0 e1 e2 e3 e4; obtain ⟨m0, m1, m2, m3, m4, m5⟩ := six_cells7 XM.out; obtain ⟨s0, s1, s2⟩ := three_cells8 XS.out; obtain ⟨e0, e1, e2, e3, e4⟩ := five_cells8 XE.out)
              | (go_at_call 56; refine (HP.out _).mono ?_; rintro x u3 ⟨rfl, hb2⟩; have BB := Lib.hid (bthen BB.out hb2); have XM := Lib.hid ((hb2.block _ (lt_of_block XM.out)).trans XM.out); have XS := Lib.hid ((hb2.block _ (lt_of_block XS.out)).trans XS.out); have XE := Lib.hid ((hb2.block _ (lt_of_block XE.out)).trans XE.out); clear hb2 m0 m1 m2 m3 m4 m5 s0 s1 s2 e0 e1 e2 e3 e4; obtain ⟨m0, m1, m2, m3, m4, m5⟩ := six_cells7 XM.out; obtain ⟨s0, s1, s2⟩ := three_cells8 XS.out; obtain ⟨e0, e1, e2, e3, e4⟩ := five_cells8 XE.out)
              | (go_at_call 39; refine (HN.out _).mono ?_; rintro x u4 ⟨rfl, hw4⟩; subst u4)
              | (go_at_call 83; with_reducible refine (HC1.out _).mono ?_; rintro x u5 ⟨rfl, hw5⟩; subst u5)
              | (go_at_call 83; with_reducible refine (HC2.out _).mono ?_; rintro x u5 ⟨rfl, hw5⟩; subst u5))
            go_ret
            exact ⟨rfl, BB.out⟩
          | true =>
            obtain rfl : res = 0 := by rw [HE.out, HB.out]; simp
            clear HE HB
            go_wp2_with (first
              | (go_at_call 20; refine (HK.out _ B1.out).mono ?_; rintro x u2 ⟨rfl, hb2⟩; have BB := Lib.hid (bthen BB.out hb2); have XM := Lib.hid ((hb2.block _ (lt_of_block XM.out)).trans XM.out); have XS := Lib.hid ((hb2.block _ (lt_of_block XS.out)).trans XS.out); have XE := Lib.hid ((hb2.block _ (lt_of_block XE.out)).trans XE.out); clear hb2 m0 m1 m2 m3 m4 m5 s0 s1 s2 e0 e1 e2 e3 e4; obtain ⟨m0, m1, m2, m3, m4, m5⟩ := six_cells7 XM.out; obtain ⟨s0, s1, s2⟩ := three_cells8 XS.out; obtain ⟨e0, e1, e2, e3, e4⟩ := five_cells8 XE.out)
              | (go_at_call 56; refine (HP.out _).mono ?_; rintro x u3 ⟨rfl, hb2⟩; have BB := Lib.hid (bthen BB.out hb2); have XM := Lib.hid ((hb2.block _ (lt_of_block XM.out)).trans XM.out); have XS := Lib.hid ((hb2.block _ (lt_of_block XS.out)).trans XS.out); have XE := Lib.hid ((hb2.block _ (lt_of_block XE.out)).trans XE.out); clear hb2 m0 m1 m2 m3 m4 m5 s0 s1 s2 e0 e1 e2 e3 e4; obtain ⟨m0, m1, m2, m3, m4, m5⟩ := six_cells7 XM.out; obtain ⟨s0, s1, s2⟩ := three_cells8 XS.out; obtain ⟨e0, e1, e2, e3, e4⟩ := five_cells8 XE.out)
              | (go_at_call 39; refine (HN.out _).mono ?_; rintro x u4 ⟨rfl, hw4⟩; subst u4)
              | (go_at_call 83; with_reducible refine (HC1.out _).mono ?_; rintro x u5 ⟨rfl, hw5⟩; subst u5)
              | (go_at_call 83; with_reducible refine (HC2.out _).mono ?_; rintro x u5 ⟨rfl, hw5⟩; subst u5))
            go_ret
            exact ⟨rfl, BB.out⟩
  · obtain rfl : res = 15 := by rw [HE.out]; simp
    clear HE HB
    go_wp2_with (first
      | (go_at_call 20; refine (HK.out _ B1.out).mono ?_; rintro x u2 ⟨rfl, hb2⟩; have BB := Lib.hid (bthen BB.out hb2); have XM := Lib.hid ((hb2.block _ (lt_of_block XM.out)).trans XM.out); have XS := Lib.hid ((hb2.block _ (lt_of_block XS.out)).trans XS.out); have XE := Lib.hid ((hb2.block _ (lt_of_block XE.out)).trans XE.out); clear hb2 m0 m1 m2 m3 m4 m5 s0 s1 s2 e0 e1 e2 e3 e4; obtain ⟨m0, m1, m2, m3, m4, m5⟩ := six_cells7 XM.out; obtain ⟨s0, s1, s2⟩ := three_cells8 XS.out; obtain ⟨e0, e1, e2, e3, e4⟩ := five_cells8 XE.out)
      | (go_at_call 56; refine (HP.out _).mono ?_; rintro x u3 ⟨rfl, hb2⟩; have BB := Lib.hid (bthen BB.out hb2); have XM := Lib.hid ((hb2.block _ (lt_of_block XM.out)).trans XM.out); have XS := Lib.hid ((hb2.block _ (lt_of_block XS.out)).trans XS.out); have XE := Lib.hid ((hb2.block _ (lt_of_block XE.out)).trans XE.out); clear hb2 m0 m1 m2 m3 m4 m5 s0 s1 s2 e0 e1 e2 e3 e4; obtain ⟨m0, m1, m2, m3, m4, m5⟩ := six_cells7 XM.out; obtain ⟨s0, s1, s2⟩ := three_cells8 XS.out; obtain ⟨e0, e1, e2, e3, e4⟩ := five_cells8 XE.out)
      | (go_at_call 39; refine (HN.out _).mono ?_; rintro x u4 ⟨rfl, hw4⟩; subst u4)
      | (go_at_call 83; with_reducible refine (HC1.out _).mono ?_; rintro x u5 ⟨rfl, hw5⟩; subst u5)
      | (go_at_call 83; with_reducible refine (HC2.out _).mono ?_; rintro x u5 ⟨rfl, hw5⟩; subst u5))
    go_ret
    exact ⟨rfl, BB.out⟩


theorem put_six8 {W : World} {B : Nat} {c0 c1 c2 c3 c4 c5 : Value} {T : TypeId} (h : W.heap[B]? = some (.cells #[c0, c1, c2, c3, c4, c5] T (0, 0))) (u0 u1 u2 u3 u4 u5 : Value) :
    (W.setCells B 0 [u0, u1, u2, u3, u4, u5]).heap[B]? = some (.cells #[u0, u1, u2, u3, u4, u5] T (0, 0)) :=
  Joins.block_setCell (Joins.block_setCell (Joins.block_setCell (Joins.block_setCell (Joins.block_setCell (Joins.block_setCell h u0) u1) u2) u3) u4) u5
set_option maxHeartbeats 1600000 in
theorem inputOf8_any (m : Mdl) (ad : Option Addr) (cd : Nat) (ap : Option Addr) (cp : Nat) (al : Option Addr) (cl : Nat) (ai : Option Addr) (ci : Nat) (lp : Int) (s : Sta) (aI : Option Addr) (cI : Nat) (e : Evn) (w : World) :
    Calls Tryz.prog 63 #[(.agg #[.int .i64 m.seed, .float .f64 m.fin, .slice ad m.nd cd, .slice ap m.np cp, .slice al m.nl cl, .slice ai m.ni ci]), .int .i64 lp, .agg #[.slice aI s.nw cI, .int .i64 s.sent, .int .i64 s.dice], .agg #[.float .f64 e.t, .int .i64 e.src, .int .i64 e.n, .int .i64 e.dst, .int .i64 e.pay]] w fun x w' => x = .returned (.agg #[.slice aI s.nw cI, .int .i64 e.pay, .int .i64 lp, .int .i64 (m.nl : Int), .int .i64 m.seed, .int .i64 s.dice]) ∧ Below w.heap.size w w' := by
  have q0 : (w.alloc (.cells #[.int .i64 m.seed, .float .f64 m.fin, .slice ad m.nd cd, .slice ap m.np cp, .slice al m.nl cl, .slice ai m.ni ci] 28)).heap.size = w.heap.size + 1 := World.size_alloc _ _
  have q1 : ((w.alloc (.cells #[.int .i64 m.seed, .float .f64 m.fin, .slice ad m.nd cd, .slice ap m.np cp, .slice al m.nl cl, .slice ai m.ni ci] 28)).alloc (.cells #[.slice aI s.nw cI, .int .i64 s.sent, .int .i64 s.dice] 55)).heap.size = w.heap.size + 2 := by rw [World.size_alloc, q0]
  have e1 := heap_alloc_new w (.cells #[.int .i64 m.seed, .float .f64 m.fin, .slice ad m.nd cd, .slice ap m.np cp, .slice al m.nl cl, .slice ai m.ni ci] 28)
  have e2 := heap_alloc_new (w.alloc (.cells #[.int .i64 m.seed, .float .f64 m.fin, .slice ad m.nd cd, .slice ap m.np cp, .slice al m.nl cl, .slice ai m.ni ci] 28)) (.cells #[.slice aI s.nw cI, .int .i64 s.sent, .int .i64 s.dice] 55)
  have e3 := heap_alloc_new ((w.alloc (.cells #[.int .i64 m.seed, .float .f64 m.fin, .slice ad m.nd cd, .slice ap m.np cp, .slice al m.nl cl, .slice ai m.ni ci] 28)).alloc (.cells #[.slice aI s.nw cI, .int .i64 s.sent, .int .i64 s.dice] 55)) (.cells #[.float .f64 e.t, .int .i64 e.src, .int .i64 e.n, .int .i64 e.dst, .int .i64 e.pay] 41)
  rw [q0] at e2; rw [q1] at e3
  have q2 : (((w.alloc (.cells #[.int .i64 m.seed, .float .f64 m.fin, .slice ad m.nd cd, .slice ap m.np cp, .slice al m.nl cl, .slice ai m.ni ci] 28)).alloc (.cells #[.slice aI s.nw cI, .int .i64 s.sent, .int .i64 s.dice] 55)).alloc (.cells #[.float .f64 e.t, .int .i64 e.src, .int .i64 e.n, .int .i64 e.dst, .int .i64 e.pay] 41)).heap.size = w.heap.size + 3 := by rw [World.size_alloc, q1]
  have e4 := heap_alloc_new (((w.alloc (.cells #[.int .i64 m.seed, .float .f64 m.fin, .slice ad m.nd cd, .slice ap m.np cp, .slice al m.nl cl, .slice ai m.ni ci] 28)).alloc (.cells #[.slice aI s.nw cI, .int .i64 s.sent, .int .i64 s.dice] 55)).alloc (.cells #[.float .f64 e.t, .int .i64 e.src, .int .i64 e.n, .int .i64 e.dst, .int .i64 e.pay] 41)) (.cells #[.slice none 0 0, .int .i64 0, .int .i64 0, .int .i64 0, .int .i64 0, .int .i64 0] 87)
  rw [q2] at e4
  have XM : Hid (((((w.alloc (.cells #[.int .i64 m.seed, .float .f64 m.fin, .slice ad m.nd cd, .slice ap m.np cp, .slice al m.nl cl, .slice ai m.ni ci] 28)).alloc (.cells #[.slice aI s.nw cI, .int .i64 s.sent, .int .i64 s.dice] 55)).alloc (.cells #[.float .f64 e.t, .int .i64 e.src, .int .i64 e.n, .int .i64 e.dst, .int .i64 e.pay] 41)).alloc (.cells #[.slice none 0 0, .int .i64 0, .int .i64 0, .int .i64 0, .int .i64 0, .int .i64 0] 87)).heap[w.heap.size]? = some (.cells #[.int .i64 m.seed, .float .f64 m.fin, .slice ad m.nd cd, .slice ap m.np cp, .slice al m.nl cl, .slice ai m.ni ci] 28)) := (Below.heap_alloc _ _ _ (by omega)).trans ((Below.heap_alloc _ _ _ (by omega)).trans ((Below.heap_alloc _ _ _ (by omega)).trans e1))
  have XS : Hid (((((w.alloc (.cells #[.int .i64 m.seed, .float .f64 m.fin, .slice ad m.nd cd, .slice ap m.np cp, .slice al m.nl cl, .slice ai m.ni ci] 28)).alloc (.cells #[.slice aI s.nw cI, .int .i64 s.sent, .int .i64 s.dice] 55)).alloc (.cells #[.float .f64 e.t, .int .i64 e.src, .int .i64 e.n, .int .i64 e.dst, .int .i64 e.pay] 41)).alloc (.cells #[.slice none 0 0, .int .i64 0, .int .i64 0, .int .i64 0, .int .i64 0, .int .i64 0] 87)).heap[w.heap.size + 1]? = some (.cells #[.slice aI s.nw cI, .int .i64 s.sent, .int .i64 s.dice] 55)) := (Below.heap_alloc _ _ _ (by omega)).trans ((Below.heap_alloc _ _ _ (by omega)).trans e2)
  have XE : Hid (((((w.alloc (.cells #[.int .i64 m.seed, .float .f64 m.fin, .slice ad m.nd cd, .slice ap m.np cp, .slice al m.nl cl, .slice ai m.ni ci] 28)).alloc (.cells #[.slice aI s.nw cI, .int .i64 s.sent, .int .i64 s.dice] 55)).alloc (.cells #[.float .f64 e.t, .int .i64 e.src, .int .i64 e.n, .int .i64 e.dst, .int .i64 e.pay] 41)).alloc (.cells #[.slice none 0 0, .int .i64 0, .int .i64 0, .int .i64 0, .int .i64 0, .int .i64 0] 87)).heap[w.heap.size + 2]? = some (.cells #[.float .f64 e.t, .int .i64 e.src, .int .i64 e.n, .int .i64 e.dst, .int .i64 e.pay] 41)) := (Below.heap_alloc _ _ _ (by omega)).trans e3
  have XZ : Hid (((((w.alloc (.cells #[.int .i64 m.seed, .float .f64 m.fin, .slice ad m.nd cd, .slice ap m.np cp, .slice al m.nl cl, .slice ai m.ni ci] 28)).alloc (.cells #[.slice aI s.nw cI, .int .i64 s.sent, .int .i64 s.dice] 55)).alloc (.cells #[.float .f64 e.t, .int .i64 e.src, .int .i64 e.n, .int .i64 e.dst, .int .i64 e.pay] 41)).alloc (.cells #[.slice none 0 0, .int .i64 0, .int .i64 0, .int .i64 0, .int .i64 0, .int .i64 0] 87)).heap[w.heap.size + 3]? = some (.cells #[.slice none 0 0, .int .i64 0, .int .i64 0, .int .i64 0, .int .i64 0, .int .i64 0] 87)) := e4
  have B1 := Lib.hid (bthen (bthen (bthen (balloc w (.cells #[.int .i64 m.seed, .float .f64 m.fin, .slice ad m.nd cd, .slice ap m.np cp, .slice al m.nl cl, .slice ai m.ni ci] 28)) (balloc _ (.cells #[.slice aI s.nw cI, .int .i64 s.sent, .int .i64 s.dice] 55))) (balloc _ (.cells #[.float .f64 e.t, .int .i64 e.src, .int .i64 e.n, .int .i64 e.dst, .int .i64 e.pay] 41))) (balloc _ (.cells #[.slice none 0 0, .int .i64 0, .int .i64 0, .int .i64 0, .int .i64 0, .int .i64 0] 87)))
  clear q0 q1 q2 e1 e2 e3 e4
  obtain ⟨m0, m1, m2, m3, m4, m5⟩ := six_cells7 XM.out
  obtain ⟨s0, s1, s2⟩ := three_cells8 XS.out
  obtain ⟨e0, e1, e2, e3, e4⟩ := five_cells8 XE.out
  obtain ⟨z0, z1, z2, z3, z4, z5⟩ := six_cells7 XZ.out
  have zf : ∀ q, ((((w.alloc (.cells #[.int .i64 m.seed, .float .f64 m.fin, .slice ad m.nd cd, .slice ap m.np cp, .slice al m.nl cl, .slice ai m.ni ci] 28)).alloc (.cells #[.slice aI s.nw cI, .int .i64 s.sent, .int .i64 s.dice] 55)).alloc (.cells #[.float .f64 e.t, .int .i64 e.src, .int .i64 e.n, .int .i64 e.dst, .int .i64 e.pay] 41)).alloc (.cells #[.slice none 0 0, .int .i64 0, .int .i64 0, .int .i64 0, .int .i64 0, .int .i64 0] 87)).frozen? ⟨w.heap.size + 3, q, none⟩ = false := fun q => Lib.frozen_of_heap XZ.out q
  generalize hu : (((w.alloc (.cells #[.int .i64 m.seed, .float .f64 m.fin, .slice ad m.nd cd, .slice ap m.np cp, .slice al m.nl cl, .slice ai m.ni ci] 28)).alloc (.cells #[.slice aI s.nw cI, .int .i64 s.sent, .int .i64 s.dice] 55)).alloc (.cells #[.float .f64 e.t, .int .i64 e.src, .int .i64 e.n, .int .i64 e.dst, .int .i64 e.pay] 41)).alloc (.cells #[.slice none 0 0, .int .i64 0, .int .i64 0, .int .i64 0, .int .i64 0, .int .i64 0] 87) = u at *
  go_enter Tryz.func63, Tryz.ntmps63
  go_upto_region 1 with fail
  try rw [hu]
  clear hu
  go_wp2_with fail
  change bodyPost _ _ _ _ _ (World.setCells u (w.heap.size + 3) 0 [.slice aI s.nw cI, .int .i64 e.pay, .int .i64 lp, .int .i64 (m.nl : Int), .int .i64 m.seed, .int .i64 s.dice])
  have h5 := put_six8 XZ.out (.slice aI s.nw cI) (.int .i64 e.pay) (.int .i64 lp) (.int .i64 (m.nl : Int)) (.int .i64 m.seed) (.int .i64 s.dice)
  have LZ := Lib.hid (B1.out.trans (put_low7 (show w.heap.size ≤ w.heap.size + 3 by omega) [.slice aI s.nw cI, .int .i64 e.pay, .int .i64 lp, .int .i64 (m.nl : Int), .int .i64 m.seed, .int .i64 s.dice] 0 u))
  obtain ⟨t0, t1, t2, t3, t4, t5⟩ := six_cells7 h5
  clear h5
  generalize World.setCells u (w.heap.size + 3) 0 [.slice aI s.nw cI, .int .i64 e.pay, .int .i64 lp, .int .i64 (m.nl : Int), .int .i64 m.seed, .int .i64 s.dice] = w9 at *
  exact bodyPost_ret (v := .agg #[.slice aI s.nw cI, .int .i64 e.pay, .int .i64 lp, .int .i64 (m.nl : Int), .int .i64 m.seed, .int .i64 s.dice]) (by simp [results, Tryz.results63, go_sem, t0, t1, t2, t3, t4, t5]) rfl ⟨rfl, LZ.out⟩

end Go.Proofs.YthkfaeplmmlnlaaGreat
