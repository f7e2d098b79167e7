/- The contracts of the document's less, Compare, delay, First, Same (of states). The contract of the document's own Same of stamps, at two that are the same. The contracts of the document's SameEvents (at the same events), Begin, Compare. -/
import Derived.WalkKit
import Derived.WalkSpells
import Derived.WalkLawsBesides
import Derived.Lib.Hide
import Derived.WalkSmall
import Derived.BigQuiet
import Derived.Deep.QuietTactic
import Derived.Test.YthkfaeplmmlnlaaGreatRZ7
import Derived.Test.YthkfaeplmmlnlaaGreatRZ0
import Derived.Test.YthkfaeplmmlnlaaGreatRZ3
namespace Go.Proofs.YthkfaeplmmlnlaaGreat
open Go.RowKit Go.Deep
set_option linter.unusedVariables false
set_option maxRecDepth 100000

theorem three_cells8 {W : World} {B : Nat} {c0 c1 c2 : Value} {T : TypeId} (h : W.heap[B]? = some (.cells #[c0, c1, c2] T (0, 0))) :
    W.cell? ⟨B, 0, none⟩ = some c0 ∧ W.cell? ⟨B, 1, none⟩ = some c1 ∧ W.cell? ⟨B, 2, none⟩ = some c2 := by
  refine ⟨?_, ?_, ?_⟩ <;> (rw [Lib.cell_of_heap h]; rfl)
def signI (a b : Int) : Int := if a < b then -1 else if b < a then 1 else 0
theorem refLess8_any (a b : Int) (w : World) : Calls Tryz.prog 82 #[.int .i64 a, .int .i64 b] w fun e w' => e = .returned (.int .i64 (signI a b)) ∧ w' = w := by
  by_cases h : a < b
  · have d0 : decide (a < b) = true := by simp [h]
    have e1 : signI a b = -1 := if_pos h
    rw [e1]
    clear h e1
    go_enter Tryz.func82, Tryz.ntmps82
    go_wp2_with fail
    go_ret
    exact ⟨rfl, rfl⟩
  · have d0 : decide (a < b) = false := by simp [h]
    by_cases h2 : b < a
    · have d1 : decide (b < a) = true := by simp [h2]
      have e1 : signI a b = 1 := by unfold signI; rw [if_neg h, if_pos h2]
      rw [e1]
      clear h h2 e1
      go_enter Tryz.func82, Tryz.ntmps82
      go_wp2_with fail
      go_ret
      exact ⟨rfl, rfl⟩
    · have d1 : decide (b < a) = false := by simp [h2]
      have e1 : signI a b = 0 := by unfold signI; rw [if_neg h, if_neg h2]
      rw [e1]
      clear h h2 e1
      go_enter Tryz.func82, Tryz.ntmps82
      go_wp2_with fail
      go_ret
      exact ⟨rfl, rfl⟩

theorem dly_mod {nd : Nat} (h : 0 < nd) (n : Int) : (n.tmod nd < 0 → n.tmod nd + nd = ((dlyN nd n : Nat) : Int)) ∧ (¬ n.tmod nd < 0 → n.tmod nd = ((dlyN nd n : Nat) : Int)) ∧ dlyN nd n < nd := by
  have hp : (0 : Int) < nd := by omega
  have h1 := Int.emod_nonneg n (show (nd : Int) ≠ 0 by omega)
  have h2 := Int.emod_lt_of_pos n hp
  have key : (n.tmod nd < 0 → n.tmod nd + nd = n % nd) ∧ (¬ n.tmod nd < 0 → n.tmod nd = n % nd) := by
    by_cases hn : 0 ≤ n
    · have h3 := Int.tmod_eq_emod_of_nonneg (b := (nd : Int)) hn
      rw [h3]
      exact ⟨fun h => absurd h1 (by omega), fun _ => rfl⟩
    · have h3 : (-n).tmod nd = (-n) % nd := Int.tmod_eq_emod_of_nonneg (by omega)
      rw [Int.neg_tmod] at h3
      have h4 := Int.emod_nonneg (-n) (show (nd : Int) ≠ 0 by omega)
      have h5 := Int.emod_lt_of_pos (-n) hp
      have h6 : (n.tmod nd) % nd = n % nd := by rw [Int.tmod_def, Int.sub_mul_emod_self_left]
      constructor
      · intro hlt
        rw [← h6, ← Int.add_emod_right]
        exact (Int.emod_eq_of_lt (by omega) (by omega)).symm
      · intro hge
        have h8 : n.tmod nd = 0 := by omega
        rw [← h6, h8]; simp
  unfold dlyN
  refine ⟨fun h => ?_, fun h => ?_, by omega⟩
  · rw [key.1 h]; omega
  · rw [key.2 h]; omega

theorem refDelay_any (m : Mdl) (vd vp vl vi : Value) (n : Int) (w : World) (hd : Sl 1 (gF m.d) m.nd vd w) (h0 : 0 < m.nd) (h8 : m.nd ≤ 8) :
    Calls Tryz.prog 37 #[mval m vd vp vl vi, .int .i64 n] w fun e w' => e = .returned (.float .f64 (m.d (dlyN m.nd n))) ∧ Below w.heap.size w w' := by
  obtain ⟨ad, cd, rfl, hcd, hcd2, hat⟩ := hd
  obtain ⟨b, o, rfl, hA⟩ := hat h0
  obtain ⟨k1, k2, k3⟩ := dly_mod h0 n
  unfold mval
  have X1 := Lib.hid (heap_alloc_new w (.cells #[.int .i64 m.seed, .float .f64 m.fin, .slice (some ⟨b, o, none⟩) m.nd cd, vp, vl, vi] 28))
  have B1 := Lib.hid (balloc w (.cells #[.int .i64 m.seed, .float .f64 m.fin, .slice (some ⟨b, o, none⟩) m.nd cd, vp, vl, vi] 28))
  have c0 := (hA.below B1.out).one (dlyN m.nd n) k3
  simp only [gF] at c0
  clear hA hat
  generalize hk : dlyN m.nd n = k at *
  clear hk
  obtain ⟨n0, n1, n2, n3, n4, n5⟩ := six_cells7 X1.out
  have e0 : ((m.nd : Int) == 0) = false := by simp; omega
  have bk : ((k : Nat) : Int) < (m.nd : Int) := by omega
  have lk : (0 : Int) ≤ ((k : Nat) : Int) := by omega
  have tk : ((k : Nat) : Int).toNat = k := by omega
  generalize hu : w.alloc (.cells #[.int .i64 m.seed, .float .f64 m.fin, .slice (some ⟨b, o, none⟩) m.nd cd, vp, vl, vi] 28) = u at *
  go_enter Tryz.func37, Tryz.ntmps37
  go_upto_region 1 with fail
  try rw [hu]
  clear hu
  by_cases hq : n.tmod m.nd < 0
  · have d0 : decide (n.tmod m.nd < 0) = true := by simp [hq]
    have k1 := k1 hq
    have l2 : -9223372036854775808 ≤ n.tmod m.nd + m.nd := by omega
    have l3 : n.tmod m.nd + m.nd ≤ 9223372036854775807 := by omega
    have l4 : wrap64 (n.tmod m.nd + m.nd) = (k : Int) := by rw [k1]; unfold wrap64; omega
    clear k2 hq
    go_upto_region 4 with fail
    clear k1 d0 l2 l3 l4
    go_wp2_with fail
    go_ret
    exact ⟨rfl, B1.out⟩
  · have d0 : decide (n.tmod m.nd < 0) = false := by simp [hq]
    have k2 := k2 hq
    clear k1 hq
    go_upto_region 4 with fail
    clear k2 d0
    go_wp2_with fail
    go_ret
    exact ⟨rfl, B1.out⟩

set_option maxHeartbeats 1600000 in
theorem refSame8_any (a b : Sta) (va vb : Value) (w : World) (ha : Sl 1 (gW a.w) a.nw va w) (hb : Sl 1 (gW b.w) b.nw vb w) :
    Calls Tryz.prog 15 #[sval a va, sval b vb] w fun e w' => e = .returned (.bool (sameW a.w b.w a.nw b.nw && decide (a.sent = b.sent) && decide (a.dice = b.dice))) ∧ Below w.heap.size w w' := by
  unfold sval
  have B1 := Lib.hid (bthen (balloc w (.cells #[va, .int .i64 a.sent, .int .i64 a.dice] 55)) (balloc _ (.cells #[vb, .int .i64 b.sent, .int .i64 b.dice] 55)))
  have X1 : ((w.alloc (.cells #[va, .int .i64 a.sent, .int .i64 a.dice] 55)).alloc (.cells #[vb, .int .i64 b.sent, .int .i64 b.dice] 55)).heap[w.heap.size]? = some (.cells #[va, .int .i64 a.sent, .int .i64 a.dice] 55) := (Below.heap_alloc _ _ _ (by rw [World.size_alloc]; omega)).trans (heap_alloc_new w _)
  have X2 : ((w.alloc (.cells #[va, .int .i64 a.sent, .int .i64 a.dice] 55)).alloc (.cells #[vb, .int .i64 b.sent, .int .i64 b.dice] 55)).heap[w.heap.size + 1]? = some (.cells #[vb, .int .i64 b.sent, .int .i64 b.dice] 55) := by
    have := heap_alloc_new (w.alloc (.cells #[va, .int .i64 a.sent, .int .i64 a.dice] 55)) (.cells #[vb, .int .i64 b.sent, .int .i64 b.dice] 55)
    rwa [World.size_alloc] at this
  have HIN := Lib.hid (ints5_any a.w b.w a.nw b.nw va vb _ (ha.below B1.out) (hb.below B1.out))
  have HX := Lib.hid X1
  have HY := Lib.hid X2
  obtain ⟨x0, x1, x2⟩ := three_cells8 X1
  obtain ⟨y0, y1, y2⟩ := three_cells8 X2
  clear X1 X2 ha hb
  obtain ⟨res, hres⟩ : ∃ res, res = (sameW a.w b.w a.nw b.nw && decide (a.sent = b.sent) && decide (a.dice = b.dice)) := ⟨_, rfl⟩
  rw [← hres]
  have E := Lib.hid hres
  clear hres
  generalize sameW a.w b.w a.nw b.nw = sw at *
  generalize hu : (w.alloc (.cells #[va, .int .i64 a.sent, .int .i64 a.dice] 55)).alloc (.cells #[vb, .int .i64 b.sent, .int .i64 b.dice] 55) = u at *
  go_enter Tryz.func15, Tryz.ntmps15
  go_upto_region 1 with fail
  try rw [hu]
  clear hu
  cases sw with
  | false =>
    obtain rfl : res = false := E.out
    clear E
    go_wp2_with (go_at_call 33; refine HIN.out.mono ?_; rintro e u2 ⟨rfl, hb2⟩; have B2 := Lib.hid (bthen B1.out hb2); clear hb2)
    go_ret
    exact ⟨rfl, B2.out⟩
  | true =>
    by_cases h1 : a.sent = b.sent
    · have d1 : (a.sent == b.sent) = true := by simp [h1]
      by_cases h2 : a.dice = b.dice
      · have d2 : (a.dice == b.dice) = true := by simp [h2]
        obtain rfl : res = true := by rw [E.out, decide_eq_true h1, decide_eq_true h2]; rfl
        clear h1 h2 E
        go_wp2_with (go_at_call 33; refine HIN.out.mono ?_; rintro e u2 ⟨rfl, hb2⟩; have B2 := Lib.hid (bthen B1.out hb2); obtain ⟨x0, x1, x2⟩ := three_cells8 ((hb2.block _ (lt_of_block HX.out)).trans HX.out); obtain ⟨y0, y1, y2⟩ := three_cells8 ((hb2.block _ (lt_of_block HY.out)).trans HY.out); clear hb2)
        go_ret
        exact ⟨rfl, B2.out⟩
      · have d2 : (a.dice == b.dice) = false := by simp [h2]
        obtain rfl : res = false := by rw [E.out, decide_eq_true h1, decide_eq_false h2]; rfl
        clear h1 h2 E
        go_wp2_with (go_at_call 33; refine HIN.out.mono ?_; rintro e u2 ⟨rfl, hb2⟩; have B2 := Lib.hid (bthen B1.out hb2); obtain ⟨x0, x1, x2⟩ := three_cells8 ((hb2.block _ (lt_of_block HX.out)).trans HX.out); obtain ⟨y0, y1, y2⟩ := three_cells8 ((hb2.block _ (lt_of_block HY.out)).trans HY.out); clear hb2)
        go_ret
        exact ⟨rfl, B2.out⟩
    · have d1 : (a.sent == b.sent) = false := by simp [h1]
      obtain rfl : res = false := by rw [E.out, decide_eq_false h1]; rfl
      clear h1 E
      go_wp2_with (go_at_call 33; refine HIN.out.mono ?_; rintro e u2 ⟨rfl, hb2⟩; have B2 := Lib.hid (bthen B1.out hb2); obtain ⟨x0, x1, x2⟩ := three_cells8 ((hb2.block _ (lt_of_block HX.out)).trans HX.out); obtain ⟨y0, y1, y2⟩ := three_cells8 ((hb2.block _ (lt_of_block HY.out)).trans HY.out); clear hb2)
      go_ret
      exact ⟨rfl, B2.out⟩

end Go.Proofs.YthkfaeplmmlnlaaGreat
namespace Go.Proofs.YthkfaeplmmlnlaaGreat
open Go.RowKit
set_option linter.unusedVariables false
set_option maxRecDepth 100000

theorem same2_any (t : Nat) (y z : Int) (w : World) :
    Calls Tryz.prog 32 #[.agg #[.float .f64 t, .int .i64 y, .int .i64 z], .agg #[.float .f64 t, .int .i64 y, .int .i64 z]] w fun e w' => e = .returned (.bool true) ∧ Below w.heap.size w w' := by
  have hb := floatbits_run t
  have g1 : ((t : Int) == (t : Int)) = true := by simp
  have g2 : (y == y) = true := by simp
  have g3 : (z == z) = true := by simp
  have HW : Hid (Below w.heap.size w ((w.alloc (.cells #[.float .f64 t, .int .i64 y, .int .i64 z] 39)).alloc (.cells #[.float .f64 t, .int .i64 y, .int .i64 z] 39))) := (balloc _ _).alloc (by simp) _
  go_enter Tryz.func32, Tryz.ntmps32
  go_wp2_with fail
  go_quiet (fail)
  go_wp2_with fail
  go_ret
  exact ⟨rfl, bdrewN HW.out nq⟩

end Go.Proofs.YthkfaeplmmlnlaaGreat
namespace Go.Proofs.YthkfaeplmmlnlaaGreat
open Go.RowKit Go.Deep
set_option linter.unusedVariables false
set_option maxRecDepth 100000

theorem info_event8 : (Tryz.prog.info? 41).map (fun i => (i.zero, i.size, i.bytes)) = some (some (.agg #[.float .f64 0, .int .i64 0, .int .i64 0, .int .i64 0, .int .i64 0]), 5, 40) := by kernel_rfl
theorem five_cells8 {W : World} {B : Nat} {c0 c1 c2 c3 c4 : Value} {T : TypeId} (h : W.heap[B]? = some (.cells #[c0, c1, c2, c3, c4] T (0, 0))) :
    W.cell? ⟨B, 0, none⟩ = some c0 ∧ W.cell? ⟨B, 1, none⟩ = some c1 ∧ W.cell? ⟨B, 2, none⟩ = some c2 ∧ W.cell? ⟨B, 3, none⟩ = some c3 ∧ W.cell? ⟨B, 4, none⟩ = some c4 := by
  refine ⟨?_, ?_, ?_, ?_, ?_⟩ <;> (rw [Lib.cell_of_heap h]; rfl)
/-- the events at first, and that each time is a number -/
theorem beginE_n (m : Mdl) : ∀ k, (beginE m k).n ≤ k
  | 0 => Nat.le_refl _
  | k + 1 => by
    unfold beginE
    split
    · show (beginE m k).n + 1 ≤ k + 1; have := beginE_n m k; omega
    · have := beginE_n m k; omega
set_option maxHeartbeats 3200000 in
theorem refBegin8_any (m : Mdl) (vd vp vl vi : Value) (w : World) (hi : Sl 3 (gE m.ev) m.ni vi w) (h16 : m.ni ≤ 16) :
    Calls Tryz.prog 28 #[mval m vd vp vl vi] w fun e w' => ∃ v, e = .returned v ∧ EvsAt w.heap.size (beginE m m.ni) v w' ∧ Below w.heap.size w w' := by
  obtain ⟨i0, hi0, hz0, hz1, hz2⟩ := info_parts info_event8
  obtain ⟨ai, ci, rfl, m1, m2, k1⟩ := hi
  unfold mval
  have X1 := Lib.hid (heap_alloc_new w (.cells #[.int .i64 m.seed, .float .f64 m.fin, vd, vp, vl, .slice ai m.ni ci] 28))
  have B1 := Lib.hid (balloc w (.cells #[.int .i64 m.seed, .float .f64 m.fin, vd, vp, vl, .slice ai m.ni ci] 28))
  have K1 := Lib.hid k1
  clear k1
  go_enter Tryz.func28, Tryz.ntmps28
  go_upto_region 1 with fail
  generalize w.alloc (.cells #[.int .i64 m.seed, .float .f64 m.fin, vd, vp, vl, .slice ai m.ni ci] 28) = u at *
  go_wp2_with fail
  go_loopw [3, 4] (fun v i wr => ∃ j : Nat, j ≤ m.ni ∧ i = .int .i64 j ∧ EvsAt w.heap.size (beginE m j) v wr ∧ Below w.heap.size w wr ∧ wr.heap[w.heap.size]? = some (.cells #[.int .i64 m.seed, .float .f64 m.fin, vd, vp, vl, .slice ai m.ni ci] 28)) (fun _ i _ => m.ni - (intOf i).toNat)
  case atStart => exact ⟨0, Nat.zero_le _, rfl, evsAt_none _ _, B1.out, X1.out⟩
  case round =>
    obtain ⟨j, hj, rfl, hv, hl, hx⟩ := hrel
    have HV := Lib.hid hv
    have HL := Lib.hid hl
    have HX := Lib.hid hx
    obtain ⟨n0, n1, n2, n3, n4, n5⟩ := six_cells7 hx
    obtain ⟨az, cz, rfl, _⟩ := id hv
    clear hv hl hx B1 X1
    by_cases hlt : j < m.ni
    · obtain ⟨b, o, rfl, h1⟩ := K1.out (by omega)
      have hA := Lib.hid h1
      have hA2 := h1.below HL.out
      have c0 : wr.cell? ⟨b, o + j * 3, none⟩ = some (.float .f64 (m.ev j).t) := hA2.2 j hlt 0 (by omega)
      have HN := Lib.hid (refNorm_any (m.ev j).t)
      have hj2 : (j : Int) < (m.ni : Int) := by omega
      have hj0 : (0 : Int) ≤ (j : Int) := by omega
      have hjt : ((j : Nat) : Int).toNat = j := by omega
      have hbn : (beginE m j).n ≤ j := beginE_n m j
      have EB : Hid (beginE m (j + 1) = if leqF (normSpec (m.ev j).t).1 m.fin then (beginE m j).push ⟨(normSpec (m.ev j).t).1, -1, (j : Int), (m.ev j).dst, (m.ev j).pay⟩ else beginE m j) := rfl
      clear h1 hA2 K1
      unfold feRet at HN
      generalize normSpec (m.ev j).t = ts at *
      obtain ⟨t, te⟩ := ts
      simp only at HN EB
      cases hq : leqF t m.fin with
      | false =>
        have dq : ((FloatKind.f64.format.order t m.fin == some Ordering.lt) || (FloatKind.f64.format.order t m.fin == some Ordering.eq)) = false := hq
        rw [hq] at EB
        clear hq
        go_wp2_with (go_at_call 59; refine (HN.out _).mono ?_; rintro e w1 ⟨rfl, hw1⟩; subst w1)
        go_roundw
        case rel => exact ⟨j + 1, by omega, by go_num, by rw [EB.out]; exact HV.out, HL.out, HX.out⟩
        case measure => simp [intOf]; omega
      | true =>
        have dq : ((FloatKind.f64.format.order t m.fin == some Ordering.lt) || (FloatKind.f64.format.order t m.fin == some Ordering.eq)) = true := hq
        rw [hq] at EB
        clear hq
        go_upto_region 7 with (go_at_call 59; refine (HN.out _).mono ?_; rintro e w1 ⟨rfl, hw1⟩; subst w1)
        have L0 := Lib.hid HL.out.drew
        have X0 : Hid (wr.drew.heap[w.heap.size]? = some (.cells #[.int .i64 m.seed, .float .f64 m.fin, vd, vp, vl, .slice (some ⟨b, o, none⟩) m.ni ci] 28)) := HX.out
        have V0 := Lib.hid (HV.out.below (bdrew wr))
        have CC : ∀ (u2 : World), Below w.heap.size w u2 → u2.cell? ⟨b, o + j * 3 + 1, none⟩ = some (.int .i64 (m.ev j).dst) ∧ u2.cell? ⟨b, o + j * 3 + 2, none⟩ = some (.int .i64 (m.ev j).pay) := fun u2 k => ⟨(hA.out.below k).2 j hlt 1 (by omega), (hA.out.below k).2 j hlt 2 (by omega)⟩
        have CC := Lib.hid CC
        refine wp_region_held_drew (S := (fun w' => w'.cell? ⟨w.heap.size, 5, none⟩ = some (.slice (some ⟨b, o, none⟩) m.ni ci) ∧ w'.cell? ⟨b, o + j * 3 + 1, none⟩ = some (.int .i64 (m.ev j).dst) ∧ w'.cell? ⟨b, o + j * 3 + 2, none⟩ = some (.int .i64 (m.ev j).pay))) (by kernel_rfl) ?_ (fun hHeld => ?_)
        · exact ⟨(six_cells7 X0.out).2.2.2.2.2, (CC.out _ L0.out).1, (CC.out _ L0.out).2⟩
        change wpAnyH _ _ _ _ _ _ _ _ (World.drew wr)
        clear n0 n1 n2 n3 n4 n5 c0 HX HL HV
        generalize wr.drew = u0 at *
        first | refine tq0 0 rfl ?_ | refine tq1 0 rfl ?_
        try go_frame
        first | refine tq0 1 rfl ?_ | refine tq1 1 rfl ?_
        try go_frame
        first | refine tq0 2 rfl ?_ | refine tq1 2 rfl ?_
        try go_frame
        first | refine tq0 3 rfl ?_ | refine tq1 3 rfl ?_
        try go_frame
        first | refine tq0 4 rfl ?_ | refine tq1 4 rfl ?_
        try go_frame
        first | refine tq0 5 rfl ?_ | refine tq1 5 rfl ?_
        try go_frame
        first | refine tq0 6 rfl ?_ | refine tq1 6 rfl ?_
        try go_frame
        first | refine tq0 7 rfl ?_ | refine tq1 7 rfl ?_
        try go_frame
        first | refine tq0 8 rfl ?_ | refine tq1 8 rfl ?_
        try go_frame
        first | refine tq0 9 rfl ?_ | refine tq1 9 rfl ?_
        try go_frame
        first | refine tq0 10 rfl ?_ | refine tq1 10 rfl ?_
        try go_frame
        first | refine tq0 11 rfl ?_ | refine tq1 11 rfl ?_
        try go_frame
        first | refine tq0 12 rfl ?_ | refine tq1 12 rfl ?_
        try go_frame
        first | refine tq0 13 rfl ?_ | refine tq1 13 rfl ?_
        try go_frame
        first | refine tq0 14 rfl ?_ | refine tq1 14 rfl ?_
        try go_frame
        first | refine tq0 15 rfl ?_ | refine tq1 15 rfl ?_
        try go_frame
        first | refine tq0 16 rfl ?_ | refine tq1 16 rfl ?_
        try go_frame
        refine wpAnyH_ready (rs := [17]) (by kernel_rfl) (by simp) ?_
        refine AllReadyH.cons (o := ⟨_, _, _, _, _, _⟩) rfl (fun K hK => ?_) AllReadyH.nil
        go_simp
        have X2 := Lib.hid ((Below.heap_alloc u0 (.cells #[.float .f64 t, .int .i64 (-1), .int .i64 (j : Int), .int .i64 (m.ev j).dst, .int .i64 (m.ev j).pay] 41) _ (lt_of_block X0.out)).trans X0.out)
        have L2 := Lib.hid (L0.out.trans ((balloc u0 (.cells #[.float .f64 t, .int .i64 (-1), .int .i64 (j : Int), .int .i64 (m.ev j).dst, .int .i64 (m.ev j).pay] 41)).mono L0.out.size))
        have V2 := Lib.hid (V0.out.below (balloc u0 (.cells #[.float .f64 t, .int .i64 (-1), .int .i64 (j : Int), .int .i64 (m.ev j).dst, .int .i64 (m.ev j).pay] 41)))
        have HNW := Lib.hid (news_cells7 u0 #[.float .f64 t, .int .i64 (-1), .int .i64 (j : Int), .int .i64 (m.ev j).dst, .int .i64 (m.ev j).pay] 41)
        have HOW : Hid ((u0.alloc (.cells #[.float .f64 t, .int .i64 (-1), .int .i64 (j : Int), .int .i64 (m.ev j).dst, .int .i64 (m.ev j).pay] 41)).ownsRow w.heap.size 41 5 (.slice az (beginE m j).n cz) (beginE m j).n (rowCells 5 (gV8 (beginE m j).f) (beginE m j).n)) := by
          obtain ⟨_, _, e1, h1⟩ := V2.out
          simp only [Value.slice.injEq, true_and] at e1
          obtain ⟨rfl, rfl⟩ := e1
          exact h1
        have HBS : Hid (w.heap.size ≤ (u0.alloc (.cells #[.float .f64 t, .int .i64 (-1), .int .i64 (j : Int), .int .i64 (m.ev j).dst, .int .i64 (m.ev j).pay] 41)).heap.size) := L2.out.size
        refine hK.out _ _ ?_ (fun hHeld => ?_)
        · exact ⟨(six_cells7 X2.out).2.2.2.2.2, (CC.out _ L2.out).1, (CC.out _ L2.out).2⟩
        clear hK K
        try go_frame
        refine wpAnyH_ready (rs := [18]) (by kernel_rfl) (by simp) ?_
        refine AllReadyH.cons (o := ⟨_, _, _, _, _, _⟩) rfl (fun K hK => ?_) AllReadyH.nil
        refine step_append_lies _ rfl (.tmp 28) (.tmp 45) 50 rfl w.heap.size 41 i0 (.agg #[.float .f64 0, .int .i64 0, .int .i64 0, .int .i64 0, .int .i64 0]) 5 40 Tryz.underlying50 hi0 hz0 hz1 hz2 rfl (by decide) (.slice az (beginE m j).n cz) (beginE m j).n _ (by simp [Act.eval]) HOW.out ⟨u0.heap.size, 0, none⟩ 1 1 [.float .f64 t, .int .i64 (-1), .int .i64 (j : Int), .int .i64 (m.ev j).dst, .int .i64 (m.ev j).pay] (by simp [Act.eval]) rfl HNW.out (by simp [Value.oneCell']) (by decide) (by unfold maxLen; omega) (by omega) HBS.out _ rfl ?_
        intro g1 cap1 w10 hown10 hgr _ _
        have L3 := Lib.hid (L2.out.trans (below_grown HOW.out HBS.out hgr))
        have X3 := Lib.hid (grown_keep7 HOW.out hgr X2.out (by decide))
        have V3 : Hid (EvsAt w.heap.size (beginE m (j + 1)) (.slice (some ⟨g1, 0, none⟩) ((beginE m j).n + 1) cap1) w10) := by
          show EvsAt _ _ _ _
          rw [EB.out]
          first | rw [if_pos rfl] | rw [if_pos trivial]
          refine ⟨some ⟨g1, 0, none⟩, cap1, rfl, ?_⟩
          rw [← push_cells (beginE m j) ⟨t, -1, (j : Int), (m.ev j).dst, (m.ev j).pay⟩]
          exact hown10
        refine hK.out _ _ ?_ (fun hHeld => ?_)
        · exact ⟨(six_cells7 X3.out).2.2.2.2.2, (CC.out _ L3.out).1, (CC.out _ L3.out).2⟩
        clear hK K
        try go_frame
        clear hown10 hgr
        first | refine tq0 19 rfl ?_ | refine tq1 19 rfl ?_
        try go_frame
        refine wpAnyH_done (by kernel_rfl) ?_ _
        go_wp2_with fail
        go_roundw
        case rel => exact ⟨j + 1, by omega, by go_num, V3.out, L3.out, X3.out⟩
        case measure => simp [intOf]; omega
    · obtain rfl : j = m.ni := by omega
      go_wp2_with fail
      go_ret
      exact ⟨_, rfl, HV.out, HL.out⟩

/-- the parts of two events held against each other, one by one -/
def partsE (a b : Evn) : Nat → Int := fun i => match i with
  | 0 => cmpT a.t b.t
  | 1 => signI a.dst b.dst
  | 2 => signI a.src b.src
  | 3 => signI a.n b.n
  | _ => signI a.pay b.pay
def firstNZ (f : Nat → Int) : Int := if f 0 ≠ 0 then f 0 else if f 1 ≠ 0 then f 1 else if f 2 ≠ 0 then f 2 else if f 3 ≠ 0 then f 3 else if f 4 ≠ 0 then f 4 else 0
def cmpE (a b : Evn) : Int := firstNZ (partsE a b)
theorem firstNZ_at {f : Nat → Int} {j : Nat} (hj : j < 5) (h0 : ∀ i, i < j → f i = 0) (h : f j ≠ 0) : firstNZ f = f j := by
  unfold firstNZ
  have hc : j = 0 ∨ j = 1 ∨ j = 2 ∨ j = 3 ∨ j = 4 := by omega
  rcases hc with rfl | rfl | rfl | rfl | rfl
  · rw [if_pos h]
  · simp [h0 0 (by omega), h]
  · simp [h0 0 (by omega), h0 1 (by omega), h]
  · simp [h0 0 (by omega), h0 1 (by omega), h0 2 (by omega), h]
  · simp [h0 0 (by omega), h0 1 (by omega), h0 2 (by omega), h0 3 (by omega), h]
theorem firstNZ_none {f : Nat → Int} (h0 : ∀ i, i < 5 → f i = 0) : firstNZ f = 0 := by
  unfold firstNZ
  simp [h0 0 (by omega), h0 1 (by omega), h0 2 (by omega), h0 3 (by omega), h0 4 (by omega)]
set_option maxHeartbeats 3200000 in
theorem refCompare8_any (a b : Evn) (w : World) :
    Calls Tryz.prog 60 #[eval8 a, eval8 b] w fun e w' => e = .returned (.int .i64 (cmpE a b)) ∧ Below w.heap.size w w' := by
  unfold eval8
  have X1 : Hid (((w.alloc (.cells #[.float .f64 a.t, .int .i64 a.src, .int .i64 a.n, .int .i64 a.dst, .int .i64 a.pay] 41)).alloc (.cells #[.float .f64 b.t, .int .i64 b.src, .int .i64 b.n, .int .i64 b.dst, .int .i64 b.pay] 41)).heap[w.heap.size]? = some (.cells #[.float .f64 a.t, .int .i64 a.src, .int .i64 a.n, .int .i64 a.dst, .int .i64 a.pay] 41)) := (Below.heap_alloc _ _ _ (by rw [World.size_alloc]; omega)).trans (heap_alloc_new w _)
  have X2 : Hid (((w.alloc (.cells #[.float .f64 a.t, .int .i64 a.src, .int .i64 a.n, .int .i64 a.dst, .int .i64 a.pay] 41)).alloc (.cells #[.float .f64 b.t, .int .i64 b.src, .int .i64 b.n, .int .i64 b.dst, .int .i64 b.pay] 41)).heap[w.heap.size + 1]? = some (.cells #[.float .f64 b.t, .int .i64 b.src, .int .i64 b.n, .int .i64 b.dst, .int .i64 b.pay] 41)) := by
    have := heap_alloc_new (w.alloc (.cells #[.float .f64 a.t, .int .i64 a.src, .int .i64 a.n, .int .i64 a.dst, .int .i64 a.pay] 41)) (.cells #[.float .f64 b.t, .int .i64 b.src, .int .i64 b.n, .int .i64 b.dst, .int .i64 b.pay] 41)
    rwa [World.size_alloc] at this
  have B1 := Lib.hid (bthen (balloc w (.cells #[.float .f64 a.t, .int .i64 a.src, .int .i64 a.n, .int .i64 a.dst, .int .i64 a.pay] 41)) (balloc _ (.cells #[.float .f64 b.t, .int .i64 b.src, .int .i64 b.n, .int .i64 b.dst, .int .i64 b.pay] 41)))
  have HT := Lib.hid (refTimes_any a.t b.t)
  have E : Hid (cmpE a b = firstNZ (partsE a b)) := rfl
  generalize cmpE a b = res at *
  obtain ⟨f, hf⟩ : ∃ f, f = partsE a b := ⟨_, rfl⟩
  have f0 : f 0 = cmpT a.t b.t := by rw [hf]; rfl
  have f1 : f 1 = signI a.dst b.dst := by rw [hf]; rfl
  have f2 : f 2 = signI a.src b.src := by rw [hf]; rfl
  have f3 : f 3 = signI a.n b.n := by rw [hf]; rfl
  have f4 : f 4 = signI a.pay b.pay := by rw [hf]; rfl
  rw [← hf] at E
  have HT : Hid (∀ w, Calls Tryz.prog 81 #[.float .f64 a.t, .float .f64 b.t] w fun e w' => e = .returned (.int .i64 (f 0)) ∧ w = w') := by rw [f0]; exact HT
  have H1 : Hid (∀ w, Calls Tryz.prog 82 #[.int .i64 a.dst, .int .i64 b.dst] w fun e w' => e = .returned (.int .i64 (f 1)) ∧ w' = w) := by rw [f1]; exact refLess8_any _ _
  have H2 : Hid (∀ w, Calls Tryz.prog 82 #[.int .i64 a.src, .int .i64 b.src] w fun e w' => e = .returned (.int .i64 (f 2)) ∧ w' = w) := by rw [f2]; exact refLess8_any _ _
  have H3 : Hid (∀ w, Calls Tryz.prog 82 #[.int .i64 a.n, .int .i64 b.n] w fun e w' => e = .returned (.int .i64 (f 3)) ∧ w' = w) := by rw [f3]; exact refLess8_any _ _
  have H4 : Hid (∀ w, Calls Tryz.prog 82 #[.int .i64 a.pay, .int .i64 b.pay] w fun e w' => e = .returned (.int .i64 (f 4)) ∧ w' = w) := by rw [f4]; exact refLess8_any _ _
  clear f0 f1 f2 f3 f4 hf
  generalize hu : (w.alloc (.cells #[.float .f64 a.t, .int .i64 a.src, .int .i64 a.n, .int .i64 a.dst, .int .i64 a.pay] 41)).alloc (.cells #[.float .f64 b.t, .int .i64 b.src, .int .i64 b.n, .int .i64 b.dst, .int .i64 b.pay] 41) = u at *
  go_enter Tryz.func60, Tryz.ntmps60
  go_upto_region 1 with fail
  try rw [hu]
  clear hu
  have XA : Hid (u.drew.heap[w.heap.size]? = some (.cells #[.float .f64 a.t, .int .i64 a.src, .int .i64 a.n, .int .i64 a.dst, .int .i64 a.pay] 41)) := X1.out
  have XB : Hid (u.drew.heap[w.heap.size + 1]? = some (.cells #[.float .f64 b.t, .int .i64 b.src, .int .i64 b.n, .int .i64 b.dst, .int .i64 b.pay] 41)) := X2.out
  have L0 := Lib.hid B1.out.drew
  obtain ⟨x0, x1, x2, x3, x4⟩ := five_cells8 XA.out
  obtain ⟨y0, y1, y2, y3, y4⟩ := five_cells8 XB.out
  have ss : (fun w' => w'.cell? ⟨w.heap.size, 0, none⟩ = some (.float .f64 a.t) ∧ w'.cell? ⟨w.heap.size, 1, none⟩ = some (.int .i64 a.src) ∧ w'.cell? ⟨w.heap.size, 2, none⟩ = some (.int .i64 a.n) ∧ w'.cell? ⟨w.heap.size, 3, none⟩ = some (.int .i64 a.dst) ∧ w'.cell? ⟨w.heap.size, 4, none⟩ = some (.int .i64 a.pay) ∧ w'.cell? ⟨w.heap.size + 1, 0, none⟩ = some (.float .f64 b.t) ∧ w'.cell? ⟨w.heap.size + 1, 1, none⟩ = some (.int .i64 b.src) ∧ w'.cell? ⟨w.heap.size + 1, 2, none⟩ = some (.int .i64 b.n) ∧ w'.cell? ⟨w.heap.size + 1, 3, none⟩ = some (.int .i64 b.dst) ∧ w'.cell? ⟨w.heap.size + 1, 4, none⟩ = some (.int .i64 b.pay)) u.drew := ⟨x0, x1, x2, x3, x4, y0, y1, y2, y3, y4⟩
  clear x0 x1 x2 x3 x4 y0 y1 y2 y3 y4 X1 X2 B1
  refine wp_region_held_drew (S := (fun w' => w'.cell? ⟨w.heap.size, 0, none⟩ = some (.float .f64 a.t) ∧ w'.cell? ⟨w.heap.size, 1, none⟩ = some (.int .i64 a.src) ∧ w'.cell? ⟨w.heap.size, 2, none⟩ = some (.int .i64 a.n) ∧ w'.cell? ⟨w.heap.size, 3, none⟩ = some (.int .i64 a.dst) ∧ w'.cell? ⟨w.heap.size, 4, none⟩ = some (.int .i64 a.pay) ∧ w'.cell? ⟨w.heap.size + 1, 0, none⟩ = some (.float .f64 b.t) ∧ w'.cell? ⟨w.heap.size + 1, 1, none⟩ = some (.int .i64 b.src) ∧ w'.cell? ⟨w.heap.size + 1, 2, none⟩ = some (.int .i64 b.n) ∧ w'.cell? ⟨w.heap.size + 1, 3, none⟩ = some (.int .i64 b.dst) ∧ w'.cell? ⟨w.heap.size + 1, 4, none⟩ = some (.int .i64 b.pay))) (by kernel_rfl) ?_ (fun hHeld => ?_)
  · exact ss
  change wpAnyH _ _ _ _ _ _ _ _ (World.drew u)
  generalize u.drew = u0 at *
  first | refine tq0 0 rfl ?_ | refine tq1 0 rfl ?_
  try go_frame
  first | refine tq0 1 rfl ?_ | refine tq1 1 rfl ?_
  try go_frame
  first | refine tq0 2 rfl ?_ | refine tq1 2 rfl ?_
  try go_frame
  first | refine tq0 3 rfl ?_ | refine tq1 3 rfl ?_
  try go_frame
  first | refine tq0 4 rfl ?_ | refine tq1 4 rfl ?_
  try go_frame
  first | refine tq0 5 rfl ?_ | refine tq1 5 rfl ?_
  try go_frame
  first | refine tq0 7 rfl ?_ | refine tq1 7 rfl ?_
  try go_frame
  first | refine tq0 8 rfl ?_ | refine tq1 8 rfl ?_
  try go_frame
  first | refine tq0 9 rfl ?_ | refine tq1 9 rfl ?_
  try go_frame
  first | refine tq0 10 rfl ?_ | refine tq1 10 rfl ?_
  try go_frame
  first | refine tq0 12 rfl ?_ | refine tq1 12 rfl ?_
  try go_frame
  first | refine tq0 13 rfl ?_ | refine tq1 13 rfl ?_
  try go_frame
  first | refine tq0 14 rfl ?_ | refine tq1 14 rfl ?_
  try go_frame
  first | refine tq0 15 rfl ?_ | refine tq1 15 rfl ?_
  try go_frame
  first | refine tq0 16 rfl ?_ | refine tq1 16 rfl ?_
  try go_frame
  first | refine tq0 17 rfl ?_ | refine tq1 17 rfl ?_
  try go_frame
  first | refine tq0 19 rfl ?_ | refine tq1 19 rfl ?_
  try go_frame
  first | refine tq0 20 rfl ?_ | refine tq1 20 rfl ?_
  try go_frame
  first | refine tq0 21 rfl ?_ | refine tq1 21 rfl ?_
  try go_frame
  first | refine tq0 22 rfl ?_ | refine tq1 22 rfl ?_
  try go_frame
  first | refine tq0 23 rfl ?_ | refine tq1 23 rfl ?_
  try go_frame
  first | refine tq0 24 rfl ?_ | refine tq1 24 rfl ?_
  try go_frame
  first | refine tq0 26 rfl ?_ | refine tq1 26 rfl ?_
  try go_frame
  first | refine tq0 27 rfl ?_ | refine tq1 27 rfl ?_
  try go_frame
  first | refine tq0 28 rfl ?_ | refine tq1 28 rfl ?_
  try go_frame
  first | refine tq0 29 rfl ?_ | refine tq1 29 rfl ?_
  try go_frame
  refine wpAnyH_ready (rs := [6]) (by kernel_rfl) (by simp) ?_
  refine AllReadyH.cons (o := ⟨_, _, _, _, _, _⟩) rfl (fun K hK => ?_) AllReadyH.nil
  go_simp
  go_at_call 81
  refine (HT.out _).mono ?_
  rintro e w1 ⟨rfl, hw1⟩
  subst w1
  refine hK.out _ _ ?_ (fun hHeld => ?_)
  · exact hHeld
  clear hK K
  try go_frame
  refine wpAnyH_ready (rs := [11]) (by kernel_rfl) (by simp) ?_
  refine AllReadyH.cons (o := ⟨_, _, _, _, _, _⟩) rfl (fun K hK => ?_) AllReadyH.nil
  go_simp
  go_at_call 82
  refine (H1.out _).mono ?_
  rintro e w1 ⟨rfl, hw1⟩
  subst w1
  refine hK.out _ _ ?_ (fun hHeld => ?_)
  · exact hHeld
  clear hK K
  try go_frame
  refine wpAnyH_ready (rs := [18]) (by kernel_rfl) (by simp) ?_
  refine AllReadyH.cons (o := ⟨_, _, _, _, _, _⟩) rfl (fun K hK => ?_) AllReadyH.nil
  go_simp
  go_at_call 82
  refine (H2.out _).mono ?_
  rintro e w1 ⟨rfl, hw1⟩
  subst w1
  refine hK.out _ _ ?_ (fun hHeld => ?_)
  · exact hHeld
  clear hK K
  try go_frame
  refine wpAnyH_ready (rs := [25]) (by kernel_rfl) (by simp) ?_
  refine AllReadyH.cons (o := ⟨_, _, _, _, _, _⟩) rfl (fun K hK => ?_) AllReadyH.nil
  go_simp
  go_at_call 82
  refine (H3.out _).mono ?_
  rintro e w1 ⟨rfl, hw1⟩
  subst w1
  refine hK.out _ _ ?_ (fun hHeld => ?_)
  · exact hHeld
  clear hK K
  try go_frame
  refine wpAnyH_ready (rs := [30]) (by kernel_rfl) (by simp) ?_
  refine AllReadyH.cons (o := ⟨_, _, _, _, _, _⟩) rfl (fun K hK => ?_) AllReadyH.nil
  go_simp
  go_at_call 82
  refine (H4.out _).mono ?_
  rintro e w1 ⟨rfl, hw1⟩
  subst w1
  refine hK.out _ _ ?_ (fun hHeld => ?_)
  · exact hHeld
  clear hK K
  try go_frame
  refine wpAnyH_ready (rs := [31]) (by kernel_rfl) (by simp) ?_
  refine AllReadyH.cons (o := ⟨_, _, _, _, _, _⟩) rfl (fun K hK => ?_) AllReadyH.nil
  go_simp
  have XC := Lib.hid (heap_alloc_new u0 (.cells #[.int .i64 (f 0), .int .i64 (f 1), .int .i64 (f 2), .int .i64 (f 3), .int .i64 (f 4)] 3))
  have LC := Lib.hid (L0.out.trans ((balloc u0 (.cells #[.int .i64 (f 0), .int .i64 (f 1), .int .i64 (f 2), .int .i64 (f 3), .int .i64 (f 4)] 3)).mono L0.out.size))
  obtain ⟨x0, x1, x2, x3, x4⟩ := five_cells8 ((Below.heap_alloc u0 (.cells #[.int .i64 (f 0), .int .i64 (f 1), .int .i64 (f 2), .int .i64 (f 3), .int .i64 (f 4)] 3) _ (lt_of_block XA.out)).trans XA.out)
  obtain ⟨y0, y1, y2, y3, y4⟩ := five_cells8 ((Below.heap_alloc u0 (.cells #[.int .i64 (f 0), .int .i64 (f 1), .int .i64 (f 2), .int .i64 (f 3), .int .i64 (f 4)] 3) _ (lt_of_block XB.out)).trans XB.out)
  have ss1 : (fun w' => w'.cell? ⟨w.heap.size, 0, none⟩ = some (.float .f64 a.t) ∧ w'.cell? ⟨w.heap.size, 1, none⟩ = some (.int .i64 a.src) ∧ w'.cell? ⟨w.heap.size, 2, none⟩ = some (.int .i64 a.n) ∧ w'.cell? ⟨w.heap.size, 3, none⟩ = some (.int .i64 a.dst) ∧ w'.cell? ⟨w.heap.size, 4, none⟩ = some (.int .i64 a.pay) ∧ w'.cell? ⟨w.heap.size + 1, 0, none⟩ = some (.float .f64 b.t) ∧ w'.cell? ⟨w.heap.size + 1, 1, none⟩ = some (.int .i64 b.src) ∧ w'.cell? ⟨w.heap.size + 1, 2, none⟩ = some (.int .i64 b.n) ∧ w'.cell? ⟨w.heap.size + 1, 3, none⟩ = some (.int .i64 b.dst) ∧ w'.cell? ⟨w.heap.size + 1, 4, none⟩ = some (.int .i64 b.pay)) (u0.alloc (.cells #[.int .i64 (f 0), .int .i64 (f 1), .int .i64 (f 2), .int .i64 (f 3), .int .i64 (f 4)] 3)) := ⟨x0, x1, x2, x3, x4, y0, y1, y2, y3, y4⟩
  clear x0 x1 x2 x3 x4 y0 y1 y2 y3 y4 ss
  refine hK.out _ _ ?_ (fun hHeld => ?_)
  · exact ss1
  clear hK K
  try go_frame
  clear ss1
  first | refine tq0 32 rfl ?_ | refine tq1 32 rfl ?_
  try go_frame
  refine wpAnyH_done (by kernel_rfl) ?_ _
  generalize u0.alloc (.cells #[.int .i64 (f 0), .int .i64 (f 1), .int .i64 (f 2), .int .i64 (f 3), .int .i64 (f 4)] 3) = u1 at *
  generalize u0.heap.size = lb at *
  have XL : Hid (∀ i, i < 5 → u1.cell? ⟨lb, i, none⟩ = some (.int .i64 (f i))) := fun i hi => by
    rw [Lib.cell_of_heap XC.out]
    have hc : i = 0 ∨ i = 1 ∨ i = 2 ∨ i = 3 ∨ i = 4 := by omega
    rcases hc with rfl | rfl | rfl | rfl | rfl <;> rfl
  clear hHeld
  go_wp2_with fail
  go_loopw [6] (fun x wr => ∃ j : Nat, j ≤ 5 ∧ x = .int .i64 j ∧ (∀ i, i < j → f i = 0) ∧ wr = u1) (fun x _ => 5 - (intOf x).toNat)
  case atStart => exact ⟨0, Nat.zero_le _, rfl, fun i hi => absurd hi (Nat.not_lt_zero i), rfl⟩
  case round =>
    obtain ⟨j, hj, rfl, hz, hw⟩ := hrel
    subst wr
    have HZ := Lib.hid hz
    clear hz
    by_cases hlt : j < 5
    · have cj := XL.out j hlt
      have hj2 : (j : Int) < 5 := by omega
      have hj0 : (0 : Int) ≤ (j : Int) := by omega
      have hjt : ((j : Nat) : Int).toNat = j := by omega
      by_cases h0 : f j = 0
      · have H0 := Lib.hid h0
        rw [h0] at cj
        clear h0
        go_wp2_with fail
        go_roundw
        case rel =>
          refine ⟨j + 1, by omega, by go_num, fun i hi => ?_, trivial⟩
          rcases Nat.lt_succ_iff_lt_or_eq.1 hi with h | h
          · exact HZ.out i h
          · rw [h]; exact H0.out
        case measure => simp [intOf]; omega
      · have d0 : (f j != 0) = true := by simp [h0]
        have e1 : res = f j := by rw [E.out]; exact firstNZ_at hlt HZ.out h0
        subst e1
        clear h0 E
        go_wp2_with fail
        go_ret
        exact ⟨rfl, LC.out⟩
    · obtain rfl : j = 5 := by omega
      have e1 : res = 0 := by rw [E.out]; exact firstNZ_none HZ.out
      subst e1
      clear E
      go_wp2_with fail
      go_ret
      exact ⟨rfl, LC.out⟩

end Go.Proofs.YthkfaeplmmlnlaaGreat
