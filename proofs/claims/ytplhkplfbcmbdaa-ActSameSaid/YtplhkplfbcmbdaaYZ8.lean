/- The contract of the document's Ints, at any two lists. The contracts of the document's less, Compare, delay, First, Same (of states). The contract of the document's own Same of stamps, at two that are the same. -/
import Derived.WalkKit
import Derived.WalkSpells
import Derived.WalkLawsBesides
import Derived.Lib.Hide
import Derived.WalkSmall
import Derived.BigQuiet
import Derived.Deep.QuietTactic
import Derived.Test.YtplhkplfbcmbdaaYZ1
import Derived.Test.YtplhkplfbcmbdaaYZ3
import Derived.Test.YtplhkplfbcmbdaaYZ7
namespace Go.Proofs.Ytplhkplfbcmbdaa
open Go.RowKit
set_option linter.unusedVariables false

set_option maxHeartbeats 1600000 in
theorem ints5_any (f g : Nat → Int) (n m : Nat) (v1 v2 : Value) (w : World) (h1 : Sl 1 (gW f) n v1 w) (h2 : Sl 1 (gW g) m v2 w) :
    Calls Try.prog 25 #[v1, v2] w fun e w' => e = .returned (.bool (sameW f g n m)) ∧ Below w.heap.size w w' := by
  obtain ⟨a1, c1, rfl, l1, m1, k1⟩ := h1
  obtain ⟨a2, c2, rfl, l2, m2, k2⟩ := h2
  have K1 := Lib.hid k1
  have K2 := Lib.hid k2
  clear k1 k2
  have E : Hid (sameW f g n m = (decide (n = m) && allN (fun i => decide (f i = g i)) n)) := rfl
  have EP : Hid (∀ i, (fun i => decide (f i = g i)) i = decide (f i = g i)) := fun i => rfl
  generalize sameW f g n m = s at *
  generalize (fun i => decide (f i = g i)) = p at *
  go_enter Try.func25, Try.ntmps25
  by_cases hnm : n = m
  · subst hnm
    have E2 : Hid (s = allN p n) := by show _ = _; rw [E.out]; simp
    clear E
    go_wp2_with fail
    go_loopw [5] (fun i wr => ∃ j : Nat, j ≤ n ∧ i = .int .i64 j ∧ allN p j = true ∧ Below w.heap.size w wr) (fun i _ => n - (intOf i).toNat)
    case atStart => exact ⟨0, by omega, rfl, rfl, Below.refl _ _⟩
    case round =>
      obtain ⟨j, hj, rfl, hall, hl⟩ := hrel
      have HL := Lib.hid hl
      have HAll := Lib.hid hall
      clear hall
      by_cases hlt : j < n
      · obtain ⟨b1, o1, rfl, hA1⟩ := K1.out (by omega)
        obtain ⟨b2, o2, rfl, hA2⟩ := K2.out (by omega)
        have hj2 : (j : Int) < (n : Int) := by omega
        have hj0 : (0 : Int) ≤ (j : Int) := by omega
        have y1 := (hA1.below hl).one j hlt
        have y2 := (hA2.below hl).one j hlt
        dsimp only [gW] at y1 y2
        have e := EP.out j
        generalize f j = x at y1 e
        generalize g j = y at y2 e
        clear hl hA1 hA2
        by_cases hxy : x = y
        · have hz : (x != y) = false := by simpa using hxy
          have HP : Hid (p j = true) := by show _ = _; rw [e]; simp [hxy]
          clear e hxy
          go_wp2_with fail
          refine wp_region_held_drew (S := (fun w' => w'.cell? ⟨b1, o1 + j, none⟩ = some (.int .i64 x) ∧ w'.cell? ⟨b2, o2 + j, none⟩ = some (.int .i64 y))) (by kernel_rfl) ?_ (fun hHeld => ?_)
          · exact ⟨y1, y2⟩
          first
            | refine tk0 0 (oi := ⟨_, _, _, _, _, _⟩) rfl ?_
            | refine tk1 0 (oi := ⟨_, _, _, _, _, _⟩) (v := ?_) rfl ?_ ?_; rotate_left; · (intro w5 hSw; (try dsimp only at hSw); go_simp; (try with_reducible rfl))
          try simp only [Act.put, List.setIfInBounds_toArray, List.set_cons_zero, List.set_cons_succ]
          first
            | refine tk0 1 (oi := ⟨_, _, _, _, _, _⟩) rfl ?_
            | refine tk1 1 (oi := ⟨_, _, _, _, _, _⟩) (v := ?_) rfl ?_ ?_; rotate_left; · (intro w5 hSw; (try dsimp only at hSw); go_simp; (try with_reducible rfl))
          try simp only [Act.put, List.setIfInBounds_toArray, List.set_cons_zero, List.set_cons_succ]
          first
            | refine tk0 2 (oi := ⟨_, _, _, _, _, _⟩) rfl ?_
            | refine tk1 2 (oi := ⟨_, _, _, _, _, _⟩) (v := ?_) rfl ?_ ?_; rotate_left; · (intro w5 hSw; (try dsimp only at hSw); go_simp; (try with_reducible rfl))
          try simp only [Act.put, List.setIfInBounds_toArray, List.set_cons_zero, List.set_cons_succ]
          first
            | refine tk0 3 (oi := ⟨_, _, _, _, _, _⟩) rfl ?_
            | refine tk1 3 (oi := ⟨_, _, _, _, _, _⟩) (v := ?_) rfl ?_ ?_; rotate_left; · (intro w5 hSw; (try dsimp only at hSw); go_simp; (try with_reducible rfl))
          try simp only [Act.put, List.setIfInBounds_toArray, List.set_cons_zero, List.set_cons_succ]
          first
            | refine tk0 4 (oi := ⟨_, _, _, _, _, _⟩) rfl ?_
            | refine tk1 4 (oi := ⟨_, _, _, _, _, _⟩) (v := ?_) rfl ?_ ?_; rotate_left; · (intro w5 hSw; (try dsimp only at hSw); go_simp; (try with_reducible rfl))
          try simp only [Act.put, List.setIfInBounds_toArray, List.set_cons_zero, List.set_cons_succ]
          first
            | refine tk0 5 (oi := ⟨_, _, _, _, _, _⟩) rfl ?_
            | refine tk1 5 (oi := ⟨_, _, _, _, _, _⟩) (v := ?_) rfl ?_ ?_; rotate_left; · (intro w5 hSw; (try dsimp only at hSw); go_simp; (try with_reducible rfl))
          try simp only [Act.put, List.setIfInBounds_toArray, List.set_cons_zero, List.set_cons_succ]
          first
            | refine tk0 6 (oi := ⟨_, _, _, _, _, _⟩) rfl ?_
            | refine tk1 6 (oi := ⟨_, _, _, _, _, _⟩) (v := ?_) rfl ?_ ?_; rotate_left; · (intro w5 hSw; (try dsimp only at hSw); go_simp; (try with_reducible rfl))
          try simp only [Act.put, List.setIfInBounds_toArray, List.set_cons_zero, List.set_cons_succ]
          first
            | refine tk0 7 (oi := ⟨_, _, _, _, _, _⟩) rfl ?_
            | refine tk1 7 (oi := ⟨_, _, _, _, _, _⟩) (v := ?_) rfl ?_ ?_; rotate_left; · (intro w5 hSw; (try dsimp only at hSw); go_simp; (try with_reducible rfl))
          try simp only [Act.put, List.setIfInBounds_toArray, List.set_cons_zero, List.set_cons_succ]
          first
            | refine tk0 8 (oi := ⟨_, _, _, _, _, _⟩) rfl ?_
            | refine tk1 8 (oi := ⟨_, _, _, _, _, _⟩) (v := ?_) rfl ?_ ?_; rotate_left; · (intro w5 hSw; (try dsimp only at hSw); go_simp; (try with_reducible rfl))
          try simp only [Act.put, List.setIfInBounds_toArray, List.set_cons_zero, List.set_cons_succ]
          refine wpAnyH_done (by kernel_rfl) ?_ _
          go_wp2_with fail
          go_roundw
          case rel => exact ⟨j + 1, by omega, by go_num, allN_step HAll.out HP.out, bthen HL.out (bdrew _)⟩
          case measure => simp [intOf]; omega
        · have hz : (x != y) = true := by simpa using hxy
          have HP : Hid (p j = false) := by show _ = _; rw [e]; simp [hxy]
          clear e hxy
          go_wp2_with fail
          refine wp_region_held_drew (S := (fun w' => w'.cell? ⟨b1, o1 + j, none⟩ = some (.int .i64 x) ∧ w'.cell? ⟨b2, o2 + j, none⟩ = some (.int .i64 y))) (by kernel_rfl) ?_ (fun hHeld => ?_)
          · exact ⟨y1, y2⟩
          first
            | refine tk0 0 (oi := ⟨_, _, _, _, _, _⟩) rfl ?_
            | refine tk1 0 (oi := ⟨_, _, _, _, _, _⟩) (v := ?_) rfl ?_ ?_; rotate_left; · (intro w5 hSw; (try dsimp only at hSw); go_simp; (try with_reducible rfl))
          try simp only [Act.put, List.setIfInBounds_toArray, List.set_cons_zero, List.set_cons_succ]
          first
            | refine tk0 1 (oi := ⟨_, _, _, _, _, _⟩) rfl ?_
            | refine tk1 1 (oi := ⟨_, _, _, _, _, _⟩) (v := ?_) rfl ?_ ?_; rotate_left; · (intro w5 hSw; (try dsimp only at hSw); go_simp; (try with_reducible rfl))
          try simp only [Act.put, List.setIfInBounds_toArray, List.set_cons_zero, List.set_cons_succ]
          first
            | refine tk0 2 (oi := ⟨_, _, _, _, _, _⟩) rfl ?_
            | refine tk1 2 (oi := ⟨_, _, _, _, _, _⟩) (v := ?_) rfl ?_ ?_; rotate_left; · (intro w5 hSw; (try dsimp only at hSw); go_simp; (try with_reducible rfl))
          try simp only [Act.put, List.setIfInBounds_toArray, List.set_cons_zero, List.set_cons_succ]
          first
            | refine tk0 3 (oi := ⟨_, _, _, _, _, _⟩) rfl ?_
            | refine tk1 3 (oi := ⟨_, _, _, _, _, _⟩) (v := ?_) rfl ?_ ?_; rotate_left; · (intro w5 hSw; (try dsimp only at hSw); go_simp; (try with_reducible rfl))
          try simp only [Act.put, List.setIfInBounds_toArray, List.set_cons_zero, List.set_cons_succ]
          first
            | refine tk0 4 (oi := ⟨_, _, _, _, _, _⟩) rfl ?_
            | refine tk1 4 (oi := ⟨_, _, _, _, _, _⟩) (v := ?_) rfl ?_ ?_; rotate_left; · (intro w5 hSw; (try dsimp only at hSw); go_simp; (try with_reducible rfl))
          try simp only [Act.put, List.setIfInBounds_toArray, List.set_cons_zero, List.set_cons_succ]
          first
            | refine tk0 5 (oi := ⟨_, _, _, _, _, _⟩) rfl ?_
            | refine tk1 5 (oi := ⟨_, _, _, _, _, _⟩) (v := ?_) rfl ?_ ?_; rotate_left; · (intro w5 hSw; (try dsimp only at hSw); go_simp; (try with_reducible rfl))
          try simp only [Act.put, List.setIfInBounds_toArray, List.set_cons_zero, List.set_cons_succ]
          first
            | refine tk0 6 (oi := ⟨_, _, _, _, _, _⟩) rfl ?_
            | refine tk1 6 (oi := ⟨_, _, _, _, _, _⟩) (v := ?_) rfl ?_ ?_; rotate_left; · (intro w5 hSw; (try dsimp only at hSw); go_simp; (try with_reducible rfl))
          try simp only [Act.put, List.setIfInBounds_toArray, List.set_cons_zero, List.set_cons_succ]
          first
            | refine tk0 7 (oi := ⟨_, _, _, _, _, _⟩) rfl ?_
            | refine tk1 7 (oi := ⟨_, _, _, _, _, _⟩) (v := ?_) rfl ?_ ?_; rotate_left; · (intro w5 hSw; (try dsimp only at hSw); go_simp; (try with_reducible rfl))
          try simp only [Act.put, List.setIfInBounds_toArray, List.set_cons_zero, List.set_cons_succ]
          first
            | refine tk0 8 (oi := ⟨_, _, _, _, _, _⟩) rfl ?_
            | refine tk1 8 (oi := ⟨_, _, _, _, _, _⟩) (v := ?_) rfl ?_ ?_; rotate_left; · (intro w5 hSw; (try dsimp only at hSw); go_simp; (try with_reducible rfl))
          try simp only [Act.put, List.setIfInBounds_toArray, List.set_cons_zero, List.set_cons_succ]
          refine wpAnyH_done (by kernel_rfl) ?_ _
          go_wp2_with fail
          go_ret
          exact ⟨by rw [E2.out, allN_false hlt HP.out]; rfl, bthen HL.out (bdrew _)⟩
      · obtain rfl : n = j := by omega
        clear hl
        go_wp2_with fail
        go_ret
        exact ⟨by rw [E2.out, HAll.out]; rfl, HL.out⟩
  · have hz : ((n : Int) != (m : Int)) = true := by simp; omega
    have E2 : Hid (s = false) := by show _ = _; rw [E.out]; simp [hnm]
    clear E hnm
    go_wp2_with fail
    go_ret
    exact ⟨by rw [E2.out]; rfl, Below.refl _ _⟩

end Go.Proofs.Ytplhkplfbcmbdaa
namespace Go.Proofs.Ytplhkplfbcmbdaa
open Go.RowKit Go.Deep
set_option linter.unusedVariables false
set_option maxRecDepth 100000

theorem three_cells8 {W : World} {B : Nat} {c0 c1 c2 : Value} {T : TypeId} (h : W.heap[B]? = some (.cells #[c0, c1, c2] T (0, 0))) :
    W.cell? ⟨B, 0, none⟩ = some c0 ∧ W.cell? ⟨B, 1, none⟩ = some c1 ∧ W.cell? ⟨B, 2, none⟩ = some c2 := by
  refine ⟨?_, ?_, ?_⟩ <;> (rw [Lib.cell_of_heap h]; rfl)
def signI (a b : Int) : Int := if a < b then -1 else if b < a then 1 else 0
theorem refLess8_any (a b : Int) (w : World) : Calls Try.prog 46 #[.int .i64 a, .int .i64 b] w fun e w' => e = .returned (.int .i64 (signI a b)) ∧ w' = w := by
  by_cases h : a < b
  · have d0 : decide (a < b) = true := by simp [h]
    have e1 : signI a b = -1 := if_pos h
    rw [e1]
    clear h e1
    go_enter Try.func46, Try.ntmps46
    go_wp2_with fail
    go_ret
    exact ⟨rfl, rfl⟩
  · have d0 : decide (a < b) = false := by simp [h]
    by_cases h2 : b < a
    · have d1 : decide (b < a) = true := by simp [h2]
      have e1 : signI a b = 1 := by unfold signI; rw [if_neg h, if_pos h2]
      rw [e1]
      clear h h2 e1
      go_enter Try.func46, Try.ntmps46
      go_wp2_with fail
      go_ret
      exact ⟨rfl, rfl⟩
    · have d1 : decide (b < a) = false := by simp [h2]
      have e1 : signI a b = 0 := by unfold signI; rw [if_neg h, if_neg h2]
      rw [e1]
      clear h h2 e1
      go_enter Try.func46, Try.ntmps46
      go_wp2_with fail
      go_ret
      exact ⟨rfl, rfl⟩

theorem dly_mod {nd : Nat} (h : 0 < nd) (n : Int) : (n.tmod nd < 0 → n.tmod nd + nd = ((dlyN nd n : Nat) : Int)) ∧ (¬ n.tmod nd < 0 → n.tmod nd = ((dlyN nd n : Nat) : Int)) ∧ dlyN nd n < nd := by
  have hp : (0 : Int) < nd := by omega
  have h1 := Int.emod_nonneg n (show (nd : Int) ≠ 0 by omega)
  have h2 := Int.emod_lt_of_pos n hp
  have key : (n.tmod nd < 0 → n.tmod nd + nd = n % nd) ∧ (¬ n.tmod nd < 0 → n.tmod nd = n % nd) := by
    by_cases hn : 0 ≤ n
    · have h3 := Int.tmod_eq_emod_of_nonneg (b := (nd : Int)) hn
      rw [h3]
      exact ⟨fun h => absurd h1 (by omega), fun _ => rfl⟩
    · have h3 : (-n).tmod nd = (-n) % nd := Int.tmod_eq_emod_of_nonneg (by omega)
      rw [Int.neg_tmod] at h3
      have h4 := Int.emod_nonneg (-n) (show (nd : Int) ≠ 0 by omega)
      have h5 := Int.emod_lt_of_pos (-n) hp
      have h6 : (n.tmod nd) % nd = n % nd := by rw [Int.tmod_def, Int.sub_mul_emod_self_left]
      constructor
      · intro hlt
        rw [← h6, ← Int.add_emod_right]
        exact (Int.emod_eq_of_lt (by omega) (by omega)).symm
      · intro hge
        have h8 : n.tmod nd = 0 := by omega
        rw [← h6, h8]; simp
  unfold dlyN
  refine ⟨fun h => ?_, fun h => ?_, by omega⟩
  · rw [key.1 h]; omega
  · rw [key.2 h]; omega

theorem refDelay_any (m : Mdl) (vd vp vl vi : Value) (n : Int) (w : World) (hd : Sl 1 (gF m.d) m.nd vd w) (h0 : 0 < m.nd) (h8 : m.nd ≤ 8) :
    Calls Try.prog 41 #[mval m vd vp vl vi, .int .i64 n] w fun e w' => e = .returned (.float .f64 (m.d (dlyN m.nd n))) ∧ Below w.heap.size w w' := by
  obtain ⟨ad, cd, rfl, hcd, hcd2, hat⟩ := hd
  obtain ⟨b, o, rfl, hA⟩ := hat h0
  obtain ⟨k1, k2, k3⟩ := dly_mod h0 n
  unfold mval
  have X1 := Lib.hid (heap_alloc_new w (.cells #[.int .i64 m.seed, .float .f64 m.fin, .slice (some ⟨b, o, none⟩) m.nd cd, vp, vl, vi] 28))
  have B1 := Lib.hid (balloc w (.cells #[.int .i64 m.seed, .float .f64 m.fin, .slice (some ⟨b, o, none⟩) m.nd cd, vp, vl, vi] 28))
  have c0 := (hA.below B1.out).one (dlyN m.nd n) k3
  simp only [gF] at c0
  clear hA hat
  generalize hk : dlyN m.nd n = k at *
  clear hk
  obtain ⟨n0, n1, n2, n3, n4, n5⟩ := six_cells7 X1.out
  have e0 : ((m.nd : Int) == 0) = false := by simp; omega
  have bk : ((k : Nat) : Int) < (m.nd : Int) := by omega
  have lk : (0 : Int) ≤ ((k : Nat) : Int) := by omega
  have tk : ((k : Nat) : Int).toNat = k := by omega
  generalize hu : w.alloc (.cells #[.int .i64 m.seed, .float .f64 m.fin, .slice (some ⟨b, o, none⟩) m.nd cd, vp, vl, vi] 28) = u at *
  go_enter Try.func41, Try.ntmps41
  go_upto_region 1 with fail
  try rw [hu]
  clear hu
  by_cases hq : n.tmod m.nd < 0
  · have d0 : decide (n.tmod m.nd < 0) = true := by simp [hq]
    have k1 := k1 hq
    have l2 : -9223372036854775808 ≤ n.tmod m.nd + m.nd := by omega
    have l3 : n.tmod m.nd + m.nd ≤ 9223372036854775807 := by omega
    have l4 : wrap64 (n.tmod m.nd + m.nd) = (k : Int) := by rw [k1]; unfold wrap64; omega
    clear k2 hq
    go_upto_region 4 with fail
    clear k1 d0 l2 l3 l4
    go_wp2_with fail
    go_ret
    exact ⟨rfl, B1.out⟩
  · have d0 : decide (n.tmod m.nd < 0) = false := by simp [hq]
    have k2 := k2 hq
    clear k1 hq
    go_upto_region 4 with fail
    clear k2 d0
    go_wp2_with fail
    go_ret
    exact ⟨rfl, B1.out⟩

set_option maxHeartbeats 1600000 in
theorem refSame8_any (a b : Sta) (va vb : Value) (w : World) (ha : Sl 1 (gW a.w) a.nw va w) (hb : Sl 1 (gW b.w) b.nw vb w) :
    Calls Try.prog 17 #[sval a va, sval b vb] w fun e w' => e = .returned (.bool (sameW a.w b.w a.nw b.nw && decide (a.sent = b.sent) && decide (a.dice = b.dice))) ∧ Below w.heap.size w w' := by
  unfold sval
  have B1 := Lib.hid (bthen (balloc w (.cells #[va, .int .i64 a.sent, .int .i64 a.dice] 37)) (balloc _ (.cells #[vb, .int .i64 b.sent, .int .i64 b.dice] 37)))
  have X1 : ((w.alloc (.cells #[va, .int .i64 a.sent, .int .i64 a.dice] 37)).alloc (.cells #[vb, .int .i64 b.sent, .int .i64 b.dice] 37)).heap[w.heap.size]? = some (.cells #[va, .int .i64 a.sent, .int .i64 a.dice] 37) := (Below.heap_alloc _ _ _ (by rw [World.size_alloc]; omega)).trans (heap_alloc_new w _)
  have X2 : ((w.alloc (.cells #[va, .int .i64 a.sent, .int .i64 a.dice] 37)).alloc (.cells #[vb, .int .i64 b.sent, .int .i64 b.dice] 37)).heap[w.heap.size + 1]? = some (.cells #[vb, .int .i64 b.sent, .int .i64 b.dice] 37) := by
    have := heap_alloc_new (w.alloc (.cells #[va, .int .i64 a.sent, .int .i64 a.dice] 37)) (.cells #[vb, .int .i64 b.sent, .int .i64 b.dice] 37)
    rwa [World.size_alloc] at this
  have HIN := Lib.hid (ints5_any a.w b.w a.nw b.nw va vb _ (ha.below B1.out) (hb.below B1.out))
  have HX := Lib.hid X1
  have HY := Lib.hid X2
  obtain ⟨x0, x1, x2⟩ := three_cells8 X1
  obtain ⟨y0, y1, y2⟩ := three_cells8 X2
  clear X1 X2 ha hb
  obtain ⟨res, hres⟩ : ∃ res, res = (sameW a.w b.w a.nw b.nw && decide (a.sent = b.sent) && decide (a.dice = b.dice)) := ⟨_, rfl⟩
  rw [← hres]
  have E := Lib.hid hres
  clear hres
  generalize sameW a.w b.w a.nw b.nw = sw at *
  generalize hu : (w.alloc (.cells #[va, .int .i64 a.sent, .int .i64 a.dice] 37)).alloc (.cells #[vb, .int .i64 b.sent, .int .i64 b.dice] 37) = u at *
  go_enter Try.func17, Try.ntmps17
  go_upto_region 1 with fail
  try rw [hu]
  clear hu
  cases sw with
  | false =>
    obtain rfl : res = false := E.out
    clear E
    go_wp2_with (go_at_call 25; refine HIN.out.mono ?_; rintro e u2 ⟨rfl, hb2⟩; have B2 := Lib.hid (bthen B1.out hb2); clear hb2)
    go_ret
    exact ⟨rfl, B2.out⟩
  | true =>
    by_cases h1 : a.sent = b.sent
    · have d1 : (a.sent == b.sent) = true := by simp [h1]
      by_cases h2 : a.dice = b.dice
      · have d2 : (a.dice == b.dice) = true := by simp [h2]
        obtain rfl : res = true := by rw [E.out, decide_eq_true h1, decide_eq_true h2]; rfl
        clear h1 h2 E
        go_wp2_with (go_at_call 25; refine HIN.out.mono ?_; rintro e u2 ⟨rfl, hb2⟩; have B2 := Lib.hid (bthen B1.out hb2); obtain ⟨x0, x1, x2⟩ := three_cells8 ((hb2.block _ (lt_of_block HX.out)).trans HX.out); obtain ⟨y0, y1, y2⟩ := three_cells8 ((hb2.block _ (lt_of_block HY.out)).trans HY.out); clear hb2)
        go_ret
        exact ⟨rfl, B2.out⟩
      · have d2 : (a.dice == b.dice) = false := by simp [h2]
        obtain rfl : res = false := by rw [E.out, decide_eq_true h1, decide_eq_false h2]; rfl
        clear h1 h2 E
        go_wp2_with (go_at_call 25; refine HIN.out.mono ?_; rintro e u2 ⟨rfl, hb2⟩; have B2 := Lib.hid (bthen B1.out hb2); obtain ⟨x0, x1, x2⟩ := three_cells8 ((hb2.block _ (lt_of_block HX.out)).trans HX.out); obtain ⟨y0, y1, y2⟩ := three_cells8 ((hb2.block _ (lt_of_block HY.out)).trans HY.out); clear hb2)
        go_ret
        exact ⟨rfl, B2.out⟩
    · have d1 : (a.sent == b.sent) = false := by simp [h1]
      obtain rfl : res = false := by rw [E.out, decide_eq_false h1]; rfl
      clear h1 E
      go_wp2_with (go_at_call 25; refine HIN.out.mono ?_; rintro e u2 ⟨rfl, hb2⟩; have B2 := Lib.hid (bthen B1.out hb2); obtain ⟨x0, x1, x2⟩ := three_cells8 ((hb2.block _ (lt_of_block HX.out)).trans HX.out); obtain ⟨y0, y1, y2⟩ := three_cells8 ((hb2.block _ (lt_of_block HY.out)).trans HY.out); clear hb2)
      go_ret
      exact ⟨rfl, B2.out⟩

end Go.Proofs.Ytplhkplfbcmbdaa
namespace Go.Proofs.Ytplhkplfbcmbdaa
open Go.RowKit
set_option linter.unusedVariables false
set_option maxRecDepth 100000

theorem same2_any (t : Nat) (y z : Int) (w : World) :
    Calls Try.prog 32 #[.agg #[.float .f64 t, .int .i64 y, .int .i64 z], .agg #[.float .f64 t, .int .i64 y, .int .i64 z]] w fun e w' => e = .returned (.bool true) ∧ Below w.heap.size w w' := by
  have hb := floatbits_run t
  have g1 : ((t : Int) == (t : Int)) = true := by simp
  have g2 : (y == y) = true := by simp
  have g3 : (z == z) = true := by simp
  have HW : Hid (Below w.heap.size w ((w.alloc (.cells #[.float .f64 t, .int .i64 y, .int .i64 z] 47)).alloc (.cells #[.float .f64 t, .int .i64 y, .int .i64 z] 47))) := (balloc _ _).alloc (by simp) _
  go_enter Try.func32, Try.ntmps32
  go_wp2_with fail
  go_quiet (fail)
  go_wp2_with fail
  go_ret
  exact ⟨rfl, bdrewN HW.out nq⟩

end Go.Proofs.Ytplhkplfbcmbdaa
