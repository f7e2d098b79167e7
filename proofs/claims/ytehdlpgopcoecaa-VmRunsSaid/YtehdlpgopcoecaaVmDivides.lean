/- The law VmDivides, over whatever the program's Run is known to answer. -/
import Derived.Test.YtehdlpgopcoecaaVmDivMath
namespace Go.Proofs.Ytehdlpgopcoecaa
open Go.RowKit
set_option linter.unusedVariables false
set_option maxRecDepth 100000

theorem dvP_b {a b : Int} (ha : r64v a) (hb : r64v b) (k : Nat) : r64v (dvP a b k).b := by
  unfold dvP
  repeat' split
  all_goals first | exact ha | exact hb | (unfold r64v; decide)
set_option maxHeartbeats 3200000 in
theorem vmDivides_zero (HR : Hid RunAny) (a b : Int) (ha : r64v a) (hb : r64v b) (h0 : b = 0) (w : World) :
    Calls Try.prog 7 #[.int .i64 a, .int .i64 b] w fun e w' => e = .returned (.bool true) ∧ Below w.heap.size w w' := by
  have HAW : Hid (∀ w, Calls Try.prog 9 #[] w fun e w' => e = .returned (.bool true) ∧ Below w.heap.size w w') := fun w => awake7_any HR w
  have H1 : Hid (∀ u vp vI, Sl 4 (gI (dvP a b)) 8 vp u → Sl 1 (gW dvI.w) 2 vI u → Calls Try.prog 10 #[vp, .agg #[vI, .int .i64 0, .int .i64 0, .int .i64 1, .int .i64 0, .int .i64 0]] u fun e w' => ∃ aw nw cw az nz cz d, e = .returned (.tuple #[.agg #[.slice aw nw cw, .slice az nz cz, .int .i64 d, .int .i64 2], .int .i64 0]) ∧ Below u.heap.size u w') := by
    show ∀ u vp vI, _
    intro u vp vI h1 h2
    refine (HR.out (dvP a b) 8 vp dvI vI u h1 h2 (bd_begin (by unfold r64v; decide) (by unfold r64v; decide) (by unfold r64v; decide) (by decide) (fun _ => by show r64v 0; unfold r64v; decide)) (dvP_b ha hb)).mono ?_
    rintro e w' ⟨aw, cw, az, cz, rfl, _, hbl⟩
    rw [dv_may]
    have := dv_zero a
    rw [← h0] at this
    rw [this]
    exact ⟨aw, _, cw, az, _, cz, _, rfl, hbl⟩
  have A1 := Lib.hid (heap_alloc_new w (.cells #[.int .i64 1, .int .i64 4, .int .i64 a, .int .i64 0, .int .i64 1, .int .i64 5, .int .i64 b, .int .i64 0, .int .i64 6, .int .i64 6, .int .i64 4, .int .i64 5, .int .i64 7, .int .i64 7, .int .i64 4, .int .i64 5, .int .i64 1, .int .i64 4, .int .i64 0, .int .i64 0, .int .i64 14, .int .i64 4, .int .i64 6, .int .i64 0, .int .i64 1, .int .i64 4, .int .i64 1, .int .i64 0, .int .i64 14, .int .i64 4, .int .i64 7, .int .i64 0] 45))
  have S1 := Lib.hid (sl_block (C := 4) (n := 8) (g := gI (dvP a b)) A1.out (by decide) (fun i hi j hj => by
    have : (i = 0 ∨ i = 1 ∨ i = 2 ∨ i = 3 ∨ i = 4 ∨ i = 5 ∨ i = 6 ∨ i = 7) ∧ (j = 0 ∨ j = 1 ∨ j = 2 ∨ j = 3) := by omega
    obtain ⟨rfl | rfl | rfl | rfl | rfl | rfl | rfl | rfl, rfl | rfl | rfl | rfl⟩ := this <;> rfl))
  have B1 := Lib.hid (balloc w (.cells #[.int .i64 1, .int .i64 4, .int .i64 a, .int .i64 0, .int .i64 1, .int .i64 5, .int .i64 b, .int .i64 0, .int .i64 6, .int .i64 6, .int .i64 4, .int .i64 5, .int .i64 7, .int .i64 7, .int .i64 4, .int .i64 5, .int .i64 1, .int .i64 4, .int .i64 0, .int .i64 0, .int .i64 14, .int .i64 4, .int .i64 6, .int .i64 0, .int .i64 1, .int .i64 4, .int .i64 1, .int .i64 0, .int .i64 14, .int .i64 4, .int .i64 7, .int .i64 0] 45))
  clear A1
  have d0 : (b == 0) = true := by simp [h0]
  clear h0 ha hb
  go_enter Try.func7, Try.ntmps7
  go_upto_region 2 with fail
  generalize w.alloc (.cells #[.int .i64 1, .int .i64 4, .int .i64 a, .int .i64 0, .int .i64 1, .int .i64 5, .int .i64 b, .int .i64 0, .int .i64 6, .int .i64 6, .int .i64 4, .int .i64 5, .int .i64 7, .int .i64 7, .int .i64 4, .int .i64 5, .int .i64 1, .int .i64 4, .int .i64 0, .int .i64 0, .int .i64 14, .int .i64 4, .int .i64 6, .int .i64 0, .int .i64 1, .int .i64 4, .int .i64 1, .int .i64 0, .int .i64 14, .int .i64 4, .int .i64 7, .int .i64 0] 45) = u1 at *
  have S2 := Lib.hid (S1.out.below (balloc u1 (.cells #[.int .i64 0, .int .i64 0] 3)))
  have T2 := Lib.hid (sl_block (C := 1) (n := 2) (g := gW dvI.w) (heap_alloc_new u1 (.cells #[.int .i64 0, .int .i64 0] 3)) (by decide) (fun i hi j hj => by
    have : (i = 0 ∨ i = 1) ∧ j = 0 := by omega
    obtain ⟨rfl | rfl, rfl⟩ := this <;> rfl))
  have B2 := Lib.hid (bthen B1.out (balloc u1 (.cells #[.int .i64 0, .int .i64 0] 3)))
  go_wp2_with fail
  refine (H1.out _ _ _ S2.out T2.out).mono ?_
  rintro e w3 ⟨aw, nw, cw, az, nz, cz, d, rfl, hb3⟩
  have B4 := Lib.hid (bthen (bthen B2.out hb3) (balloc w3 (.cells #[.slice aw nw cw, .slice az nz cz, .int .i64 d, .int .i64 2] 30)))
  have Y4 := Lib.hid (heap_alloc_new w3 (.cells #[.slice aw nw cw, .slice az nz cz, .int .i64 d, .int .i64 2] 30))
  clear hb3
  go_upto_region 3 with fail
  generalize w3.alloc (.cells #[.slice aw nw cw, .slice az nz cz, .int .i64 d, .int .i64 2] 30) = u3 at *
  generalize w3.heap.size = xb at *
  go_wp2_with (go_at_call 9; refine (HAW.out _).mono ?_; rintro e w5 ⟨rfl, hb5⟩; have B5 := Lib.hid (bthen B4.out hb5); obtain ⟨y0, y1, y2, y3⟩ := four_cells ((hb5.block _ (lt_of_block Y4.out)).trans Y4.out); clear hb5)
  go_ret
  exact ⟨rfl, B5.out⟩

set_option maxHeartbeats 3200000 in
theorem vmDivides_some (HR : Hid RunAny) (a b : Int) (ha : r64v a) (hb : r64v b) (h0 : b ≠ 0) (w : World) :
    Calls Try.prog 7 #[.int .i64 a, .int .i64 b] w fun e w' => e = .returned (.bool true) ∧ Below w.heap.size w w' := by
  have HAW : Hid (∀ w, Calls Try.prog 9 #[] w fun e w' => e = .returned (.bool true) ∧ Below w.heap.size w w') := fun w => awake7_any HR w
  have H1 : Hid (∀ u vp vI, Sl 4 (gI (dvP a b)) 8 vp u → Sl 1 (gW dvI.w) 2 vI u → Calls Try.prog 10 #[vp, .agg #[vI, .int .i64 0, .int .i64 0, .int .i64 1, .int .i64 0, .int .i64 0]] u fun e w' => ∃ p o cw az nz cz d, e = .returned (.tuple #[.agg #[.slice (some ⟨p, o, none⟩) 2 cw, .slice az nz cz, .int .i64 d, .int .i64 0], .int .i64 0]) ∧ w'.cell? ⟨p, o, none⟩ = some (.int .i64 (quotQ a b)) ∧ w'.cell? ⟨p, o + 1, none⟩ = some (.int .i64 (quotR a b)) ∧ Below u.heap.size u w') := by
    show ∀ u vp vI, _
    intro u vp vI h1 h2
    refine (HR.out (dvP a b) 8 vp dvI vI u h1 h2 (bd_begin (by unfold r64v; decide) (by unfold r64v; decide) (by unfold r64v; decide) (by decide) (fun _ => by show r64v 0; unfold r64v; decide)) (dvP_b ha hb)).mono ?_
    rintro e w' ⟨aw, cw, az, cz, rfl, ho, hbl⟩
    obtain ⟨q1, q2, q3, q4⟩ := dv_good a b h0
    obtain ⟨_, _, _, _, e9, hs, _⟩ := ho.sl
    simp only [Value.agg.injEq, Array.mk.injEq, List.cons.injEq, Value.slice.injEq, true_and, and_true] at e9
    obtain ⟨⟨rfl, rfl⟩, _⟩ := e9
    rw [q2] at hs ⊢
    obtain ⟨a2, c2, e2, _, _, k1⟩ := hs
    simp only [Value.slice.injEq, true_and] at e2
    obtain ⟨rfl, rfl⟩ := e2
    obtain ⟨p, o, rfl, hat⟩ := k1 (by omega)
    have hc := hat.2 0 (by omega) 0 (by omega)
    have hd := hat.2 1 (by omega) 0 (by omega)
    simp only [gW, q3] at hc
    simp only [gW, q4] at hd
    rw [dv_may, q1]
    exact ⟨p, o, cw, az, _, cz, _, rfl, hc, hd, hbl⟩
  have hq := quot_back (b := b) ha
  have hsg : quotR a b = 0 ∨ decide (quotR a b < 0) = decide (a < 0) := by
    by_cases h : quotR a b = 0
    · exact .inl h
    · exact .inr (rest_sign ha h)
  have A1 := Lib.hid (heap_alloc_new w (.cells #[.int .i64 1, .int .i64 4, .int .i64 a, .int .i64 0, .int .i64 1, .int .i64 5, .int .i64 b, .int .i64 0, .int .i64 6, .int .i64 6, .int .i64 4, .int .i64 5, .int .i64 7, .int .i64 7, .int .i64 4, .int .i64 5, .int .i64 1, .int .i64 4, .int .i64 0, .int .i64 0, .int .i64 14, .int .i64 4, .int .i64 6, .int .i64 0, .int .i64 1, .int .i64 4, .int .i64 1, .int .i64 0, .int .i64 14, .int .i64 4, .int .i64 7, .int .i64 0] 45))
  have S1 := Lib.hid (sl_block (C := 4) (n := 8) (g := gI (dvP a b)) A1.out (by decide) (fun i hi j hj => by
    have : (i = 0 ∨ i = 1 ∨ i = 2 ∨ i = 3 ∨ i = 4 ∨ i = 5 ∨ i = 6 ∨ i = 7) ∧ (j = 0 ∨ j = 1 ∨ j = 2 ∨ j = 3) := by omega
    obtain ⟨rfl | rfl | rfl | rfl | rfl | rfl | rfl | rfl, rfl | rfl | rfl | rfl⟩ := this <;> rfl))
  have B1 := Lib.hid (balloc w (.cells #[.int .i64 1, .int .i64 4, .int .i64 a, .int .i64 0, .int .i64 1, .int .i64 5, .int .i64 b, .int .i64 0, .int .i64 6, .int .i64 6, .int .i64 4, .int .i64 5, .int .i64 7, .int .i64 7, .int .i64 4, .int .i64 5, .int .i64 1, .int .i64 4, .int .i64 0, .int .i64 0, .int .i64 14, .int .i64 4, .int .i64 6, .int .i64 0, .int .i64 1, .int .i64 4, .int .i64 1, .int .i64 0, .int .i64 14, .int .i64 4, .int .i64 7, .int .i64 0] 45))
  clear A1
  have d0 : (b == 0) = false := by simp [h0]
  generalize quotQ a b = q at *
  have hrr : quotR a b = wrap64 (a.tmod b) := rfl
  rw [hrr] at H1 hq hsg
  go_enter Try.func7, Try.ntmps7
  go_upto_region 2 with fail
  generalize w.alloc (.cells #[.int .i64 1, .int .i64 4, .int .i64 a, .int .i64 0, .int .i64 1, .int .i64 5, .int .i64 b, .int .i64 0, .int .i64 6, .int .i64 6, .int .i64 4, .int .i64 5, .int .i64 7, .int .i64 7, .int .i64 4, .int .i64 5, .int .i64 1, .int .i64 4, .int .i64 0, .int .i64 0, .int .i64 14, .int .i64 4, .int .i64 6, .int .i64 0, .int .i64 1, .int .i64 4, .int .i64 1, .int .i64 0, .int .i64 14, .int .i64 4, .int .i64 7, .int .i64 0] 45) = u1 at *
  have S2 := Lib.hid (S1.out.below (balloc u1 (.cells #[.int .i64 0, .int .i64 0] 3)))
  have T2 := Lib.hid (sl_block (C := 1) (n := 2) (g := gW dvI.w) (heap_alloc_new u1 (.cells #[.int .i64 0, .int .i64 0] 3)) (by decide) (fun i hi j hj => by
    have : (i = 0 ∨ i = 1) ∧ j = 0 := by omega
    obtain ⟨rfl | rfl, rfl⟩ := this <;> rfl))
  have B2 := Lib.hid (bthen B1.out (balloc u1 (.cells #[.int .i64 0, .int .i64 0] 3)))
  go_wp2_with fail
  refine (H1.out _ _ _ S2.out T2.out).mono ?_
  rintro e w3 ⟨p, o, cw, az, nz, cz, d, rfl, hc3, hd3, hb3⟩
  have B4 := Lib.hid (bthen (bthen B2.out hb3) (balloc w3 (.cells #[.slice (some ⟨p, o, none⟩) 2 cw, .slice az nz cz, .int .i64 d, .int .i64 0] 30)))
  have Y4 := Lib.hid (heap_alloc_new w3 (.cells #[.slice (some ⟨p, o, none⟩) 2 cw, .slice az nz cz, .int .i64 d, .int .i64 0] 30))
  have C4 := ((balloc w3 (.cells #[.slice (some ⟨p, o, none⟩) 2 cw, .slice az nz cz, .int .i64 d, .int .i64 0] 30)).cell (p := ⟨p, o, none⟩) (World.block_lt_of_cell? w3 _ hc3)).trans hc3
  have D4 := ((balloc w3 (.cells #[.slice (some ⟨p, o, none⟩) 2 cw, .slice az nz cz, .int .i64 d, .int .i64 0] 30)).cell (p := ⟨p, o + 1, none⟩) (World.block_lt_of_cell? w3 _ hd3)).trans hd3
  clear hb3 hc3 hd3
  go_upto_region 3 with fail
  generalize w3.alloc (.cells #[.slice (some ⟨p, o, none⟩) 2 cw, .slice az nz cz, .int .i64 d, .int .i64 0] 30) = u3 at *
  generalize w3.heap.size = xb at *
  obtain ⟨y0, y1, y2, y3⟩ := four_cells Y4.out
  go_upto_region 7 with fail
  go_region
  clear S1 S2 T2 C4 D4 y0 y1 y2 y3 H1
  go_upto_region 8 with fail
  have k1 : (wrap64 (wrap64 (q * b) + wrap64 (a.tmod b)) == a) = true := by simp [hq]
  have k2 : (wrap64 (a.tmod b) == a.tmod b) = true := by have := quotR_tmod (b := b) ha; rw [hrr] at this; simp [this]
  clear hq hrr
  by_cases z : wrap64 (a.tmod b) = 0
  · have k3 : (wrap64 (a.tmod b) == 0) = true := by simp [z]
    clear z hsg
    by_cases m : b = -1
    · have k4 : (b == -1) = true := by simp [m]
      clear m ha hb
      go_wp2_with (go_at_call 9; refine (HAW.out _).mono ?_; rintro e w5 ⟨rfl, hb5⟩; have B5 := Lib.hid (bthen (B4.out.drew) hb5); clear hb5)
      go_ret
      exact ⟨rfl, B5.out⟩
    · have k4 : (b == -1) = false := by simp [m]
      clear m ha hb
      go_wp2_with (go_at_call 9; refine (HAW.out _).mono ?_; rintro e w5 ⟨rfl, hb5⟩; have B5 := Lib.hid (bthen (B4.out.drew) hb5); clear hb5)
      go_ret
      exact ⟨rfl, B5.out⟩
  · have k3 : (wrap64 (a.tmod b) == 0) = false := by simp [z]
    have k5 : (decide (wrap64 (a.tmod b) < 0) == decide (a < 0)) = true := by
      rcases hsg with h | h
      · exact absurd h z
      · simp [h]
    clear z hsg
    by_cases m : b = -1
    · have k4 : (b == -1) = true := by simp [m]
      clear m ha hb
      go_wp2_with (go_at_call 9; refine (HAW.out _).mono ?_; rintro e w5 ⟨rfl, hb5⟩; have B5 := Lib.hid (bthen (B4.out.drew) hb5); clear hb5)
      go_ret
      exact ⟨rfl, B5.out⟩
    · have k4 : (b == -1) = false := by simp [m]
      clear m ha hb
      go_wp2_with (go_at_call 9; refine (HAW.out _).mono ?_; rintro e w5 ⟨rfl, hb5⟩; have B5 := Lib.hid (bthen (B4.out.drew) hb5); clear hb5)
      go_ret
      exact ⟨rfl, B5.out⟩

end Go.Proofs.Ytehdlpgopcoecaa
