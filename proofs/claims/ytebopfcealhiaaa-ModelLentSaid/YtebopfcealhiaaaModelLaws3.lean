/- The walk of the law ModelCopies. -/
import Derived.Test.YtebopfcealhiaaaModelAwake
import Derived.Test.YtebopfcealhiaaaModelRefSame
import Derived.Test.YtebopfcealhiaaaModelLight
import Derived.Test.YtebopfcealhiaaaModelCopy3
namespace Go.Proofs.Ytebopfcealhiaaa
open Go.RowKit
set_option linter.unusedVariables false

theorem mdl_slices {m : Mdl} {a b c d : Value} {W : World} (h : MdlAt m a b c d W) : (∃ p n k, a = .slice p n k) ∧ (∃ p n k, b = .slice p n k) ∧ (∃ p n k, c = .slice p n k) ∧ (∃ p n k, d = .slice p n k) := by
  obtain ⟨⟨p1, k1, e1, _⟩, ⟨g2, ⟨p2, k2, e2, _⟩, _⟩, ⟨g3, ⟨p3, k3, e3, _⟩, _⟩, ⟨p4, k4, e4, _⟩⟩ := h
  exact ⟨⟨p1, _, k1, e1⟩, ⟨p2, _, k2, e2⟩, ⟨p3, _, k3, e3⟩, ⟨p4, _, k4, e4⟩⟩
theorem small_of_light {m : Mdl} (h : lightB m = true) : Small m := by
  unfold lightB at h
  simp only [Bool.and_eq_true, decide_eq_true_eq, allN_iff] at h
  obtain ⟨⟨⟨⟨h1, h2⟩, h3⟩, h4⟩, h5, h6⟩ := h
  exact ⟨by omega, by omega, by omega, by omega, fun i hi => by have := h5 i hi; omega, fun i hi => by have := h6 i hi; omega⟩

set_option maxHeartbeats 3200000 in
theorem modelCopies_heavy (seed : Int) (fin : Nat) (vd vp vl vi : Value) (w : World)
    (HL : Hid (∀ w2, Below w.heap.size w w2 → Calls Try.prog 9 #[.agg #[.int .i64 seed, .float .f64 fin, vd, vp, vl, vi]] w2 fun e w' => e = .returned (.bool false) ∧ Below w2.heap.size w2 w')) :
    Calls Try.prog 5 #[.agg #[.int .i64 seed, .float .f64 fin, vd, vp, vl, vi]] w fun e w' => e = .returned (.bool true) ∧ Below w.heap.size w w' := by
  have HA := Lib.hid (balloc w (.cells #[.int .i64 seed, .float .f64 fin, vd, vp, vl, vi] 28))
  go_enter Try.func5, Try.ntmps5
  go_wp2_with fail
  refine (HL.out _ HA.out).mono ?_
  rintro e w1 ⟨rfl, hb1⟩
  have HB1 := Lib.hid (bthen HA.out hb1)
  clear hb1
  go_wp2_with fail
  refine (awake5_any _).mono ?_
  rintro e w2 ⟨rfl, hb2⟩
  go_wp2_with fail
  go_ret
  exact ⟨rfl, bthen HB1.out hb2⟩

set_option maxHeartbeats 1600000 in
theorem modelCopies_core (seed : Int) (fin : Nat) (vd vp vl vi : Value) (ck : Int) (Q : Value → Value → Value → Value → World → Prop) (w : World) (HSh : Hid (∀ a b c d W, Q a b c d W → (∃ p n k, a = .slice p n k) ∧ (∃ p n k, b = .slice p n k) ∧ (∃ p n k, c = .slice p n k) ∧ (∃ p n k, d = .slice p n k)))
    (HL : Hid (∀ w2, Below w.heap.size w w2 → Calls Try.prog 9 #[.agg #[.int .i64 seed, .float .f64 fin, vd, vp, vl, vi]] w2 fun e w' => e = .returned (.bool true) ∧ Below w2.heap.size w2 w'))
    (HCp : Hid (∀ w2, Below w.heap.size w w2 → Calls Try.prog 14 #[.agg #[.int .i64 seed, .float .f64 fin, vd, vp, vl, vi]] w2 fun e w' => ∃ a b c d, e = .returned (.agg #[.int .i64 seed, .float .f64 fin, a, b, c, d]) ∧ Q a b c d w' ∧ Below w2.heap.size w2 w'))
    (H1 : Hid (∀ a b c d w' w4, Q a b c d w' → Below w'.heap.size w' w4 → Below w.heap.size w w4 → Calls Try.prog 15 #[.agg #[.int .i64 seed, .float .f64 fin, a, b, c, d], .agg #[.int .i64 seed, .float .f64 fin, vd, vp, vl, vi]] w4 fun e w' => e = .returned (.bool true) ∧ Below w4.heap.size w4 w'))
    (H2 : Hid (∀ a b c d w' w4, Q a b c d w' → Below w'.heap.size w' w4 → Below w.heap.size w w4 → Calls Try.prog 16 #[.agg #[.int .i64 seed, .float .f64 fin, a, b, c, d], .agg #[.int .i64 seed, .float .f64 fin, vd, vp, vl, vi]] w4 fun e w' => e = .returned (.bool true) ∧ Below w4.heap.size w4 w'))
    (H3 : Hid (∀ a b c d w' w4, Q a b c d w' → Below w'.heap.size w' w4 → Below w.heap.size w w4 → Calls Try.prog 10 #[.agg #[.int .i64 seed, .float .f64 fin, a, b, c, d]] w4 fun e w' => e = .returned (.int .i64 ck) ∧ Below w4.heap.size w4 w'))
    (H4 : Hid (∀ a b c d w' w4, Q a b c d w' → Below w'.heap.size w' w4 → Below w.heap.size w w4 → Calls Try.prog 10 #[.agg #[.int .i64 seed, .float .f64 fin, vd, vp, vl, vi]] w4 fun e w' => e = .returned (.int .i64 ck) ∧ Below w4.heap.size w4 w')) :
    Calls Try.prog 5 #[.agg #[.int .i64 seed, .float .f64 fin, vd, vp, vl, vi]] w fun e w' => e = .returned (.bool true) ∧ Below w.heap.size w w' := by
  have HA := Lib.hid (balloc w (.cells #[.int .i64 seed, .float .f64 fin, vd, vp, vl, vi] 28))
  have HX := Lib.hid (Box6.new (.int .i64 seed) (.float .f64 fin) vd vp vl vi 28 w)
  have hsf := store_float
  go_enter Try.func5, Try.ntmps5
  go_wp2_with fail
  refine (HL.out _ HA.out).mono ?_
  rintro e w1 ⟨rfl, hb1⟩
  obtain ⟨_, x0, x1, x2, x3, x4, x5⟩ := HX.out.below hb1
  have HX1 := Lib.hid (HX.out.below hb1)
  have HB1 := Lib.hid (bthen HA.out hb1)
  clear hb1
  go_wp2_with fail
  refine (HCp.out _ HB1.out).mono ?_
  rintro e w2 ⟨vd', vp', vl', vi', rfl, hn2, hb2⟩
  obtain ⟨⟨z1, n1, k1, rfl⟩, ⟨z2, n2, k2, rfl⟩, ⟨z3, n3, k3, rfl⟩, ⟨z4, n4, k4, rfl⟩⟩ := HSh.out _ _ _ _ _ hn2
  have HX3 := Lib.hid ((HX1.out.below hb2).below (balloc w2 (.cells #[.int .i64 seed, .float .f64 fin, .slice z1 n1 k1, .slice z2 n2 k2, .slice z3 n3 k3, .slice z4 n4 k4] 28)))
  have HY3 := Lib.hid (Box6.new (.int .i64 seed) (.float .f64 fin) (.slice z1 n1 k1) (.slice z2 n2 k2) (.slice z3 n3 k3) (.slice z4 n4 k4) 28 w2)
  have HB3 := Lib.hid (bthen (bthen HB1.out hb2) (balloc w2 (.cells #[.int .i64 seed, .float .f64 fin, .slice z1 n1 k1, .slice z2 n2 k2, .slice z3 n3 k3, .slice z4 n4 k4] 28)))
  have HBa := Lib.hid (balloc w2 (.cells #[.int .i64 seed, .float .f64 fin, .slice z1 n1 k1, .slice z2 n2 k2, .slice z3 n3 k3, .slice z4 n4 k4] 28))
  have HQ := Lib.hid hn2
  clear x0 x1 x2 x3 x4 x5 hn2 hb2 HX HX1
  obtain ⟨_, x0, x1, x2, x3, x4, x5⟩ := HX3.out
  obtain ⟨_, y0, y1, y2, y3, y4, y5⟩ := HY3.out
  have HBc := Lib.hid (bdrew (w2.alloc (.cells #[.int .i64 seed, .float .f64 fin, .slice z1 n1 k1, .slice z2 n2 k2, .slice z3 n3 k3, .slice z4 n4 k4] 28)))
  go_wp2_with fail
  refine wp_region_held_drew (S := (fun w' => (w'.cell? ⟨w.heap.size, 0, none⟩ = some (.int .i64 seed) ∧ w'.cell? ⟨w.heap.size, 1, none⟩ = some (.float .f64 fin) ∧ w'.cell? ⟨w.heap.size, 2, none⟩ = some (vd) ∧ w'.cell? ⟨w.heap.size, 3, none⟩ = some (vp) ∧ w'.cell? ⟨w.heap.size, 4, none⟩ = some (vl) ∧ w'.cell? ⟨w.heap.size, 5, none⟩ = some (vi)) ∧ w'.cell? ⟨w2.heap.size, 0, none⟩ = some (.int .i64 seed) ∧ w'.cell? ⟨w2.heap.size, 1, none⟩ = some (.float .f64 fin) ∧ w'.cell? ⟨w2.heap.size, 2, none⟩ = some (.slice z1 n1 k1) ∧ w'.cell? ⟨w2.heap.size, 3, none⟩ = some (.slice z2 n2 k2) ∧ w'.cell? ⟨w2.heap.size, 4, none⟩ = some (.slice z3 n3 k3) ∧ w'.cell? ⟨w2.heap.size, 5, none⟩ = some (.slice z4 n4 k4))) (by kernel_rfl) ?_ (fun hHeld => ?_)
  · exact ⟨⟨x0, x1, x2, x3, x4, x5⟩, y0, y1, y2, y3, y4, y5⟩
  refine wpAnyH_ready (rs := [0]) (by kernel_rfl) (by simp) ?_
  refine AllReadyH.cons (o := ⟨_, _, _, _, _, _⟩) rfl (fun K hK => ?_) AllReadyH.nil
  go_simp
  go_at_call 8
  refine (awake5_any _).mono ?_
  rintro e wn ⟨rfl, hb⟩
  replace HBc := Lib.hid (bthen HBc.out hb)
  clear hb
  obtain ⟨_, p0, p1, p2, p3, p4, p5⟩ := HX3.out.below HBc.out
  obtain ⟨_, q0, q1, q2, q3, q4, q5⟩ := HY3.out.below HBc.out
  refine hK.out _ _ ?_ (fun hHeld => ?_)
  · exact ⟨⟨p0, p1, p2, p3, p4, p5⟩, q0, q1, q2, q3, q4, q5⟩
  clear hK K
  try simp only [Act.put, List.setIfInBounds_toArray, List.set_cons_zero, List.set_cons_succ]
  first
    | (refine wpAnyH_take (i := 1) (oi := ⟨_, _, _, _, _, _⟩) (v := undef) rfl (by kernel_rfl) (by kernel_rfl) (by kernel_rfl) (fun _ _ _ h => h) (Or.inr ⟨by rfl, rfl⟩) (by assumption) ?_
       try simp only [Act.put, List.setIfInBounds_toArray, List.set_cons_zero, List.set_cons_succ])
    | (refine wpAnyH_take (i := 1) (oi := ⟨_, _, _, _, _, _⟩) (v := ?_) rfl (by kernel_rfl) (by kernel_rfl) (by kernel_rfl) (fun _ _ _ h => h) (Or.inl ⟨by rfl, ?_⟩) (by assumption) ?_
       rotate_left
       · intro w5 hSw
         try dsimp only at hSw
         go_simp
         try with_reducible rfl
       try simp only [Act.put, List.setIfInBounds_toArray, List.set_cons_zero, List.set_cons_succ])
  first
    | (refine wpAnyH_take (i := 2) (oi := ⟨_, _, _, _, _, _⟩) (v := undef) rfl (by kernel_rfl) (by kernel_rfl) (by kernel_rfl) (fun _ _ _ h => h) (Or.inr ⟨by rfl, rfl⟩) (by assumption) ?_
       try simp only [Act.put, List.setIfInBounds_toArray, List.set_cons_zero, List.set_cons_succ])
    | (refine wpAnyH_take (i := 2) (oi := ⟨_, _, _, _, _, _⟩) (v := ?_) rfl (by kernel_rfl) (by kernel_rfl) (by kernel_rfl) (fun _ _ _ h => h) (Or.inl ⟨by rfl, ?_⟩) (by assumption) ?_
       rotate_left
       · intro w5 hSw
         try dsimp only at hSw
         go_simp
         try with_reducible rfl
       try simp only [Act.put, List.setIfInBounds_toArray, List.set_cons_zero, List.set_cons_succ])
  first
    | (refine wpAnyH_take (i := 3) (oi := ⟨_, _, _, _, _, _⟩) (v := undef) rfl (by kernel_rfl) (by kernel_rfl) (by kernel_rfl) (fun _ _ _ h => h) (Or.inr ⟨by rfl, rfl⟩) (by assumption) ?_
       try simp only [Act.put, List.setIfInBounds_toArray, List.set_cons_zero, List.set_cons_succ])
    | (refine wpAnyH_take (i := 3) (oi := ⟨_, _, _, _, _, _⟩) (v := ?_) rfl (by kernel_rfl) (by kernel_rfl) (by kernel_rfl) (fun _ _ _ h => h) (Or.inl ⟨by rfl, ?_⟩) (by assumption) ?_
       rotate_left
       · intro w5 hSw
         try dsimp only at hSw
         go_simp
         try with_reducible rfl
       try simp only [Act.put, List.setIfInBounds_toArray, List.set_cons_zero, List.set_cons_succ])
  refine wpAnyH_ready (rs := [4]) (by kernel_rfl) (by simp) ?_
  refine AllReadyH.cons (o := ⟨_, _, _, _, _, _⟩) rfl (fun K hK => ?_) AllReadyH.nil
  go_simp
  go_at_call 15
  refine (H1.out _ _ _ _ _ _ HQ.out (bthen HBa.out HBc.out) (bthen HB3.out HBc.out)).mono ?_
  rintro e wn ⟨rfl, hb⟩
  replace HBc := Lib.hid (bthen HBc.out hb)
  clear hb
  obtain ⟨_, p0, p1, p2, p3, p4, p5⟩ := HX3.out.below HBc.out
  obtain ⟨_, q0, q1, q2, q3, q4, q5⟩ := HY3.out.below HBc.out
  refine hK.out _ _ ?_ (fun hHeld => ?_)
  · exact ⟨⟨p0, p1, p2, p3, p4, p5⟩, q0, q1, q2, q3, q4, q5⟩
  clear hK K
  try simp only [Act.put, List.setIfInBounds_toArray, List.set_cons_zero, List.set_cons_succ]
  first
    | (refine wpAnyH_take (i := 5) (oi := ⟨_, _, _, _, _, _⟩) (v := undef) rfl (by kernel_rfl) (by kernel_rfl) (by kernel_rfl) (fun _ _ _ h => h) (Or.inr ⟨by rfl, rfl⟩) (by assumption) ?_
       try simp only [Act.put, List.setIfInBounds_toArray, List.set_cons_zero, List.set_cons_succ])
    | (refine wpAnyH_take (i := 5) (oi := ⟨_, _, _, _, _, _⟩) (v := ?_) rfl (by kernel_rfl) (by kernel_rfl) (by kernel_rfl) (fun _ _ _ h => h) (Or.inl ⟨by rfl, ?_⟩) (by assumption) ?_
       rotate_left
       · intro w5 hSw
         try dsimp only at hSw
         go_simp
         try with_reducible rfl
       try simp only [Act.put, List.setIfInBounds_toArray, List.set_cons_zero, List.set_cons_succ])
  first
    | (refine wpAnyH_take (i := 6) (oi := ⟨_, _, _, _, _, _⟩) (v := undef) rfl (by kernel_rfl) (by kernel_rfl) (by kernel_rfl) (fun _ _ _ h => h) (Or.inr ⟨by rfl, rfl⟩) (by assumption) ?_
       try simp only [Act.put, List.setIfInBounds_toArray, List.set_cons_zero, List.set_cons_succ])
    | (refine wpAnyH_take (i := 6) (oi := ⟨_, _, _, _, _, _⟩) (v := ?_) rfl (by kernel_rfl) (by kernel_rfl) (by kernel_rfl) (fun _ _ _ h => h) (Or.inl ⟨by rfl, ?_⟩) (by assumption) ?_
       rotate_left
       · intro w5 hSw
         try dsimp only at hSw
         go_simp
         try with_reducible rfl
       try simp only [Act.put, List.setIfInBounds_toArray, List.set_cons_zero, List.set_cons_succ])
  first
    | (refine wpAnyH_take (i := 7) (oi := ⟨_, _, _, _, _, _⟩) (v := undef) rfl (by kernel_rfl) (by kernel_rfl) (by kernel_rfl) (fun _ _ _ h => h) (Or.inr ⟨by rfl, rfl⟩) (by assumption) ?_
       try simp only [Act.put, List.setIfInBounds_toArray, List.set_cons_zero, List.set_cons_succ])
    | (refine wpAnyH_take (i := 7) (oi := ⟨_, _, _, _, _, _⟩) (v := ?_) rfl (by kernel_rfl) (by kernel_rfl) (by kernel_rfl) (fun _ _ _ h => h) (Or.inl ⟨by rfl, ?_⟩) (by assumption) ?_
       rotate_left
       · intro w5 hSw
         try dsimp only at hSw
         go_simp
         try with_reducible rfl
       try simp only [Act.put, List.setIfInBounds_toArray, List.set_cons_zero, List.set_cons_succ])
  first
    | (refine wpAnyH_take (i := 8) (oi := ⟨_, _, _, _, _, _⟩) (v := undef) rfl (by kernel_rfl) (by kernel_rfl) (by kernel_rfl) (fun _ _ _ h => h) (Or.inr ⟨by rfl, rfl⟩) (by assumption) ?_
       try simp only [Act.put, List.setIfInBounds_toArray, List.set_cons_zero, List.set_cons_succ])
    | (refine wpAnyH_take (i := 8) (oi := ⟨_, _, _, _, _, _⟩) (v := ?_) rfl (by kernel_rfl) (by kernel_rfl) (by kernel_rfl) (fun _ _ _ h => h) (Or.inl ⟨by rfl, ?_⟩) (by assumption) ?_
       rotate_left
       · intro w5 hSw
         try dsimp only at hSw
         go_simp
         try with_reducible rfl
       try simp only [Act.put, List.setIfInBounds_toArray, List.set_cons_zero, List.set_cons_succ])
  refine wpAnyH_ready (rs := [9]) (by kernel_rfl) (by simp) ?_
  refine AllReadyH.cons (o := ⟨_, _, _, _, _, _⟩) rfl (fun K hK => ?_) AllReadyH.nil
  go_simp
  go_at_call 16
  refine (H2.out _ _ _ _ _ _ HQ.out (bthen HBa.out HBc.out) (bthen HB3.out HBc.out)).mono ?_
  rintro e wn ⟨rfl, hb⟩
  replace HBc := Lib.hid (bthen HBc.out hb)
  clear hb
  obtain ⟨_, p0, p1, p2, p3, p4, p5⟩ := HX3.out.below HBc.out
  obtain ⟨_, q0, q1, q2, q3, q4, q5⟩ := HY3.out.below HBc.out
  refine hK.out _ _ ?_ (fun hHeld => ?_)
  · exact ⟨⟨p0, p1, p2, p3, p4, p5⟩, q0, q1, q2, q3, q4, q5⟩
  clear hK K
  try simp only [Act.put, List.setIfInBounds_toArray, List.set_cons_zero, List.set_cons_succ]
  first
    | (refine wpAnyH_take (i := 10) (oi := ⟨_, _, _, _, _, _⟩) (v := undef) rfl (by kernel_rfl) (by kernel_rfl) (by kernel_rfl) (fun _ _ _ h => h) (Or.inr ⟨by rfl, rfl⟩) (by assumption) ?_
       try simp only [Act.put, List.setIfInBounds_toArray, List.set_cons_zero, List.set_cons_succ])
    | (refine wpAnyH_take (i := 10) (oi := ⟨_, _, _, _, _, _⟩) (v := ?_) rfl (by kernel_rfl) (by kernel_rfl) (by kernel_rfl) (fun _ _ _ h => h) (Or.inl ⟨by rfl, ?_⟩) (by assumption) ?_
       rotate_left
       · intro w5 hSw
         try dsimp only at hSw
         go_simp
         try with_reducible rfl
       try simp only [Act.put, List.setIfInBounds_toArray, List.set_cons_zero, List.set_cons_succ])
  first
    | (refine wpAnyH_take (i := 11) (oi := ⟨_, _, _, _, _, _⟩) (v := undef) rfl (by kernel_rfl) (by kernel_rfl) (by kernel_rfl) (fun _ _ _ h => h) (Or.inr ⟨by rfl, rfl⟩) (by assumption) ?_
       try simp only [Act.put, List.setIfInBounds_toArray, List.set_cons_zero, List.set_cons_succ])
    | (refine wpAnyH_take (i := 11) (oi := ⟨_, _, _, _, _, _⟩) (v := ?_) rfl (by kernel_rfl) (by kernel_rfl) (by kernel_rfl) (fun _ _ _ h => h) (Or.inl ⟨by rfl, ?_⟩) (by assumption) ?_
       rotate_left
       · intro w5 hSw
         try dsimp only at hSw
         go_simp
         try with_reducible rfl
       try simp only [Act.put, List.setIfInBounds_toArray, List.set_cons_zero, List.set_cons_succ])
  first
    | (refine wpAnyH_take (i := 12) (oi := ⟨_, _, _, _, _, _⟩) (v := undef) rfl (by kernel_rfl) (by kernel_rfl) (by kernel_rfl) (fun _ _ _ h => h) (Or.inr ⟨by rfl, rfl⟩) (by assumption) ?_
       try simp only [Act.put, List.setIfInBounds_toArray, List.set_cons_zero, List.set_cons_succ])
    | (refine wpAnyH_take (i := 12) (oi := ⟨_, _, _, _, _, _⟩) (v := ?_) rfl (by kernel_rfl) (by kernel_rfl) (by kernel_rfl) (fun _ _ _ h => h) (Or.inl ⟨by rfl, ?_⟩) (by assumption) ?_
       rotate_left
       · intro w5 hSw
         try dsimp only at hSw
         go_simp
         try with_reducible rfl
       try simp only [Act.put, List.setIfInBounds_toArray, List.set_cons_zero, List.set_cons_succ])
  first
    | (refine wpAnyH_take (i := 14) (oi := ⟨_, _, _, _, _, _⟩) (v := undef) rfl (by kernel_rfl) (by kernel_rfl) (by kernel_rfl) (fun _ _ _ h => h) (Or.inr ⟨by rfl, rfl⟩) (by assumption) ?_
       try simp only [Act.put, List.setIfInBounds_toArray, List.set_cons_zero, List.set_cons_succ])
    | (refine wpAnyH_take (i := 14) (oi := ⟨_, _, _, _, _, _⟩) (v := ?_) rfl (by kernel_rfl) (by kernel_rfl) (by kernel_rfl) (fun _ _ _ h => h) (Or.inl ⟨by rfl, ?_⟩) (by assumption) ?_
       rotate_left
       · intro w5 hSw
         try dsimp only at hSw
         go_simp
         try with_reducible rfl
       try simp only [Act.put, List.setIfInBounds_toArray, List.set_cons_zero, List.set_cons_succ])
  refine wpAnyH_ready (rs := [13]) (by kernel_rfl) (by simp) ?_
  refine AllReadyH.cons (o := ⟨_, _, _, _, _, _⟩) rfl (fun K hK => ?_) AllReadyH.nil
  go_simp
  go_at_call 10
  refine (H3.out _ _ _ _ _ _ HQ.out (bthen HBa.out HBc.out) (bthen HB3.out HBc.out)).mono ?_
  rintro e wn ⟨rfl, hb⟩
  replace HBc := Lib.hid (bthen HBc.out hb)
  clear hb
  obtain ⟨_, p0, p1, p2, p3, p4, p5⟩ := HX3.out.below HBc.out
  obtain ⟨_, q0, q1, q2, q3, q4, q5⟩ := HY3.out.below HBc.out
  refine hK.out _ _ ?_ (fun hHeld => ?_)
  · exact ⟨⟨p0, p1, p2, p3, p4, p5⟩, q0, q1, q2, q3, q4, q5⟩
  clear hK K
  try simp only [Act.put, List.setIfInBounds_toArray, List.set_cons_zero, List.set_cons_succ]
  refine wpAnyH_ready (rs := [15]) (by kernel_rfl) (by simp) ?_
  refine AllReadyH.cons (o := ⟨_, _, _, _, _, _⟩) rfl (fun K hK => ?_) AllReadyH.nil
  go_simp
  go_at_call 10
  refine (H4.out _ _ _ _ _ _ HQ.out (bthen HBa.out HBc.out) (bthen HB3.out HBc.out)).mono ?_
  rintro e wn ⟨rfl, hb⟩
  replace HBc := Lib.hid (bthen HBc.out hb)
  clear hb
  obtain ⟨_, p0, p1, p2, p3, p4, p5⟩ := HX3.out.below HBc.out
  obtain ⟨_, q0, q1, q2, q3, q4, q5⟩ := HY3.out.below HBc.out
  refine hK.out _ _ ?_ (fun hHeld => ?_)
  · exact ⟨⟨p0, p1, p2, p3, p4, p5⟩, q0, q1, q2, q3, q4, q5⟩
  clear hK K
  try simp only [Act.put, List.setIfInBounds_toArray, List.set_cons_zero, List.set_cons_succ]
  first
    | (refine wpAnyH_take (i := 16) (oi := ⟨_, _, _, _, _, _⟩) (v := undef) rfl (by kernel_rfl) (by kernel_rfl) (by kernel_rfl) (fun _ _ _ h => h) (Or.inr ⟨by rfl, rfl⟩) (by assumption) ?_
       try simp only [Act.put, List.setIfInBounds_toArray, List.set_cons_zero, List.set_cons_succ])
    | (refine wpAnyH_take (i := 16) (oi := ⟨_, _, _, _, _, _⟩) (v := ?_) rfl (by kernel_rfl) (by kernel_rfl) (by kernel_rfl) (fun _ _ _ h => h) (Or.inl ⟨by rfl, ?_⟩) (by assumption) ?_
       rotate_left
       · intro w5 hSw
         try dsimp only at hSw
         go_simp
         try with_reducible rfl
       try simp only [Act.put, List.setIfInBounds_toArray, List.set_cons_zero, List.set_cons_succ])
  first
    | (refine wpAnyH_take (i := 17) (oi := ⟨_, _, _, _, _, _⟩) (v := undef) rfl (by kernel_rfl) (by kernel_rfl) (by kernel_rfl) (fun _ _ _ h => h) (Or.inr ⟨by rfl, rfl⟩) (by assumption) ?_
       try simp only [Act.put, List.setIfInBounds_toArray, List.set_cons_zero, List.set_cons_succ])
    | (refine wpAnyH_take (i := 17) (oi := ⟨_, _, _, _, _, _⟩) (v := ?_) rfl (by kernel_rfl) (by kernel_rfl) (by kernel_rfl) (fun _ _ _ h => h) (Or.inl ⟨by rfl, ?_⟩) (by assumption) ?_
       rotate_left
       · intro w5 hSw
         try dsimp only at hSw
         go_simp
         try with_reducible rfl
       try simp only [Act.put, List.setIfInBounds_toArray, List.set_cons_zero, List.set_cons_succ])
  first
    | (refine wpAnyH_take (i := 18) (oi := ⟨_, _, _, _, _, _⟩) (v := undef) rfl (by kernel_rfl) (by kernel_rfl) (by kernel_rfl) (fun _ _ _ h => h) (Or.inr ⟨by rfl, rfl⟩) (by assumption) ?_
       try simp only [Act.put, List.setIfInBounds_toArray, List.set_cons_zero, List.set_cons_succ])
    | (refine wpAnyH_take (i := 18) (oi := ⟨_, _, _, _, _, _⟩) (v := ?_) rfl (by kernel_rfl) (by kernel_rfl) (by kernel_rfl) (fun _ _ _ h => h) (Or.inl ⟨by rfl, ?_⟩) (by assumption) ?_
       rotate_left
       · intro w5 hSw
         try dsimp only at hSw
         go_simp
         try with_reducible rfl
       try simp only [Act.put, List.setIfInBounds_toArray, List.set_cons_zero, List.set_cons_succ])
  refine wpAnyH_done (by kernel_rfl) ?_ _
  go_wp2_with fail
  go_ret
  exact ⟨rfl, bthen HB3.out HBc.out⟩

theorem modelCopies_mdl (m : Mdl) (vd vp vl vi : Value) (w : World) (h : MdlAt m vd vp vl vi w) :
    Calls Try.prog 5 #[mval m vd vp vl vi] w fun e w' => e = .returned (.bool true) ∧ Below w.heap.size w w' := by
  by_cases hm : lightB m = true
  · have s := small_of_light hm
    exact modelCopies_core m.seed m.fin vd vp vl vi (chkN m) (fun a b c d W => MdlAt m a b c d W) w (fun a b c d W h => mdl_slices h) (fun w2 k => by have := light_any m vd vp vl vi w2 (h.below k); rw [hm] at this; exact this)
      (fun w2 k => (copy_any m s vd vp vl vi w2 (h.below k)).mono (by rintro e w' ⟨a, b, c, d, rfl, h1, h2⟩; exact ⟨a, b, c, d, rfl, h1.mdl s, h2⟩))
      (fun a b c d w' w4 q k1 k2 => by have := refSame_any m m a b c d vd vp vl vi w4 (q.below k1) (h.below k2); rw [sameB_refl] at this; exact this)
      (fun a b c d w' w4 q k1 k2 => by have := same_any m m a b c d vd vp vl vi w4 (q.below k1) (h.below k2); rw [sameB_refl] at this; exact this)
      (fun a b c d w' w4 q k1 k2 => check_any m a b c d w4 (q.below k1)) (fun a b c d w' w4 q k1 k2 => check_any m vd vp vl vi w4 (h.below k2))
  · have hf : lightB m = false := by simpa using hm
    exact modelCopies_heavy m.seed m.fin vd vp vl vi w (fun w2 k => by have := light_any m vd vp vl vi w2 (h.below k); rw [hf] at this; exact this)

end Go.Proofs.Ytebopfcealhiaaa
