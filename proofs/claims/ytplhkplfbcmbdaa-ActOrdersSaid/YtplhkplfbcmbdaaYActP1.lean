/- The contracts of the program's cmp.Compare, cmp.Or, act.Compare. -/
import Derived.Test.YtplhkplfbcmbdaaYZ11
import Derived.Test.YtplhkplfbcmbdaaYZ3
namespace Go.Proofs.Ytplhkplfbcmbdaa
open Go.RowKit Go.Deep
set_option linter.unusedVariables false
set_option maxRecDepth 100000

theorem cmpNaN_any (a : Int) (w : World) : Calls Try.prog 70 #[.int .i64 a] w fun e w' => e = .returned (.bool false) ∧ w' = w := by
  have d0 : (a != a) = false := by simp
  go_enter Try.func70, Try.ntmps70
  go_wp2_with fail
  go_ret
  exact ⟨rfl, rfl⟩
theorem cmpInt_any (a b : Int) (w : World) : Calls Try.prog 44 #[.int .i64 a, .int .i64 b] w fun e w' => e = .returned (.int .i64 (signI a b)) ∧ w' = w := by
  have HA := Lib.hid (cmpNaN_any a)
  have HB := Lib.hid (cmpNaN_any b)
  go_enter Try.func44, Try.ntmps44
  rcases Int.lt_trichotomy a b with h | h | h
  · have d0 : decide (a < b) = true := by simp [h]
    rw [show signI a b = -1 from if_pos h]
    clear h
    go_wp2_with (first
      | (go_at_call 70; with_reducible refine (HA.out _).mono ?_; rintro e w1 ⟨rfl, hw1⟩; subst w1)
      | (go_at_call 70; with_reducible refine (HB.out _).mono ?_; rintro e w1 ⟨rfl, hw1⟩; subst w1))
    go_ret
    exact ⟨rfl, rfl⟩
  · have d0 : decide (a < b) = false := by simp; omega
    have d1 : decide (b < a) = false := by simp; omega
    rw [show signI a b = 0 from by unfold signI; rw [if_neg (by omega), if_neg (by omega)]]
    have HH := Lib.hid h
    clear h
    go_wp2_with (first
      | (go_at_call 70; with_reducible refine (HA.out _).mono ?_; rintro e w1 ⟨rfl, hw1⟩; subst w1)
      | (go_at_call 70; with_reducible refine (HB.out _).mono ?_; rintro e w1 ⟨rfl, hw1⟩; subst w1))
    go_ret
    exact ⟨rfl, rfl⟩
  · have d0 : decide (a < b) = false := by simp; omega
    have d1 : decide (b < a) = true := by simp [h]
    rw [show signI a b = 1 from by unfold signI; rw [if_neg (by omega), if_pos h]]
    clear h
    go_wp2_with (first
      | (go_at_call 70; with_reducible refine (HA.out _).mono ?_; rintro e w1 ⟨rfl, hw1⟩; subst w1)
      | (go_at_call 70; with_reducible refine (HB.out _).mono ?_; rintro e w1 ⟨rfl, hw1⟩; subst w1))
    go_ret
    exact ⟨rfl, rfl⟩

set_option maxHeartbeats 1600000 in
theorem or5_any (f : Nat → Int) (lb : Nat) (u1 : World) (XL : Hid (∀ i, i < 5 → u1.cell? ⟨lb, i, none⟩ = some (.int .i64 (f i)))) :
    Calls Try.prog 42 #[.slice (some ⟨lb, 0, none⟩) 5 5] u1 fun e w' => e = .returned (.int .i64 (firstNZ f)) ∧ w' = u1 := by

  obtain ⟨res, hr⟩ : ∃ r, r = firstNZ f := ⟨_, rfl⟩
  have E := Lib.hid hr
  rw [← hr]
  clear hr
  go_enter Try.func42, Try.ntmps42
  go_wp2_with fail
  go_loopw [8] (fun x wr => ∃ j : Nat, j ≤ 5 ∧ x = .int .i64 j ∧ (∀ i, i < j → f i = 0) ∧ wr = u1) (fun x _ => 5 - (intOf x).toNat)
  case atStart => exact ⟨0, Nat.zero_le _, rfl, fun i hi => absurd hi (Nat.not_lt_zero i), rfl⟩
  case round =>
    obtain ⟨j, hj, rfl, hz, hw⟩ := hrel
    subst wr
    have HZ := Lib.hid hz
    clear hz
    by_cases hlt : j < 5
    · have cj := XL.out j hlt
      have hj2 : (j : Int) < 5 := by omega
      have hj0 : (0 : Int) ≤ (j : Int) := by omega
      have hjt : ((j : Nat) : Int).toNat = j := by omega
      by_cases h0 : f j = 0
      · have H0 := Lib.hid h0
        rw [h0] at cj
        clear h0
        go_wp2_with fail
        go_roundw
        case rel =>
          refine ⟨j + 1, by omega, by go_num, fun i hi => ?_, trivial⟩
          rcases Nat.lt_succ_iff_lt_or_eq.1 hi with h | h
          · exact HZ.out i h
          · rw [h]; exact H0.out
        case measure => simp [intOf]; omega
      · have d0 : (f j != 0) = true := by simp [h0]
        have e1 : res = f j := by rw [E.out]; exact firstNZ_at hlt HZ.out h0
        subst e1
        clear h0 E
        go_wp2_with fail
        go_ret
        exact ⟨rfl, rfl⟩
    · obtain rfl : j = 5 := by omega
      have e1 : res = 0 := by rw [E.out]; exact firstNZ_none HZ.out
      subst e1
      clear E
      go_wp2_with fail
      go_ret
      exact ⟨rfl, rfl⟩

set_option maxHeartbeats 3200000 in
theorem compare8_any (a b : Evn) (w : World) :
    Calls Try.prog 22 #[eval8 a, eval8 b] w fun e w' => e = .returned (.int .i64 (cmpE a b)) ∧ Below w.heap.size w w' := by
  unfold eval8
  have X1 : Hid (((w.alloc (.cells #[.float .f64 a.t, .int .i64 a.src, .int .i64 a.n, .int .i64 a.dst, .int .i64 a.pay] 49)).alloc (.cells #[.float .f64 b.t, .int .i64 b.src, .int .i64 b.n, .int .i64 b.dst, .int .i64 b.pay] 49)).heap[w.heap.size]? = some (.cells #[.float .f64 a.t, .int .i64 a.src, .int .i64 a.n, .int .i64 a.dst, .int .i64 a.pay] 49)) := (Below.heap_alloc _ _ _ (by rw [World.size_alloc]; omega)).trans (heap_alloc_new w _)
  have X2 : Hid (((w.alloc (.cells #[.float .f64 a.t, .int .i64 a.src, .int .i64 a.n, .int .i64 a.dst, .int .i64 a.pay] 49)).alloc (.cells #[.float .f64 b.t, .int .i64 b.src, .int .i64 b.n, .int .i64 b.dst, .int .i64 b.pay] 49)).heap[w.heap.size + 1]? = some (.cells #[.float .f64 b.t, .int .i64 b.src, .int .i64 b.n, .int .i64 b.dst, .int .i64 b.pay] 49)) := by
    have := heap_alloc_new (w.alloc (.cells #[.float .f64 a.t, .int .i64 a.src, .int .i64 a.n, .int .i64 a.dst, .int .i64 a.pay] 49)) (.cells #[.float .f64 b.t, .int .i64 b.src, .int .i64 b.n, .int .i64 b.dst, .int .i64 b.pay] 49)
    rwa [World.size_alloc] at this
  have B1 := Lib.hid (bthen (balloc w (.cells #[.float .f64 a.t, .int .i64 a.src, .int .i64 a.n, .int .i64 a.dst, .int .i64 a.pay] 49)) (balloc _ (.cells #[.float .f64 b.t, .int .i64 b.src, .int .i64 b.n, .int .i64 b.dst, .int .i64 b.pay] 49)))
  have E : Hid (cmpE a b = firstNZ (partsE a b)) := rfl
  obtain ⟨f, hf⟩ : ∃ f, f = partsE a b := ⟨_, rfl⟩
  have f0 : f 0 = cmpT a.t b.t := by rw [hf]; rfl
  have f1 : f 1 = signI a.dst b.dst := by rw [hf]; rfl
  have f2 : f 2 = signI a.src b.src := by rw [hf]; rfl
  have f3 : f 3 = signI a.n b.n := by rw [hf]; rfl
  have f4 : f 4 = signI a.pay b.pay := by rw [hf]; rfl
  rw [← hf] at E
  rw [E.out]
  have HT : Hid (∀ w, Calls Try.prog 43 #[.float .f64 a.t, .float .f64 b.t] w fun e w' => e = .returned (.int .i64 (f 0)) ∧ w = w') := by rw [f0]; exact times_any _ _
  have H1 : Hid (∀ w, Calls Try.prog 44 #[.int .i64 a.dst, .int .i64 b.dst] w fun e w' => e = .returned (.int .i64 (f 1)) ∧ w' = w) := by rw [f1]; exact cmpInt_any _ _
  have H2 : Hid (∀ w, Calls Try.prog 44 #[.int .i64 a.src, .int .i64 b.src] w fun e w' => e = .returned (.int .i64 (f 2)) ∧ w' = w) := by rw [f2]; exact cmpInt_any _ _
  have H3 : Hid (∀ w, Calls Try.prog 44 #[.int .i64 a.n, .int .i64 b.n] w fun e w' => e = .returned (.int .i64 (f 3)) ∧ w' = w) := by rw [f3]; exact cmpInt_any _ _
  have H4 : Hid (∀ w, Calls Try.prog 44 #[.int .i64 a.pay, .int .i64 b.pay] w fun e w' => e = .returned (.int .i64 (f 4)) ∧ w' = w) := by rw [f4]; exact cmpInt_any _ _
  clear f0 f1 f2 f3 f4 hf E
  generalize hu : (w.alloc (.cells #[.float .f64 a.t, .int .i64 a.src, .int .i64 a.n, .int .i64 a.dst, .int .i64 a.pay] 49)).alloc (.cells #[.float .f64 b.t, .int .i64 b.src, .int .i64 b.n, .int .i64 b.dst, .int .i64 b.pay] 49) = u at *
  go_enter Try.func22, Try.ntmps22
  go_upto_region 1 with fail
  try rw [hu]
  clear hu
  have XA : Hid (u.drew.heap[w.heap.size]? = some (.cells #[.float .f64 a.t, .int .i64 a.src, .int .i64 a.n, .int .i64 a.dst, .int .i64 a.pay] 49)) := X1.out
  have XB : Hid (u.drew.heap[w.heap.size + 1]? = some (.cells #[.float .f64 b.t, .int .i64 b.src, .int .i64 b.n, .int .i64 b.dst, .int .i64 b.pay] 49)) := X2.out
  have L0 := Lib.hid B1.out.drew
  obtain ⟨x0, x1, x2, x3, x4⟩ := five_cells8 XA.out
  obtain ⟨y0, y1, y2, y3, y4⟩ := five_cells8 XB.out
  have ss : (fun w' => w'.cell? ⟨w.heap.size, 0, none⟩ = some (.float .f64 a.t) ∧ w'.cell? ⟨w.heap.size, 1, none⟩ = some (.int .i64 a.src) ∧ w'.cell? ⟨w.heap.size, 2, none⟩ = some (.int .i64 a.n) ∧ w'.cell? ⟨w.heap.size, 3, none⟩ = some (.int .i64 a.dst) ∧ w'.cell? ⟨w.heap.size, 4, none⟩ = some (.int .i64 a.pay) ∧ w'.cell? ⟨w.heap.size + 1, 0, none⟩ = some (.float .f64 b.t) ∧ w'.cell? ⟨w.heap.size + 1, 1, none⟩ = some (.int .i64 b.src) ∧ w'.cell? ⟨w.heap.size + 1, 2, none⟩ = some (.int .i64 b.n) ∧ w'.cell? ⟨w.heap.size + 1, 3, none⟩ = some (.int .i64 b.dst) ∧ w'.cell? ⟨w.heap.size + 1, 4, none⟩ = some (.int .i64 b.pay)) u.drew := ⟨x0, x1, x2, x3, x4, y0, y1, y2, y3, y4⟩
  clear x0 x1 x2 x3 x4 y0 y1 y2 y3 y4 X1 X2 B1
  refine wp_region_held_drew (S := (fun w' => w'.cell? ⟨w.heap.size, 0, none⟩ = some (.float .f64 a.t) ∧ w'.cell? ⟨w.heap.size, 1, none⟩ = some (.int .i64 a.src) ∧ w'.cell? ⟨w.heap.size, 2, none⟩ = some (.int .i64 a.n) ∧ w'.cell? ⟨w.heap.size, 3, none⟩ = some (.int .i64 a.dst) ∧ w'.cell? ⟨w.heap.size, 4, none⟩ = some (.int .i64 a.pay) ∧ w'.cell? ⟨w.heap.size + 1, 0, none⟩ = some (.float .f64 b.t) ∧ w'.cell? ⟨w.heap.size + 1, 1, none⟩ = some (.int .i64 b.src) ∧ w'.cell? ⟨w.heap.size + 1, 2, none⟩ = some (.int .i64 b.n) ∧ w'.cell? ⟨w.heap.size + 1, 3, none⟩ = some (.int .i64 b.dst) ∧ w'.cell? ⟨w.heap.size + 1, 4, none⟩ = some (.int .i64 b.pay))) (by kernel_rfl) ?_ (fun hHeld => ?_)
  · exact ss
  change wpAnyH _ _ _ _ _ _ _ _ (World.drew u)
  generalize u.drew = u0 at *
  first
    | refine tk0 0 (oi := ⟨_, _, _, _, _, _⟩) rfl ?_
    | refine tk1 0 (oi := ⟨_, _, _, _, _, _⟩) (v := ?_) rfl ?_ ?_; rotate_left; · (intro w5 hSw; (try dsimp only at hSw); go_simp; (try with_reducible rfl))
  try simp only [Act.put, List.setIfInBounds_toArray, List.set_cons_zero, List.set_cons_succ]
  first
    | refine tk0 1 (oi := ⟨_, _, _, _, _, _⟩) rfl ?_
    | refine tk1 1 (oi := ⟨_, _, _, _, _, _⟩) (v := ?_) rfl ?_ ?_; rotate_left; · (intro w5 hSw; (try dsimp only at hSw); go_simp; (try with_reducible rfl))
  try simp only [Act.put, List.setIfInBounds_toArray, List.set_cons_zero, List.set_cons_succ]
  first
    | refine tk0 2 (oi := ⟨_, _, _, _, _, _⟩) rfl ?_
    | refine tk1 2 (oi := ⟨_, _, _, _, _, _⟩) (v := ?_) rfl ?_ ?_; rotate_left; · (intro w5 hSw; (try dsimp only at hSw); go_simp; (try with_reducible rfl))
  try simp only [Act.put, List.setIfInBounds_toArray, List.set_cons_zero, List.set_cons_succ]
  first
    | refine tk0 3 (oi := ⟨_, _, _, _, _, _⟩) rfl ?_
    | refine tk1 3 (oi := ⟨_, _, _, _, _, _⟩) (v := ?_) rfl ?_ ?_; rotate_left; · (intro w5 hSw; (try dsimp only at hSw); go_simp; (try with_reducible rfl))
  try simp only [Act.put, List.setIfInBounds_toArray, List.set_cons_zero, List.set_cons_succ]
  first
    | refine tk0 4 (oi := ⟨_, _, _, _, _, _⟩) rfl ?_
    | refine tk1 4 (oi := ⟨_, _, _, _, _, _⟩) (v := ?_) rfl ?_ ?_; rotate_left; · (intro w5 hSw; (try dsimp only at hSw); go_simp; (try with_reducible rfl))
  try simp only [Act.put, List.setIfInBounds_toArray, List.set_cons_zero, List.set_cons_succ]
  first
    | refine tk0 5 (oi := ⟨_, _, _, _, _, _⟩) rfl ?_
    | refine tk1 5 (oi := ⟨_, _, _, _, _, _⟩) (v := ?_) rfl ?_ ?_; rotate_left; · (intro w5 hSw; (try dsimp only at hSw); go_simp; (try with_reducible rfl))
  try simp only [Act.put, List.setIfInBounds_toArray, List.set_cons_zero, List.set_cons_succ]
  first
    | refine tk0 7 (oi := ⟨_, _, _, _, _, _⟩) rfl ?_
    | refine tk1 7 (oi := ⟨_, _, _, _, _, _⟩) (v := ?_) rfl ?_ ?_; rotate_left; · (intro w5 hSw; (try dsimp only at hSw); go_simp; (try with_reducible rfl))
  try simp only [Act.put, List.setIfInBounds_toArray, List.set_cons_zero, List.set_cons_succ]
  first
    | refine tk0 8 (oi := ⟨_, _, _, _, _, _⟩) rfl ?_
    | refine tk1 8 (oi := ⟨_, _, _, _, _, _⟩) (v := ?_) rfl ?_ ?_; rotate_left; · (intro w5 hSw; (try dsimp only at hSw); go_simp; (try with_reducible rfl))
  try simp only [Act.put, List.setIfInBounds_toArray, List.set_cons_zero, List.set_cons_succ]
  first
    | refine tk0 9 (oi := ⟨_, _, _, _, _, _⟩) rfl ?_
    | refine tk1 9 (oi := ⟨_, _, _, _, _, _⟩) (v := ?_) rfl ?_ ?_; rotate_left; · (intro w5 hSw; (try dsimp only at hSw); go_simp; (try with_reducible rfl))
  try simp only [Act.put, List.setIfInBounds_toArray, List.set_cons_zero, List.set_cons_succ]
  first
    | refine tk0 10 (oi := ⟨_, _, _, _, _, _⟩) rfl ?_
    | refine tk1 10 (oi := ⟨_, _, _, _, _, _⟩) (v := ?_) rfl ?_ ?_; rotate_left; · (intro w5 hSw; (try dsimp only at hSw); go_simp; (try with_reducible rfl))
  try simp only [Act.put, List.setIfInBounds_toArray, List.set_cons_zero, List.set_cons_succ]
  first
    | refine tk0 12 (oi := ⟨_, _, _, _, _, _⟩) rfl ?_
    | refine tk1 12 (oi := ⟨_, _, _, _, _, _⟩) (v := ?_) rfl ?_ ?_; rotate_left; · (intro w5 hSw; (try dsimp only at hSw); go_simp; (try with_reducible rfl))
  try simp only [Act.put, List.setIfInBounds_toArray, List.set_cons_zero, List.set_cons_succ]
  first
    | refine tk0 13 (oi := ⟨_, _, _, _, _, _⟩) rfl ?_
    | refine tk1 13 (oi := ⟨_, _, _, _, _, _⟩) (v := ?_) rfl ?_ ?_; rotate_left; · (intro w5 hSw; (try dsimp only at hSw); go_simp; (try with_reducible rfl))
  try simp only [Act.put, List.setIfInBounds_toArray, List.set_cons_zero, List.set_cons_succ]
  first
    | refine tk0 14 (oi := ⟨_, _, _, _, _, _⟩) rfl ?_
    | refine tk1 14 (oi := ⟨_, _, _, _, _, _⟩) (v := ?_) rfl ?_ ?_; rotate_left; · (intro w5 hSw; (try dsimp only at hSw); go_simp; (try with_reducible rfl))
  try simp only [Act.put, List.setIfInBounds_toArray, List.set_cons_zero, List.set_cons_succ]
  first
    | refine tk0 15 (oi := ⟨_, _, _, _, _, _⟩) rfl ?_
    | refine tk1 15 (oi := ⟨_, _, _, _, _, _⟩) (v := ?_) rfl ?_ ?_; rotate_left; · (intro w5 hSw; (try dsimp only at hSw); go_simp; (try with_reducible rfl))
  try simp only [Act.put, List.setIfInBounds_toArray, List.set_cons_zero, List.set_cons_succ]
  first
    | refine tk0 16 (oi := ⟨_, _, _, _, _, _⟩) rfl ?_
    | refine tk1 16 (oi := ⟨_, _, _, _, _, _⟩) (v := ?_) rfl ?_ ?_; rotate_left; · (intro w5 hSw; (try dsimp only at hSw); go_simp; (try with_reducible rfl))
  try simp only [Act.put, List.setIfInBounds_toArray, List.set_cons_zero, List.set_cons_succ]
  first
    | refine tk0 17 (oi := ⟨_, _, _, _, _, _⟩) rfl ?_
    | refine tk1 17 (oi := ⟨_, _, _, _, _, _⟩) (v := ?_) rfl ?_ ?_; rotate_left; · (intro w5 hSw; (try dsimp only at hSw); go_simp; (try with_reducible rfl))
  try simp only [Act.put, List.setIfInBounds_toArray, List.set_cons_zero, List.set_cons_succ]
  first
    | refine tk0 19 (oi := ⟨_, _, _, _, _, _⟩) rfl ?_
    | refine tk1 19 (oi := ⟨_, _, _, _, _, _⟩) (v := ?_) rfl ?_ ?_; rotate_left; · (intro w5 hSw; (try dsimp only at hSw); go_simp; (try with_reducible rfl))
  try simp only [Act.put, List.setIfInBounds_toArray, List.set_cons_zero, List.set_cons_succ]
  first
    | refine tk0 20 (oi := ⟨_, _, _, _, _, _⟩) rfl ?_
    | refine tk1 20 (oi := ⟨_, _, _, _, _, _⟩) (v := ?_) rfl ?_ ?_; rotate_left; · (intro w5 hSw; (try dsimp only at hSw); go_simp; (try with_reducible rfl))
  try simp only [Act.put, List.setIfInBounds_toArray, List.set_cons_zero, List.set_cons_succ]
  first
    | refine tk0 21 (oi := ⟨_, _, _, _, _, _⟩) rfl ?_
    | refine tk1 21 (oi := ⟨_, _, _, _, _, _⟩) (v := ?_) rfl ?_ ?_; rotate_left; · (intro w5 hSw; (try dsimp only at hSw); go_simp; (try with_reducible rfl))
  try simp only [Act.put, List.setIfInBounds_toArray, List.set_cons_zero, List.set_cons_succ]
  first
    | refine tk0 22 (oi := ⟨_, _, _, _, _, _⟩) rfl ?_
    | refine tk1 22 (oi := ⟨_, _, _, _, _, _⟩) (v := ?_) rfl ?_ ?_; rotate_left; · (intro w5 hSw; (try dsimp only at hSw); go_simp; (try with_reducible rfl))
  try simp only [Act.put, List.setIfInBounds_toArray, List.set_cons_zero, List.set_cons_succ]
  first
    | refine tk0 23 (oi := ⟨_, _, _, _, _, _⟩) rfl ?_
    | refine tk1 23 (oi := ⟨_, _, _, _, _, _⟩) (v := ?_) rfl ?_ ?_; rotate_left; · (intro w5 hSw; (try dsimp only at hSw); go_simp; (try with_reducible rfl))
  try simp only [Act.put, List.setIfInBounds_toArray, List.set_cons_zero, List.set_cons_succ]
  first
    | refine tk0 24 (oi := ⟨_, _, _, _, _, _⟩) rfl ?_
    | refine tk1 24 (oi := ⟨_, _, _, _, _, _⟩) (v := ?_) rfl ?_ ?_; rotate_left; · (intro w5 hSw; (try dsimp only at hSw); go_simp; (try with_reducible rfl))
  try simp only [Act.put, List.setIfInBounds_toArray, List.set_cons_zero, List.set_cons_succ]
  first
    | refine tk0 26 (oi := ⟨_, _, _, _, _, _⟩) rfl ?_
    | refine tk1 26 (oi := ⟨_, _, _, _, _, _⟩) (v := ?_) rfl ?_ ?_; rotate_left; · (intro w5 hSw; (try dsimp only at hSw); go_simp; (try with_reducible rfl))
  try simp only [Act.put, List.setIfInBounds_toArray, List.set_cons_zero, List.set_cons_succ]
  first
    | refine tk0 27 (oi := ⟨_, _, _, _, _, _⟩) rfl ?_
    | refine tk1 27 (oi := ⟨_, _, _, _, _, _⟩) (v := ?_) rfl ?_ ?_; rotate_left; · (intro w5 hSw; (try dsimp only at hSw); go_simp; (try with_reducible rfl))
  try simp only [Act.put, List.setIfInBounds_toArray, List.set_cons_zero, List.set_cons_succ]
  first
    | refine tk0 28 (oi := ⟨_, _, _, _, _, _⟩) rfl ?_
    | refine tk1 28 (oi := ⟨_, _, _, _, _, _⟩) (v := ?_) rfl ?_ ?_; rotate_left; · (intro w5 hSw; (try dsimp only at hSw); go_simp; (try with_reducible rfl))
  try simp only [Act.put, List.setIfInBounds_toArray, List.set_cons_zero, List.set_cons_succ]
  first
    | refine tk0 29 (oi := ⟨_, _, _, _, _, _⟩) rfl ?_
    | refine tk1 29 (oi := ⟨_, _, _, _, _, _⟩) (v := ?_) rfl ?_ ?_; rotate_left; · (intro w5 hSw; (try dsimp only at hSw); go_simp; (try with_reducible rfl))
  try simp only [Act.put, List.setIfInBounds_toArray, List.set_cons_zero, List.set_cons_succ]
  refine wpAnyH_ready (rs := [6]) (by kernel_rfl) (by simp) ?_
  refine AllReadyH.cons (o := ⟨_, _, _, _, _, _⟩) rfl (fun K hK => ?_) AllReadyH.nil
  go_simp
  go_at_call 43
  refine (HT.out _).mono ?_
  rintro e w1 ⟨rfl, hw1⟩
  subst w1
  refine hK.out _ _ ?_ (fun hHeld => ?_)
  · exact hHeld
  clear hK K
  try simp only [Act.put, List.setIfInBounds_toArray, List.set_cons_zero, List.set_cons_succ]
  refine wpAnyH_ready (rs := [11]) (by kernel_rfl) (by simp) ?_
  refine AllReadyH.cons (o := ⟨_, _, _, _, _, _⟩) rfl (fun K hK => ?_) AllReadyH.nil
  go_simp
  go_at_call 44
  refine (H1.out _).mono ?_
  rintro e w1 ⟨rfl, hw1⟩
  subst w1
  refine hK.out _ _ ?_ (fun hHeld => ?_)
  · exact hHeld
  clear hK K
  try simp only [Act.put, List.setIfInBounds_toArray, List.set_cons_zero, List.set_cons_succ]
  refine wpAnyH_ready (rs := [18]) (by kernel_rfl) (by simp) ?_
  refine AllReadyH.cons (o := ⟨_, _, _, _, _, _⟩) rfl (fun K hK => ?_) AllReadyH.nil
  go_simp
  go_at_call 44
  refine (H2.out _).mono ?_
  rintro e w1 ⟨rfl, hw1⟩
  subst w1
  refine hK.out _ _ ?_ (fun hHeld => ?_)
  · exact hHeld
  clear hK K
  try simp only [Act.put, List.setIfInBounds_toArray, List.set_cons_zero, List.set_cons_succ]
  refine wpAnyH_ready (rs := [25]) (by kernel_rfl) (by simp) ?_
  refine AllReadyH.cons (o := ⟨_, _, _, _, _, _⟩) rfl (fun K hK => ?_) AllReadyH.nil
  go_simp
  go_at_call 44
  refine (H3.out _).mono ?_
  rintro e w1 ⟨rfl, hw1⟩
  subst w1
  refine hK.out _ _ ?_ (fun hHeld => ?_)
  · exact hHeld
  clear hK K
  try simp only [Act.put, List.setIfInBounds_toArray, List.set_cons_zero, List.set_cons_succ]
  refine wpAnyH_ready (rs := [30]) (by kernel_rfl) (by simp) ?_
  refine AllReadyH.cons (o := ⟨_, _, _, _, _, _⟩) rfl (fun K hK => ?_) AllReadyH.nil
  go_simp
  go_at_call 44
  refine (H4.out _).mono ?_
  rintro e w1 ⟨rfl, hw1⟩
  subst w1
  refine hK.out _ _ ?_ (fun hHeld => ?_)
  · exact hHeld
  clear hK K
  try simp only [Act.put, List.setIfInBounds_toArray, List.set_cons_zero, List.set_cons_succ]
  refine wpAnyH_ready (rs := [31]) (by kernel_rfl) (by simp) ?_
  refine AllReadyH.cons (o := ⟨_, _, _, _, _, _⟩) rfl (fun K hK => ?_) AllReadyH.nil
  go_simp
  have XC := Lib.hid (heap_alloc_new u0 (.cells #[.int .i64 (f 0), .int .i64 (f 1), .int .i64 (f 2), .int .i64 (f 3), .int .i64 (f 4)] 3))
  have LC := Lib.hid (L0.out.trans ((balloc u0 (.cells #[.int .i64 (f 0), .int .i64 (f 1), .int .i64 (f 2), .int .i64 (f 3), .int .i64 (f 4)] 3)).mono L0.out.size))
  obtain ⟨x0, x1, x2, x3, x4⟩ := five_cells8 ((Below.heap_alloc u0 (.cells #[.int .i64 (f 0), .int .i64 (f 1), .int .i64 (f 2), .int .i64 (f 3), .int .i64 (f 4)] 3) _ (lt_of_block XA.out)).trans XA.out)
  obtain ⟨y0, y1, y2, y3, y4⟩ := five_cells8 ((Below.heap_alloc u0 (.cells #[.int .i64 (f 0), .int .i64 (f 1), .int .i64 (f 2), .int .i64 (f 3), .int .i64 (f 4)] 3) _ (lt_of_block XB.out)).trans XB.out)
  have ss1 : (fun w' => w'.cell? ⟨w.heap.size, 0, none⟩ = some (.float .f64 a.t) ∧ w'.cell? ⟨w.heap.size, 1, none⟩ = some (.int .i64 a.src) ∧ w'.cell? ⟨w.heap.size, 2, none⟩ = some (.int .i64 a.n) ∧ w'.cell? ⟨w.heap.size, 3, none⟩ = some (.int .i64 a.dst) ∧ w'.cell? ⟨w.heap.size, 4, none⟩ = some (.int .i64 a.pay) ∧ w'.cell? ⟨w.heap.size + 1, 0, none⟩ = some (.float .f64 b.t) ∧ w'.cell? ⟨w.heap.size + 1, 1, none⟩ = some (.int .i64 b.src) ∧ w'.cell? ⟨w.heap.size + 1, 2, none⟩ = some (.int .i64 b.n) ∧ w'.cell? ⟨w.heap.size + 1, 3, none⟩ = some (.int .i64 b.dst) ∧ w'.cell? ⟨w.heap.size + 1, 4, none⟩ = some (.int .i64 b.pay)) (u0.alloc (.cells #[.int .i64 (f 0), .int .i64 (f 1), .int .i64 (f 2), .int .i64 (f 3), .int .i64 (f 4)] 3)) := ⟨x0, x1, x2, x3, x4, y0, y1, y2, y3, y4⟩
  clear x0 x1 x2 x3 x4 y0 y1 y2 y3 y4 ss
  refine hK.out _ _ ?_ (fun hHeld => ?_)
  · exact ss1
  clear hK K
  try simp only [Act.put, List.setIfInBounds_toArray, List.set_cons_zero, List.set_cons_succ]
  clear ss1
  generalize u0.alloc (.cells #[.int .i64 (f 0), .int .i64 (f 1), .int .i64 (f 2), .int .i64 (f 3), .int .i64 (f 4)] 3) = u1 at *
  generalize u0.heap.size = lb at *
  have XL : Hid (∀ i, i < 5 → u1.cell? ⟨lb, i, none⟩ = some (.int .i64 (f i))) := fun i hi => by
    rw [Lib.cell_of_heap XC.out]
    have hc : i = 0 ∨ i = 1 ∨ i = 2 ∨ i = 3 ∨ i = 4 := by omega
    rcases hc with rfl | rfl | rfl | rfl | rfl <;> rfl
  refine wpAnyH_ready (rs := [32]) (by kernel_rfl) (by simp) ?_
  refine AllReadyH.cons (o := ⟨_, _, _, _, _, _⟩) rfl (fun K hK => ?_) AllReadyH.nil
  go_simp
  go_at_call 42
  refine (or5_any f lb u1 XL).mono ?_
  rintro e w1 ⟨rfl, hw1⟩
  subst w1
  refine hK.out _ _ ?_ (fun hHeld => ?_)
  · exact hHeld
  clear hK K
  try simp only [Act.put, List.setIfInBounds_toArray, List.set_cons_zero, List.set_cons_succ]
  first
    | refine tk0 33 (oi := ⟨_, _, _, _, _, _⟩) rfl ?_
    | refine tk1 33 (oi := ⟨_, _, _, _, _, _⟩) (v := ?_) rfl ?_ ?_; rotate_left; · (intro w5 hSw; (try dsimp only at hSw); go_simp; (try with_reducible rfl))
  try simp only [Act.put, List.setIfInBounds_toArray, List.set_cons_zero, List.set_cons_succ]
  refine wpAnyH_done (by kernel_rfl) ?_ _
  clear hHeld
  go_wp2_with fail
  go_ret
  exact ⟨rfl, LC.out⟩
theorem compareAny : CompareAny := fun a b w => by
  have := compare8_any a b w
  rwa [cmpE_ord] at this

end Go.Proofs.Ytplhkplfbcmbdaa
