/- The contracts of stamp.Compare and of the document's own Compare. -/
import Derived.Test.YtlcfibmgegjklaaStampCmp
namespace Go.Proofs.Ytlcfibmgegjklaa
open Go.RowKit

theorem compareTime_any (a b : Stp) (w : World) :
    Calls Try.prog 34 #[a.val, b.val] w fun e w' => e = .returned (.int .i64 (cmpT a.t b.t)) ∧ Below w.heap.size w w' := by
  obtain ⟨a0, a1, a2⟩ := a
  obtain ⟨b0, b1, b2⟩ := b
  unfold Stp.val
  have H := Lib.hid (compareF_any a0 b0)
  dsimp only
  generalize cmpT a0 b0 = c at H ⊢
  go_enter Try.func34, Try.ntmps34
  go_wp2_with (go_at_call 33; refine (H.out _).mono ?_; rintro e w' ⟨rfl, rfl⟩)
  go_ret
  exact ⟨rfl, (balloc _ _).alloc (by simp) _⟩

theorem compareSource_any (a b : Stp) (w : World) :
    Calls Try.prog 35 #[a.val, b.val] w fun e w' => e = .returned (.int .i64 (cmpI a.src b.src)) ∧ Below w.heap.size w w' := by
  obtain ⟨a0, a1, a2⟩ := a
  obtain ⟨b0, b1, b2⟩ := b
  unfold Stp.val
  have H := Lib.hid (compareI_any a1 b1)
  dsimp only
  generalize cmpI a1 b1 = c at H ⊢
  go_enter Try.func35, Try.ntmps35
  go_wp2_with (go_at_call 49; refine (H.out _).mono ?_; rintro e w' ⟨rfl, rfl⟩)
  go_ret
  exact ⟨rfl, (balloc _ _).alloc (by simp) _⟩

theorem compareNumber_any (a b : Stp) (w : World) :
    Calls Try.prog 36 #[a.val, b.val] w fun e w' => e = .returned (.int .i64 (cmpI a.n b.n)) ∧ Below w.heap.size w w' := by
  obtain ⟨a0, a1, a2⟩ := a
  obtain ⟨b0, b1, b2⟩ := b
  unfold Stp.val
  have H := Lib.hid (compareI_any a2 b2)
  dsimp only
  generalize cmpI a2 b2 = c at H ⊢
  go_enter Try.func36, Try.ntmps36
  go_wp2_with (go_at_call 49; refine (H.out _).mono ?_; rintro e w' ⟨rfl, rfl⟩)
  go_ret
  exact ⟨rfl, (balloc _ _).alloc (by simp) _⟩



/-- the world in which Compare goes through its three ways to compare: two stamps, three functions -/
def CmpW (a b : Stp) (w wr : World) : Prop :=
  Below w.heap.size w wr ∧ w.heap.size + 3 ≤ wr.heap.size ∧
  (wr.cell? ⟨w.heap.size, 0, none⟩ = some (.float .f64 a.t) ∧ wr.cell? ⟨w.heap.size, 1, none⟩ = some (.int .i64 a.src) ∧ wr.cell? ⟨w.heap.size, 2, none⟩ = some (.int .i64 a.n)) ∧
  (wr.cell? ⟨w.heap.size + 1, 0, none⟩ = some (.float .f64 b.t) ∧ wr.cell? ⟨w.heap.size + 1, 1, none⟩ = some (.int .i64 b.src) ∧ wr.cell? ⟨w.heap.size + 1, 2, none⟩ = some (.int .i64 b.n)) ∧
  (wr.cell? ⟨w.heap.size + 1 + 1, 0, none⟩ = some (.func (.func 34) #[] #[]) ∧ wr.cell? ⟨w.heap.size + 1 + 1, 1, none⟩ = some (.func (.func 35) #[] #[]) ∧ wr.cell? ⟨w.heap.size + 1 + 1, 2, none⟩ = some (.func (.func 36) #[] #[]))

theorem cmpW_next {a b : Stp} {w wr w2 : World} (h : CmpW a b w wr) (k : Below wr.heap.size wr w2) : CmpW a b w w2 := by
  obtain ⟨h1, h2, ⟨a0, a1, a2⟩, ⟨b0, b1, b2⟩, c0, c1, c2⟩ := h
  have e : ∀ (n o : Nat), n < w.heap.size + 3 → w2.cell? ⟨n, o, none⟩ = wr.cell? ⟨n, o, none⟩ := fun n o hn => k.cell (by simp only; omega)
  refine ⟨bthen h1 k, by have := k.size; omega, ⟨?_, ?_, ?_⟩, ⟨?_, ?_, ?_⟩, ?_, ?_, ?_⟩ <;> (rw [e _ _ (by omega)]; assumption)

set_option maxHeartbeats 1600000 in
theorem compare_core (a0 b0 : Nat) (a1 a2 b1 b2 c1 c2 c3 c : Int) (w : World) (E : Hid (c = if c1 ≠ 0 then c1 else if c2 ≠ 0 then c2 else c3))
    (H1 : Hid (∀ w, Calls Try.prog 34 #[.agg #[.float .f64 a0, .int .i64 a1, .int .i64 a2], .agg #[.float .f64 b0, .int .i64 b1, .int .i64 b2]] w fun e w' => e = .returned (.int .i64 c1) ∧ Below w.heap.size w w'))
    (H2 : Hid (∀ w, Calls Try.prog 35 #[.agg #[.float .f64 a0, .int .i64 a1, .int .i64 a2], .agg #[.float .f64 b0, .int .i64 b1, .int .i64 b2]] w fun e w' => e = .returned (.int .i64 c2) ∧ Below w.heap.size w w'))
    (H3 : Hid (∀ w, Calls Try.prog 36 #[.agg #[.float .f64 a0, .int .i64 a1, .int .i64 a2], .agg #[.float .f64 b0, .int .i64 b1, .int .i64 b2]] w fun e w' => e = .returned (.int .i64 c3) ∧ Below w.heap.size w w')) :
    Calls Try.prog 19 #[.agg #[.float .f64 a0, .int .i64 a1, .int .i64 a2], .agg #[.float .f64 b0, .int .i64 b1, .int .i64 b2]] w fun e w' => e = .returned (.int .i64 c) ∧ Below w.heap.size w w' := by
  have H0 : Hid (CmpW ⟨a0, a1, a2⟩ ⟨b0, b1, b2⟩ w (((w.alloc (.cells #[.float .f64 a0, .int .i64 a1, .int .i64 a2] 30)).alloc (.cells #[.float .f64 b0, .int .i64 b1, .int .i64 b2] 30)).alloc (.cells #[.func (.func 34) #[] #[], .func (.func 35) #[] #[], .func (.func 36) #[] #[]] 49))) := by
    refine ⟨((balloc _ _).alloc (by simp) _).alloc (by simp; omega) _, by simp, ⟨?_, ?_, ?_⟩, ⟨?_, ?_, ?_⟩, ?_, ?_, ?_⟩ <;> go_simp
  go_enter Try.func19, Try.ntmps19
  go_wp2_with fail
  generalize (((w.alloc (.cells #[.float .f64 a0, .int .i64 a1, .int .i64 a2] 30)).alloc (.cells #[.float .f64 b0, .int .i64 b1, .int .i64 b2] 30)).alloc (.cells #[.func (.func 34) #[] #[], .func (.func 35) #[] #[], .func (.func 36) #[] #[]] 49)) = w3 at H0 ⊢
  go_loopw [10] (fun i wr => ∃ j : Nat, j ≤ 3 ∧ i = .int .i64 j ∧ CmpW ⟨a0, a1, a2⟩ ⟨b0, b1, b2⟩ w wr ∧ (0 < j → c1 = 0) ∧ (1 < j → c2 = 0) ∧ (2 < j → c3 = 0)) (fun i _ => 3 - (intOf i).toNat)
  case atStart => exact ⟨0, by omega, rfl, H0.out, by omega, by omega, by omega⟩
  case round =>
    obtain ⟨j, hj, rfl, hl, z1, z2, z3⟩ := hrel
    have HL := Lib.hid hl
    obtain ⟨hB, hS, ⟨x0, x1, x2⟩, ⟨y0, y1, y2⟩, f0, f1, f2⟩ := hl
    dsimp only at x0 x1 x2 y0 y1 y2
    have HB := Lib.hid hB
    clear hB hS
    rcases (by omega : j = 0 ∨ j = 1 ∨ j = 2 ∨ j = 3) with rfl | rfl | rfl | rfl
    · clear z1 z2 z3
      by_cases hc : c1 = 0
      · subst hc
        go_wp2_with (go_at_call 34; refine (H1.out _).mono ?_; rintro e w' ⟨rfl, hb⟩)
        go_roundw
        case rel => exact ⟨1, by omega, by go_num, cmpW_next HL.out hb, fun _ => by trivial, fun h => absurd h (by decide), fun h => absurd h (by decide)⟩
        case measure => simp [intOf]
      · have hne : (c1 != 0) = true := by simp [hc]
        have E2 : Hid (c = c1) := by rw [E.out]; simp [Hid, hc]
        clear hc E
        go_wp2_with (go_at_call 34; refine (H1.out _).mono ?_; rintro e w' ⟨rfl, hb⟩)
        go_ret
        exact ⟨by rw [E2.out]; rfl, bthen HB.out hb⟩
    · obtain rfl : c1 = 0 := z1 (by omega)
      clear z1 z2 z3
      by_cases hc : c2 = 0
      · subst hc
        go_wp2_with (go_at_call 35; refine (H2.out _).mono ?_; rintro e w' ⟨rfl, hb⟩)
        go_roundw
        case rel => exact ⟨2, by omega, by go_num, cmpW_next HL.out hb, fun _ => by trivial, fun _ => by trivial, fun h => absurd h (by decide)⟩
        case measure => simp [intOf]
      · have hne : (c2 != 0) = true := by simp [hc]
        have E2 : Hid (c = c2) := by rw [E.out]; simp [Hid, hc]
        clear hc E
        go_wp2_with (go_at_call 35; refine (H2.out _).mono ?_; rintro e w' ⟨rfl, hb⟩)
        go_ret
        exact ⟨by rw [E2.out]; rfl, bthen HB.out hb⟩
    · obtain rfl : c1 = 0 := z1 (by omega)
      obtain rfl : c2 = 0 := z2 (by omega)
      clear z1 z2 z3
      by_cases hc : c3 = 0
      · subst hc
        go_wp2_with (go_at_call 36; refine (H3.out _).mono ?_; rintro e w' ⟨rfl, hb⟩)
        go_roundw
        case rel => exact ⟨3, by omega, by go_num, cmpW_next HL.out hb, fun _ => by trivial, fun _ => by trivial, fun _ => by trivial⟩
        case measure => simp [intOf]
      · have hne : (c3 != 0) = true := by simp [hc]
        have E2 : Hid (c = c3) := by rw [E.out]; simp [Hid]
        clear hc E
        go_wp2_with (go_at_call 36; refine (H3.out _).mono ?_; rintro e w' ⟨rfl, hb⟩)
        go_ret
        exact ⟨by rw [E2.out]; rfl, bthen HB.out hb⟩
    · obtain rfl : c1 = 0 := z1 (by omega)
      obtain rfl : c2 = 0 := z2 (by omega)
      obtain rfl : c3 = 0 := z3 (by omega)
      clear z1 z2 z3
      have E2 : Hid (c = 0) := by rw [E.out]; simp [Hid]
      clear E
      go_wp2_with fail
      go_ret
      exact ⟨by rw [E2.out]; rfl, HB.out⟩

theorem compare_any (a b : Stp) (w : World) :
    Calls Try.prog 19 #[a.val, b.val] w fun e w' => e = .returned (.int .i64 (cmpS a b)) ∧ Below w.heap.size w w' :=
  compare_core a.t b.t a.src a.n b.src b.n _ _ _ (cmpS a b) w rfl (compareTime_any a b) (compareSource_any a b) (compareNumber_any a b)

/-- the document's own order -/
theorem cmpS_ref (a b : Stp) : cmpS a b = if cmpT a.t b.t ≠ 0 then cmpT a.t b.t else if a.src < b.src ∨ a.src = b.src ∧ a.n < b.n then -1 else if a.src = b.src ∧ a.n = b.n then 0 else 1 := by
  unfold cmpS
  by_cases h : cmpT a.t b.t = 0
  · have e : ∀ x y : Int, (if cmpT a.t b.t ≠ 0 then x else y) = y := fun x y => if_neg (fun k => k h)
    rw [e, e]
    unfold cmpI
    rcases Int.lt_trichotomy a.src b.src with h1 | h1 | h1
    · simp [h1]
    · rw [h1]
      rcases Int.lt_trichotomy a.n b.n with h2 | h2 | h2
      · simp [h2]
      · simp [h2]
      · have c1 : ¬ a.n < b.n := by omega
        have c2 : ¬ a.n = b.n := by omega
        simp [c1, c2]
    · have c1 : ¬ a.src < b.src := by omega
      have c2 : ¬ a.src = b.src := by omega
      simp [c1, c2]
  · rw [if_pos h, if_pos h]

set_option maxHeartbeats 1600000 in
theorem refCompare_core (a0 b0 : Nat) (a1 a2 b1 b2 c1 c : Int) (w : World) (E : Hid (c = if c1 ≠ 0 then c1 else if a1 < b1 ∨ a1 = b1 ∧ a2 < b2 then -1 else if a1 = b1 ∧ a2 = b2 then 0 else 1))
    (H1 : Hid (∀ w, Calls Try.prog 18 #[.float .f64 a0, .float .f64 b0] w fun e w' => e = .returned (.int .i64 c1) ∧ w = w')) :
    Calls Try.prog 20 #[.agg #[.float .f64 a0, .int .i64 a1, .int .i64 a2], .agg #[.float .f64 b0, .int .i64 b1, .int .i64 b2]] w fun e w' => e = .returned (.int .i64 c) ∧ Below w.heap.size w w' := by
  have HW : Hid (Below w.heap.size w ((w.alloc (.cells #[.float .f64 a0, .int .i64 a1, .int .i64 a2] 30)).alloc (.cells #[.float .f64 b0, .int .i64 b1, .int .i64 b2] 30))) := (balloc _ _).alloc (by simp) _
  by_cases hc : c1 = 0
  · subst hc
    rcases Int.lt_trichotomy a1 b1 with h1 | h1 | h1
    · have E2 : Hid (c = -1) := by rw [E.out]; simp [Hid, h1]
      clear E
      go_enter Try.func20, Try.ntmps20
      go_wp2_with (go_at_call 18; refine (H1.out _).mono ?_; rintro e w' ⟨rfl, rfl⟩)
      go_ret
      exact ⟨by rw [E2.out]; rfl, HW.out⟩
    · subst h1
      have n1 : ¬ a1 < a1 := by omega
      rcases Int.lt_trichotomy a2 b2 with h2 | h2 | h2
      · have E2 : Hid (c = -1) := by rw [E.out]; simp [Hid, h2]
        clear E
        go_enter Try.func20, Try.ntmps20
        go_wp2_with (go_at_call 18; refine (H1.out _).mono ?_; rintro e w' ⟨rfl, rfl⟩)
        go_ret
        exact ⟨by rw [E2.out]; rfl, HW.out⟩
      · subst h2
        have n2 : ¬ a2 < a2 := by omega
        have E2 : Hid (c = 0) := by rw [E.out]; simp [Hid]
        clear E
        go_enter Try.func20, Try.ntmps20
        go_wp2_with (go_at_call 18; refine (H1.out _).mono ?_; rintro e w' ⟨rfl, rfl⟩)
        go_ret
        exact ⟨by rw [E2.out]; rfl, HW.out⟩
      · have n2 : ¬ a2 < b2 := by omega
        have n3 : (a2 == b2) = false := by simp; omega
        have E2 : Hid (c = 1) := by rw [E.out]; simp [Hid, n2]; omega
        clear E h2
        go_enter Try.func20, Try.ntmps20
        go_wp2_with (go_at_call 18; refine (H1.out _).mono ?_; rintro e w' ⟨rfl, rfl⟩)
        go_ret
        exact ⟨by rw [E2.out]; rfl, HW.out⟩
    · have n1 : ¬ a1 < b1 := by omega
      have n3 : (a1 == b1) = false := by simp; omega
      have n4 : ¬ a1 = b1 := by omega
      have E2 : Hid (c = 1) := by rw [E.out]; simp [Hid, n1, n4]
      clear E h1 n4
      go_enter Try.func20, Try.ntmps20
      go_wp2_with (go_at_call 18; refine (H1.out _).mono ?_; rintro e w' ⟨rfl, rfl⟩)
      go_ret
      exact ⟨by rw [E2.out]; rfl, HW.out⟩
  · have hne : (c1 != 0) = true := by simp [hc]
    have E2 : Hid (c = c1) := by rw [E.out]; simp [Hid, hc]
    clear E hc
    go_enter Try.func20, Try.ntmps20
    go_wp2_with (go_at_call 18; refine (H1.out _).mono ?_; rintro e w' ⟨rfl, rfl⟩)
    go_ret
    exact ⟨by rw [E2.out]; rfl, HW.out⟩

theorem refCompare_any (a b : Stp) (w : World) :
    Calls Try.prog 20 #[a.val, b.val] w fun e w' => e = .returned (.int .i64 (cmpS a b)) ∧ Below w.heap.size w w' :=
  refCompare_core a.t b.t a.src a.n b.src b.n _ (cmpS a b) w (cmpS_ref a b) (refTimes_any a.t b.t)

end Go.Proofs.Ytlcfibmgegjklaa
