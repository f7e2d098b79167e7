/- The walk of the law StampOrders. -/
import Derived.Test.YtlcfibmgegjklaaStampLaws2
namespace Go.Proofs.Ytlcfibmgegjklaa
open Go.RowKit

/-- three stamps lie in three blocks behind w's -/
def Box3 (a b c : Stp) (w W : World) : Prop := BoxAt a w.heap.size W ∧ BoxAt b (w.heap.size + 1) W ∧ BoxAt c (w.heap.size + 1 + 1) W ∧ Below w.heap.size w W
theorem box3_next {a b c : Stp} {w W W2 : World} (h : Box3 a b c w W) (k : Below W.heap.size W W2) : Box3 a b c w W2 := ⟨boxAt_below h.1 k, boxAt_below h.2.1 k, boxAt_below h.2.2.1 k, bthen h.2.2.2 k⟩
theorem box3_drew {a b c : Stp} {w W W2 : World} (h : Box3 a b c w W) (k : Below W.drew.heap.size W.drew W2) : Box3 a b c w W2 := box3_next (box3_next h (Below.refl _ _).drew) k

set_option maxHeartbeats 3200000 in
theorem stampOrders_core (C : Nat → Int → Int → Nat → Int → Int → Int) (a0 b0 c0 : Nat) (a1 a2 b1 b2 c1 c2 : Int) (w : World)
    (HC : Hid (∀ (p0 : Nat) (p1 p2 : Int) (q0 : Nat) (q1 q2 : Int) w, Calls Try.prog 19 #[.agg #[.float .f64 p0, .int .i64 p1, .int .i64 p2], .agg #[.float .f64 q0, .int .i64 q1, .int .i64 q2]] w fun e w' => e = .returned (.int .i64 (C p0 p1 p2 q0 q1 q2)) ∧ Below w.heap.size w w'))
    (K0 : C a0 a1 a2 a0 a1 a2 = 0) (K1 : Hid (C b0 b1 b2 a0 a1 a2 = - C a0 a1 a2 b0 b1 b2))
    (K : Hid ((C a0 a1 a2 b0 b1 b2 = -1 ∨ C a0 a1 a2 b0 b1 b2 = 0 ∨ C a0 a1 a2 b0 b1 b2 = 1) ∧ (C b0 b1 b2 c0 c1 c2 = -1 ∨ C b0 b1 b2 c0 c1 c2 = 0 ∨ C b0 b1 b2 c0 c1 c2 = 1) ∧ (C a0 a1 a2 c0 c1 c2 = -1 ∨ C a0 a1 a2 c0 c1 c2 = 0 ∨ C a0 a1 a2 c0 c1 c2 = 1) ∧ (C a0 a1 a2 b0 b1 b2 ≤ 0 → C b0 b1 b2 c0 c1 c2 ≤ 0 → C a0 a1 a2 c0 c1 c2 ≤ 0) ∧ (C a0 a1 a2 b0 b1 b2 < 0 → C b0 b1 b2 c0 c1 c2 ≤ 0 → C a0 a1 a2 c0 c1 c2 < 0) ∧ (C a0 a1 a2 b0 b1 b2 ≤ 0 → C b0 b1 b2 c0 c1 c2 < 0 → C a0 a1 a2 c0 c1 c2 < 0))) :
    Calls Try.prog 5 #[.agg #[.float .f64 a0, .int .i64 a1, .int .i64 a2], .agg #[.float .f64 b0, .int .i64 b1, .int .i64 b2], .agg #[.float .f64 c0, .int .i64 c1, .int .i64 c2]] w fun e w' => e = .returned (.bool true) ∧ Below w.heap.size w w' := by
  have hneg : (C b0 b1 b2 a0 a1 a2 != wrap64 (-C a0 a1 a2 b0 b1 b2)) = false := by
    have k := K1.out
    have kk := K.out.1
    unfold wrap64
    have : (-C a0 a1 a2 b0 b1 b2 + 9223372036854775808) % 18446744073709551616 - 9223372036854775808 = -C a0 a1 a2 b0 b1 b2 := by omega
    rw [this, k]; simp
  go_enter Try.func5, Try.ntmps5
  go_wp2_with fail
  have X0 : Box3 ⟨a0, a1, a2⟩ ⟨b0, b1, b2⟩ ⟨c0, c1, c2⟩ w (((w.alloc (.cells #[.float .f64 a0, .int .i64 a1, .int .i64 a2] 30)).alloc (.cells #[.float .f64 b0, .int .i64 b1, .int .i64 b2] 30)).alloc (.cells #[.float .f64 c0, .int .i64 c1, .int .i64 c2] 30)) := by
    refine ⟨boxAt_below (boxAt_below (boxAt_new ⟨a0, a1, a2⟩ w 30) (balloc _ _)) (balloc _ _), ?_, ?_, ((balloc _ _).alloc (by simp) _).alloc (by simp; omega) _⟩
    · have := boxAt_below (boxAt_new ⟨b0, b1, b2⟩ (w.alloc (.cells #[.float .f64 a0, .int .i64 a1, .int .i64 a2] 30)) 30) (balloc _ (.cells #[.float .f64 c0, .int .i64 c1, .int .i64 c2] 30))
      simpa using this
    · have := boxAt_new ⟨c0, c1, c2⟩ ((w.alloc (.cells #[.float .f64 a0, .int .i64 a1, .int .i64 a2] 30)).alloc (.cells #[.float .f64 b0, .int .i64 b1, .int .i64 b2] 30)) 30
      simpa using this
  generalize (((w.alloc (.cells #[.float .f64 a0, .int .i64 a1, .int .i64 a2] 30)).alloc (.cells #[.float .f64 b0, .int .i64 b1, .int .i64 b2] 30)).alloc (.cells #[.float .f64 c0, .int .i64 c1, .int .i64 c2] 30)) = W at X0 ⊢
  have XH := Lib.hid X0
  obtain ⟨⟨_, x0, x1, x2⟩, ⟨_, y0, y1, y2⟩, ⟨_, z0, z1, z2⟩, _⟩ := X0
  dsimp only at x0 x1 x2 y0 y1 y2 z0 z1 z2
  go_region_held3 (fun w' => (w'.cell? ⟨w.heap.size, 0, none⟩ = some (.float .f64 a0) ∧ w'.cell? ⟨w.heap.size, 1, none⟩ = some (.int .i64 a1) ∧ w'.cell? ⟨w.heap.size, 2, none⟩ = some (.int .i64 a2)) ∧ (w'.cell? ⟨w.heap.size + 1, 0, none⟩ = some (.float .f64 b0) ∧ w'.cell? ⟨w.heap.size + 1, 1, none⟩ = some (.int .i64 b1) ∧ w'.cell? ⟨w.heap.size + 1, 2, none⟩ = some (.int .i64 b2)) ∧ w'.cell? ⟨w.heap.size + 1 + 1, 0, none⟩ = some (.float .f64 c0) ∧ w'.cell? ⟨w.heap.size + 1 + 1, 1, none⟩ = some (.int .i64 c1) ∧ w'.cell? ⟨w.heap.size + 1 + 1, 2, none⟩ = some (.int .i64 c2)) (go_keep) (first
    | (go_at_call 19; refine (HC.out _ _ _ _ _ _ _).mono ?_; rintro e w1 ⟨rfl, hb1⟩; (first | (have XN := box3_next XH.out hb1) | (have XN := box3_drew XH.out hb1)); have XH := Lib.hid XN; obtain ⟨⟨_, x0, x1, x2⟩, ⟨_, y0, y1, y2⟩, ⟨_, z0, z1, z2⟩, _⟩ := XN; dsimp only at x0 x1 x2 y0 y1 y2 z0 z1 z2))
  go_wp2_with fail
  refine (HC.out _ _ _ _ _ _ _).mono ?_
  rintro e w4 ⟨rfl, hb4⟩
  have XN := box3_next XH.out hb4
  have XH4 := Lib.hid XN
  obtain ⟨⟨_, x40, x41, x42⟩, ⟨_, y40, y41, y42⟩, _, _⟩ := XN
  dsimp only at x40 x41 x42 y40 y41 y42
  go_wp2_with fail
  refine (HC.out _ _ _ _ _ _ _).mono ?_
  rintro e w5 ⟨rfl, hb5⟩
  have XH5 := Lib.hid (box3_next XH4.out hb5)
  go_wp2_with fail
  refine (awake2_any _).mono ?_
  rintro e w6 ⟨rfl, hb6⟩
  have HB6 := Lib.hid (box3_next XH5.out hb6).2.2.2
  obtain ⟨kx, ky, kz, k1, k2, k3⟩ := K.out
  clear K K0 K1 hneg HC XH XH4 XH5
  generalize C a0 a1 a2 b0 b1 b2 = x at *
  generalize C b0 b1 b2 c0 c1 c2 = y at *
  generalize C a0 a1 a2 c0 c1 c2 = z at *
  rcases kx with rfl | rfl | rfl <;> rcases ky with rfl | rfl | rfl <;> rcases kz with rfl | rfl | rfl
  all_goals first
    | (exfalso; revert k1 k2 k3; decide)
    | (clear k1 k2 k3
       go_wp2_with fail
       go_ret
       exact ⟨rfl, HB6.out⟩)

theorem stampOrders_walk (a0 : Nat) (a1 a2 : Int) (b0 : Nat) (b1 b2 : Int) (c0 : Nat) (c1 c2 : Int) (w : World) (_ : (Lit.float .f64 a0).wf = true) (_ : (Lit.int .i64 a1).wf = true) (_ : (Lit.int .i64 a2).wf = true) (_ : (Lit.float .f64 b0).wf = true) (_ : (Lit.int .i64 b1).wf = true) (_ : (Lit.int .i64 b2).wf = true) (_ : (Lit.float .f64 c0).wf = true) (_ : (Lit.int .i64 c1).wf = true) (_ : (Lit.int .i64 c2).wf = true) :
    Calls Try.prog 5 #[.agg #[.float .f64 a0, .int .i64 a1, .int .i64 a2], .agg #[.float .f64 b0, .int .i64 b1, .int .i64 b2], .agg #[.float .f64 c0, .int .i64 c1, .int .i64 c2]] w fun e w' => e = .returned (.bool true) ∧ Below w.heap.size w w' := by
  have h1 := cmpS_spec ⟨a0, a1, a2⟩ ⟨b0, b1, b2⟩
  have h2 := cmpS_spec ⟨b0, b1, b2⟩ ⟨c0, c1, c2⟩
  have h3 := cmpS_spec ⟨a0, a1, a2⟩ ⟨c0, c1, c2⟩
  have h4 := cmpS_spec ⟨a0, a1, a2⟩ ⟨a0, a1, a2⟩
  have h5 := cmpS_spec ⟨b0, b1, b2⟩ ⟨a0, a1, a2⟩
  dsimp only at h1 h2 h3 h4 h5
  refine stampOrders_core (fun p0 p1 p2 q0 q1 q2 => cmpS ⟨p0, p1, p2⟩ ⟨q0, q1, q2⟩) a0 b0 c0 a1 a2 b1 b2 c1 c2 w (fun p0 p1 p2 q0 q1 q2 => compare_any ⟨p0, p1, p2⟩ ⟨q0, q1, q2⟩) ?_ ?_ ?_
  · omega
  · unfold Hid; omega
  · unfold Hid; refine ⟨?_, ?_, ?_, ?_, ?_, ?_⟩ <;> omega

end Go.Proofs.Ytlcfibmgegjklaa
