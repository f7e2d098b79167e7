/- The walk of the law StampCompares. -/
import Derived.Test.YtlcfibmgegjklaaStampAwake
import Derived.Deep.RegionHeld3
namespace Go.Proofs.Ytlcfibmgegjklaa
open Go.RowKit

/-- a stamp lies in block n -/
def BoxAt (s : Stp) (n : Nat) (w : World) : Prop := n < w.heap.size ∧ w.cell? ⟨n, 0, none⟩ = some (.float .f64 s.t) ∧ w.cell? ⟨n, 1, none⟩ = some (.int .i64 s.src) ∧ w.cell? ⟨n, 2, none⟩ = some (.int .i64 s.n)
theorem boxAt_below {s : Stp} {n : Nat} {w w2 : World} (h : BoxAt s n w) (k : Below w.heap.size w w2) : BoxAt s n w2 := by
  obtain ⟨h0, h1, h2, h3⟩ := h
  have e : ∀ o : Nat, w2.cell? ⟨n, o, none⟩ = w.cell? ⟨n, o, none⟩ := fun o => k.cell h0
  exact ⟨Nat.lt_of_lt_of_le h0 k.size, by rw [e]; exact h1, by rw [e]; exact h2, by rw [e]; exact h3⟩
theorem boxAt_drew {s : Stp} {n : Nat} {w : World} (h : BoxAt s n w) : BoxAt s n w.drew := boxAt_below h (Below.refl _ _).drew
theorem boxAt_new (s : Stp) (w : World) (t : TypeId) : BoxAt s w.heap.size (w.alloc (.cells #[.float .f64 s.t, .int .i64 s.src, .int .i64 s.n] t)) := by
  refine ⟨by simp, ?_, ?_, ?_⟩ <;> go_simp

set_option maxHeartbeats 1600000 in
theorem stampCompares_core (a0 b0 : Nat) (a1 a2 b1 b2 c1 c : Int) (w : World)
    (H1 : Hid (∀ w, Calls Try.prog 17 #[.float .f64 a0, .float .f64 b0] w fun e w' => e = .returned (.int .i64 c1) ∧ w = w'))
    (H2 : Hid (∀ w, Calls Try.prog 18 #[.float .f64 a0, .float .f64 b0] w fun e w' => e = .returned (.int .i64 c1) ∧ w = w'))
    (H3 : Hid (∀ w, Calls Try.prog 19 #[.agg #[.float .f64 a0, .int .i64 a1, .int .i64 a2], .agg #[.float .f64 b0, .int .i64 b1, .int .i64 b2]] w fun e w' => e = .returned (.int .i64 c) ∧ Below w.heap.size w w'))
    (H4 : Hid (∀ w, Calls Try.prog 20 #[.agg #[.float .f64 a0, .int .i64 a1, .int .i64 a2], .agg #[.float .f64 b0, .int .i64 b1, .int .i64 b2]] w fun e w' => e = .returned (.int .i64 c) ∧ Below w.heap.size w w')) :
    Calls Try.prog 4 #[.agg #[.float .f64 a0, .int .i64 a1, .int .i64 a2], .agg #[.float .f64 b0, .int .i64 b1, .int .i64 b2]] w fun e w' => e = .returned (.bool true) ∧ Below w.heap.size w w' := by
  go_enter Try.func4, Try.ntmps4
  go_wp2_with fail
  have X0 : BoxAt ⟨a0, a1, a2⟩ w.heap.size ((w.alloc (.cells #[.float .f64 a0, .int .i64 a1, .int .i64 a2] 30)).alloc (.cells #[.float .f64 b0, .int .i64 b1, .int .i64 b2] 30)) := boxAt_below (boxAt_new ⟨a0, a1, a2⟩ w 30) (balloc _ _)
  have Y0 : BoxAt ⟨b0, b1, b2⟩ (w.heap.size + 1) ((w.alloc (.cells #[.float .f64 a0, .int .i64 a1, .int .i64 a2] 30)).alloc (.cells #[.float .f64 b0, .int .i64 b1, .int .i64 b2] 30)) := by
    have := boxAt_new ⟨b0, b1, b2⟩ (w.alloc (.cells #[.float .f64 a0, .int .i64 a1, .int .i64 a2] 30)) 30
    simpa using this
  have HW : Hid (Below w.heap.size w ((w.alloc (.cells #[.float .f64 a0, .int .i64 a1, .int .i64 a2] 30)).alloc (.cells #[.float .f64 b0, .int .i64 b1, .int .i64 b2] 30))) := (balloc _ _).alloc (by simp) _
  generalize ((w.alloc (.cells #[.float .f64 a0, .int .i64 a1, .int .i64 a2] 30)).alloc (.cells #[.float .f64 b0, .int .i64 b1, .int .i64 b2] 30)) = W at X0 Y0 HW ⊢
  have XH := Lib.hid X0
  have YH := Lib.hid Y0
  obtain ⟨_, x0, x1, x2⟩ := X0
  obtain ⟨_, y0, y1, y2⟩ := Y0
  dsimp only at x0 x1 x2 y0 y1 y2
  go_region_held3 (fun w' => (w'.cell? ⟨w.heap.size, 0, none⟩ = some (.float .f64 a0) ∧ w'.cell? ⟨w.heap.size, 1, none⟩ = some (.int .i64 a1) ∧ w'.cell? ⟨w.heap.size, 2, none⟩ = some (.int .i64 a2)) ∧ w'.cell? ⟨w.heap.size + 1, 0, none⟩ = some (.float .f64 b0) ∧ w'.cell? ⟨w.heap.size + 1, 1, none⟩ = some (.int .i64 b1) ∧ w'.cell? ⟨w.heap.size + 1, 2, none⟩ = some (.int .i64 b2)) (go_keep) (first
    | (go_at_call 15; refine (awake2_any _).mono ?_; rintro e w1 ⟨rfl, hb1⟩; have X1 := boxAt_below (boxAt_drew XH.out) hb1; have Y1 := boxAt_below (boxAt_drew YH.out) hb1; have XH1 := Lib.hid X1; have YH1 := Lib.hid Y1; obtain ⟨_, p0, p1, p2⟩ := X1; obtain ⟨_, q0, q1, q2⟩ := Y1; dsimp only at p0 p1 p2 q0 q1 q2)
    | (go_at_call 17; refine (H1.out _).mono ?_; rintro e w9 ⟨rfl, rfl⟩)
    | (go_at_call 18; refine (H2.out _).mono ?_; rintro e w9 ⟨rfl, rfl⟩)
    | (go_at_call 19; refine (H3.out _).mono ?_; rintro e w2 ⟨rfl, hb2⟩; have X2 := boxAt_below XH1.out hb2; have Y2 := boxAt_below YH1.out hb2; have XH2 := Lib.hid X2; have YH2 := Lib.hid Y2; obtain ⟨_, r0, r1, r2⟩ := X2; obtain ⟨_, s0, s1, s2⟩ := Y2; dsimp only at r0 r1 r2 s0 s1 s2)
    | (go_at_call 20; refine (H4.out _).mono ?_; rintro e w3 ⟨rfl, hb3⟩; have X3 := boxAt_below XH2.out hb3; have Y3 := boxAt_below YH2.out hb3; obtain ⟨_, u0, u1, u2⟩ := X3; obtain ⟨_, v0, v1, v2⟩ := Y3; dsimp only at u0 u1 u2 v0 v1 v2))
  go_wp2_with fail
  go_ret
  exact ⟨by first | rfl | simp, bthen (bthen (bthen HW.out.drew hb1) hb2) hb3⟩


theorem cmpI_vals (a b : Int) : cmpI a b = -1 ∨ cmpI a b = 0 ∨ cmpI a b = 1 := by unfold cmpI; split; simp; split <;> simp
theorem cmpI_spec (a b : Int) : (cmpI a b = -1 ∧ a < b) ∨ (cmpI a b = 0 ∧ a = b) ∨ (cmpI a b = 1 ∧ b < a) := by
  unfold cmpI
  rcases Int.lt_trichotomy a b with h | h | h
  · rw [if_pos h]; simp [h]
  · rw [if_neg (by omega), if_pos h]; simp [h]
  · rw [if_neg (by omega), if_neg (by omega)]; simp [h]
/-- what Compare's answer says -/
theorem cmpS_spec (a b : Stp) : (cmpS a b = -1 ∧ (frank a.t < frank b.t ∨ frank a.t = frank b.t ∧ (a.src < b.src ∨ a.src = b.src ∧ a.n < b.n))) ∨ (cmpS a b = 0 ∧ frank a.t = frank b.t ∧ a.src = b.src ∧ a.n = b.n) ∨ (cmpS a b = 1 ∧ (frank b.t < frank a.t ∨ frank a.t = frank b.t ∧ (b.src < a.src ∨ a.src = b.src ∧ b.n < a.n))) := by
  unfold cmpS cmpT
  rcases cmpI_spec (frank a.t) (frank b.t) with ⟨h1, k1⟩ | ⟨h1, k1⟩ | ⟨h1, k1⟩ <;> rw [h1]
  · simp; omega
  · rcases cmpI_spec a.src b.src with ⟨h2, k2⟩ | ⟨h2, k2⟩ | ⟨h2, k2⟩ <;> rw [h2]
    · simp; omega
    · rcases cmpI_spec a.n b.n with ⟨h3, k3⟩ | ⟨h3, k3⟩ | ⟨h3, k3⟩ <;> rw [h3]
      · simp; omega
      · simp; omega
      · simp; omega
    · simp; omega
  · simp; omega

theorem stampCompares_walk (a0 : Nat) (a1 a2 : Int) (b0 : Nat) (b1 b2 : Int) (w : World) (_ : (Lit.float .f64 a0).wf = true) (_ : (Lit.int .i64 a1).wf = true) (_ : (Lit.int .i64 a2).wf = true) (_ : (Lit.float .f64 b0).wf = true) (_ : (Lit.int .i64 b1).wf = true) (_ : (Lit.int .i64 b2).wf = true) :
    Calls Try.prog 4 #[.agg #[.float .f64 a0, .int .i64 a1, .int .i64 a2], .agg #[.float .f64 b0, .int .i64 b1, .int .i64 b2]] w fun e w' => e = .returned (.bool true) ∧ Below w.heap.size w w' :=
  stampCompares_core a0 b0 a1 a2 b1 b2 _ _ w (times_any a0 b0) (refTimes_any a0 b0) (compare_any ⟨a0, a1, a2⟩ ⟨b0, b1, b2⟩) (refCompare_any ⟨a0, a1, a2⟩ ⟨b0, b1, b2⟩)

end Go.Proofs.Ytlcfibmgegjklaa
