/- The walk of the law StampBack, case by case. -/
import Derived.Test.YtlcfibmgegjklaaStampLaws4
namespace Go.Proofs.Ytlcfibmgegjklaa
open Go.RowKit

set_option maxHeartbeats 1600000 in
theorem back_bl (a0 : Nat) (a1 a2 : Int) (b : ByteArray) (at0 : Int) (k : ByteArray) (w : World)
    (H1 : Hid (∀ w, Calls Try.prog 21 #[.agg #[.float .f64 a0, .int .i64 a1, .int .i64 a2]] w fun e' w' => e' = .returned (.tuple #[.string k, .int .i64 7]) ∧ Below w.heap.size w w'))
    (hb : 3000 < b.size) :
    Calls Try.prog 7 #[.agg #[.float .f64 a0, .int .i64 a1, .int .i64 a2], .string b, .int .i64 at0] w fun e w' => e = .returned (.bool true) ∧ Below w.heap.size w w' := by
  have hsf := store_float
  have hd : decide ((3000 : Int) < (b.size : Int)) = true := by simp; omega
  go_enter Try.func7, Try.ntmps7
  go_wp2_with fail
  have X0 := boxAt_new ⟨a0, a1, a2⟩ w 30
  have HW := Lib.hid (balloc w (.cells #[.float .f64 a0, .int .i64 a1, .int .i64 a2] 30))
  generalize (w.alloc (.cells #[.float .f64 a0, .int .i64 a1, .int .i64 a2] 30)) = W at X0 HW ⊢
  refine (H1.out _).mono ?_
  rintro e w1 ⟨rfl, hb1⟩
  have B1 := Lib.hid (bthen HW.out hb1)
  have X1 := boxAt_below X0 hb1
  clear X0 hb1
  go_wp2_with fail
  refine (awake2_any _).mono ?_
  rintro e w9 ⟨rfl, hb9⟩
  go_wp2_with fail
  go_ret
  exact ⟨rfl, bthen B1.out hb9⟩


set_option maxHeartbeats 1600000 in
theorem back_be (a0 : Nat) (a1 a2 : Int) (b : ByteArray) (at0 : Int) (k : ByteArray) (x0 : Nat) (x1 x2 p e : Int) (w : World)
    (H1 : Hid (∀ w, Calls Try.prog 21 #[.agg #[.float .f64 a0, .int .i64 a1, .int .i64 a2]] w fun e' w' => e' = .returned (.tuple #[.string k, .int .i64 7]) ∧ Below w.heap.size w w'))
    (hb : b.size ≤ 3000)
    (he : (e != 0) = true)
    (H5 : Hid (∀ w, Calls Try.prog 23 #[.string b, .int .i64 at0] w fun e' w' => e' = .returned (.tuple #[.agg #[.float .f64 x0, .int .i64 x1, .int .i64 x2], .int .i64 p, .int .i64 e]) ∧ Below w.heap.size w w')) :
    Calls Try.prog 7 #[.agg #[.float .f64 a0, .int .i64 a1, .int .i64 a2], .string b, .int .i64 at0] w fun e w' => e = .returned (.bool true) ∧ Below w.heap.size w w' := by
  have hsf := store_float
  have hd : decide ((3000 : Int) < (b.size : Int)) = false := by simp; omega
  go_enter Try.func7, Try.ntmps7
  go_wp2_with fail
  have X0 := boxAt_new ⟨a0, a1, a2⟩ w 30
  have HW := Lib.hid (balloc w (.cells #[.float .f64 a0, .int .i64 a1, .int .i64 a2] 30))
  generalize (w.alloc (.cells #[.float .f64 a0, .int .i64 a1, .int .i64 a2] 30)) = W at X0 HW ⊢
  refine (H1.out _).mono ?_
  rintro e w1 ⟨rfl, hb1⟩
  have B1 := Lib.hid (bthen HW.out hb1)
  have X1 := boxAt_below X0 hb1
  clear X0 hb1
  go_wp2_with fail
  refine (H5.out _).mono ?_
  rintro e w5 ⟨rfl, hb5⟩
  go_wp2_with fail
  refine (awake2_any _).mono ?_
  rintro e w9 ⟨rfl, hb9⟩
  go_wp2_with fail
  go_ret
  exact ⟨rfl, bthen (bthen (bthen B1.out hb5) (balloc _ _)) hb9⟩


set_option maxHeartbeats 1600000 in
theorem back_bo (a0 : Nat) (a1 a2 : Int) (b : ByteArray) (at0 : Nat) (k : ByteArray) (x0 : Nat) (x1 x2 : Int) (p : Nat) (w : World)
    (H1 : Hid (∀ w, Calls Try.prog 21 #[.agg #[.float .f64 a0, .int .i64 a1, .int .i64 a2]] w fun e' w' => e' = .returned (.tuple #[.string k, .int .i64 7]) ∧ Below w.heap.size w w'))
    (hb : b.size ≤ 3000)
    (H5 : Hid (∀ w, Calls Try.prog 23 #[.string b, .int .i64 at0] w fun e' w' => e' = .returned (.tuple #[.agg #[.float .f64 x0, .int .i64 x1, .int .i64 x2], .int .i64 p, .int .i64 0]) ∧ Below w.heap.size w w'))
    (h1 : at0 ≤ p)
    (h2 : p ≤ b.size)
    (H6 : Hid (∀ w, Calls Try.prog 21 #[.agg #[.float .f64 x0, .int .i64 x1, .int .i64 x2]] w fun e' w' => e' = .returned (.tuple #[.string (b.extract at0 p), .int .i64 0]) ∧ Below w.heap.size w w')) :
    Calls Try.prog 7 #[.agg #[.float .f64 a0, .int .i64 a1, .int .i64 a2], .string b, .int .i64 at0] w fun e w' => e = .returned (.bool true) ∧ Below w.heap.size w w' := by
  have hsf := store_float
  have hd : decide ((3000 : Int) < (b.size : Int)) = false := by simp; omega
  have qk : ((b.extract at0 p).toList == (b.extract at0 p).toList) = true := by simp
  go_enter Try.func7, Try.ntmps7
  go_wp2_with fail
  have X0 := boxAt_new ⟨a0, a1, a2⟩ w 30
  have HW := Lib.hid (balloc w (.cells #[.float .f64 a0, .int .i64 a1, .int .i64 a2] 30))
  generalize (w.alloc (.cells #[.float .f64 a0, .int .i64 a1, .int .i64 a2] 30)) = W at X0 HW ⊢
  refine (H1.out _).mono ?_
  rintro e w1 ⟨rfl, hb1⟩
  have B1 := Lib.hid (bthen HW.out hb1)
  have X1 := boxAt_below X0 hb1
  clear X0 hb1
  go_wp2_with fail
  refine (H5.out _).mono ?_
  rintro e w5 ⟨rfl, hb5⟩
  go_wp2_with fail
  have Z0 := boxAt_new ⟨x0, x1, x2⟩ w5 30
  have B5 := Lib.hid (bthen (bthen B1.out hb5) (balloc w5 (.cells #[.float .f64 x0, .int .i64 x1, .int .i64 x2] 30)))
  generalize (w5.alloc (.cells #[.float .f64 x0, .int .i64 x1, .int .i64 x2] 30)) = W5 at Z0 B5 ⊢
  clear Z0 hb5
  refine (H6.out _).mono ?_
  rintro e w6 ⟨rfl, hb6⟩
  go_wp2_with fail
  refine (awake2_any _).mono ?_
  rintro e w9 ⟨rfl, hb9⟩
  go_wp2_with fail
  go_ret
  exact ⟨by first | rfl | simp, bthen (bthen B5.out hb6) hb9⟩


set_option maxHeartbeats 1600000 in
theorem back_fl (a0 : Nat) (a1 a2 : Int) (b : ByteArray) (at0 : Int) (k : ByteArray) (t : Nat) (w : World)
    (H1 : Hid (∀ w, Calls Try.prog 21 #[.agg #[.float .f64 a0, .int .i64 a1, .int .i64 a2]] w fun e' w' => e' = .returned (.tuple #[.string k, .int .i64 0]) ∧ Below w.heap.size w w'))
    (H2 : Hid (∀ w, Calls Try.prog 23 #[.string k, .int .i64 0] w fun e' w' => e' = .returned (.tuple #[.agg #[.float .f64 t, .int .i64 a1, .int .i64 a2], .int .i64 24, .int .i64 0]) ∧ Below w.heap.size w w'))
    (H3 : Hid (∀ w, Calls Try.prog 19 #[.agg #[.float .f64 t, .int .i64 a1, .int .i64 a2], .agg #[.float .f64 a0, .int .i64 a1, .int .i64 a2]] w fun e' w' => e' = .returned (.int .i64 0) ∧ Below w.heap.size w w'))
    (H4 : Hid (∀ w, Calls Try.prog 26 #[.float .f64 t] w fun e w' => e = .returned (.bool false) ∧ w = w'))
    (hb : 3000 < b.size) :
    Calls Try.prog 7 #[.agg #[.float .f64 a0, .int .i64 a1, .int .i64 a2], .string b, .int .i64 at0] w fun e w' => e = .returned (.bool true) ∧ Below w.heap.size w w' := by
  have hsf := store_float
  have hd : decide ((3000 : Int) < (b.size : Int)) = true := by simp; omega
  go_enter Try.func7, Try.ntmps7
  go_wp2_with fail
  have X0 := boxAt_new ⟨a0, a1, a2⟩ w 30
  have HW := Lib.hid (balloc w (.cells #[.float .f64 a0, .int .i64 a1, .int .i64 a2] 30))
  generalize (w.alloc (.cells #[.float .f64 a0, .int .i64 a1, .int .i64 a2] 30)) = W at X0 HW ⊢
  refine (H1.out _).mono ?_
  rintro e w1 ⟨rfl, hb1⟩
  have B1 := Lib.hid (bthen HW.out hb1)
  have X1 := boxAt_below X0 hb1
  clear X0 hb1
  go_wp2_with fail
  refine (H2.out _).mono ?_
  rintro e w2 ⟨rfl, hb2⟩
  have X2 := boxAt_below X1 hb2
  have XH := Lib.hid X2
  obtain ⟨p9, p0, p1, p2⟩ := X2
  dsimp only at p0 p1 p2
  clear X1
  go_wp2_with fail
  have Y0 := boxAt_new ⟨t, a1, a2⟩ w2 30
  have B2 := Lib.hid (bthen (bthen B1.out hb2) (balloc w2 (.cells #[.float .f64 t, .int .i64 a1, .int .i64 a2] 30)))
  generalize (w2.alloc (.cells #[.float .f64 t, .int .i64 a1, .int .i64 a2] 30)) = W2 at Y0 B2 ⊢
  clear p9 p0 p1 p2 hb2
  refine (H3.out _).mono ?_
  rintro e w3 ⟨rfl, hb3⟩
  have Y1 := boxAt_below Y0 hb3
  have B3 := Lib.hid (bthen B2.out hb3)
  obtain ⟨_, q0, q1, q2⟩ := Y1
  dsimp only at q0 q1 q2
  clear Y0 hb3
  go_wp2_with fail
  refine (H4.out _).mono ?_
  rintro e w4 ⟨rfl, rfl⟩
  go_wp2_with fail
  refine (awake2_any _).mono ?_
  rintro e w9 ⟨rfl, hb9⟩
  go_wp2_with fail
  go_ret
  exact ⟨rfl, bthen B3.out hb9⟩


set_option maxHeartbeats 1600000 in
theorem back_fe (a0 : Nat) (a1 a2 : Int) (b : ByteArray) (at0 : Int) (k : ByteArray) (t : Nat) (x0 : Nat) (x1 x2 p e : Int) (w : World)
    (H1 : Hid (∀ w, Calls Try.prog 21 #[.agg #[.float .f64 a0, .int .i64 a1, .int .i64 a2]] w fun e' w' => e' = .returned (.tuple #[.string k, .int .i64 0]) ∧ Below w.heap.size w w'))
    (H2 : Hid (∀ w, Calls Try.prog 23 #[.string k, .int .i64 0] w fun e' w' => e' = .returned (.tuple #[.agg #[.float .f64 t, .int .i64 a1, .int .i64 a2], .int .i64 24, .int .i64 0]) ∧ Below w.heap.size w w'))
    (H3 : Hid (∀ w, Calls Try.prog 19 #[.agg #[.float .f64 t, .int .i64 a1, .int .i64 a2], .agg #[.float .f64 a0, .int .i64 a1, .int .i64 a2]] w fun e' w' => e' = .returned (.int .i64 0) ∧ Below w.heap.size w w'))
    (H4 : Hid (∀ w, Calls Try.prog 26 #[.float .f64 t] w fun e w' => e = .returned (.bool false) ∧ w = w'))
    (hb : b.size ≤ 3000)
    (he : (e != 0) = true)
    (H5 : Hid (∀ w, Calls Try.prog 23 #[.string b, .int .i64 at0] w fun e' w' => e' = .returned (.tuple #[.agg #[.float .f64 x0, .int .i64 x1, .int .i64 x2], .int .i64 p, .int .i64 e]) ∧ Below w.heap.size w w')) :
    Calls Try.prog 7 #[.agg #[.float .f64 a0, .int .i64 a1, .int .i64 a2], .string b, .int .i64 at0] w fun e w' => e = .returned (.bool true) ∧ Below w.heap.size w w' := by
  have hsf := store_float
  have hd : decide ((3000 : Int) < (b.size : Int)) = false := by simp; omega
  go_enter Try.func7, Try.ntmps7
  go_wp2_with fail
  have X0 := boxAt_new ⟨a0, a1, a2⟩ w 30
  have HW := Lib.hid (balloc w (.cells #[.float .f64 a0, .int .i64 a1, .int .i64 a2] 30))
  generalize (w.alloc (.cells #[.float .f64 a0, .int .i64 a1, .int .i64 a2] 30)) = W at X0 HW ⊢
  refine (H1.out _).mono ?_
  rintro e w1 ⟨rfl, hb1⟩
  have B1 := Lib.hid (bthen HW.out hb1)
  have X1 := boxAt_below X0 hb1
  clear X0 hb1
  go_wp2_with fail
  refine (H2.out _).mono ?_
  rintro e w2 ⟨rfl, hb2⟩
  have X2 := boxAt_below X1 hb2
  have XH := Lib.hid X2
  obtain ⟨p9, p0, p1, p2⟩ := X2
  dsimp only at p0 p1 p2
  clear X1
  go_wp2_with fail
  have Y0 := boxAt_new ⟨t, a1, a2⟩ w2 30
  have B2 := Lib.hid (bthen (bthen B1.out hb2) (balloc w2 (.cells #[.float .f64 t, .int .i64 a1, .int .i64 a2] 30)))
  generalize (w2.alloc (.cells #[.float .f64 t, .int .i64 a1, .int .i64 a2] 30)) = W2 at Y0 B2 ⊢
  clear p9 p0 p1 p2 hb2
  refine (H3.out _).mono ?_
  rintro e w3 ⟨rfl, hb3⟩
  have Y1 := boxAt_below Y0 hb3
  have B3 := Lib.hid (bthen B2.out hb3)
  obtain ⟨_, q0, q1, q2⟩ := Y1
  dsimp only at q0 q1 q2
  clear Y0 hb3
  go_wp2_with fail
  refine (H4.out _).mono ?_
  rintro e w4 ⟨rfl, rfl⟩
  go_wp2_with fail
  refine (H5.out _).mono ?_
  rintro e w5 ⟨rfl, hb5⟩
  go_wp2_with fail
  refine (awake2_any _).mono ?_
  rintro e w9 ⟨rfl, hb9⟩
  go_wp2_with fail
  go_ret
  exact ⟨rfl, bthen (bthen (bthen B3.out hb5) (balloc _ _)) hb9⟩


set_option maxHeartbeats 1600000 in
theorem back_fo (a0 : Nat) (a1 a2 : Int) (b : ByteArray) (at0 : Nat) (k : ByteArray) (t : Nat) (x0 : Nat) (x1 x2 : Int) (p : Nat) (w : World)
    (H1 : Hid (∀ w, Calls Try.prog 21 #[.agg #[.float .f64 a0, .int .i64 a1, .int .i64 a2]] w fun e' w' => e' = .returned (.tuple #[.string k, .int .i64 0]) ∧ Below w.heap.size w w'))
    (H2 : Hid (∀ w, Calls Try.prog 23 #[.string k, .int .i64 0] w fun e' w' => e' = .returned (.tuple #[.agg #[.float .f64 t, .int .i64 a1, .int .i64 a2], .int .i64 24, .int .i64 0]) ∧ Below w.heap.size w w'))
    (H3 : Hid (∀ w, Calls Try.prog 19 #[.agg #[.float .f64 t, .int .i64 a1, .int .i64 a2], .agg #[.float .f64 a0, .int .i64 a1, .int .i64 a2]] w fun e' w' => e' = .returned (.int .i64 0) ∧ Below w.heap.size w w'))
    (H4 : Hid (∀ w, Calls Try.prog 26 #[.float .f64 t] w fun e w' => e = .returned (.bool false) ∧ w = w'))
    (hb : b.size ≤ 3000)
    (H5 : Hid (∀ w, Calls Try.prog 23 #[.string b, .int .i64 at0] w fun e' w' => e' = .returned (.tuple #[.agg #[.float .f64 x0, .int .i64 x1, .int .i64 x2], .int .i64 p, .int .i64 0]) ∧ Below w.heap.size w w'))
    (h1 : at0 ≤ p)
    (h2 : p ≤ b.size)
    (H6 : Hid (∀ w, Calls Try.prog 21 #[.agg #[.float .f64 x0, .int .i64 x1, .int .i64 x2]] w fun e' w' => e' = .returned (.tuple #[.string (b.extract at0 p), .int .i64 0]) ∧ Below w.heap.size w w')) :
    Calls Try.prog 7 #[.agg #[.float .f64 a0, .int .i64 a1, .int .i64 a2], .string b, .int .i64 at0] w fun e w' => e = .returned (.bool true) ∧ Below w.heap.size w w' := by
  have hsf := store_float
  have hd : decide ((3000 : Int) < (b.size : Int)) = false := by simp; omega
  have qk : ((b.extract at0 p).toList == (b.extract at0 p).toList) = true := by simp
  go_enter Try.func7, Try.ntmps7
  go_wp2_with fail
  have X0 := boxAt_new ⟨a0, a1, a2⟩ w 30
  have HW := Lib.hid (balloc w (.cells #[.float .f64 a0, .int .i64 a1, .int .i64 a2] 30))
  generalize (w.alloc (.cells #[.float .f64 a0, .int .i64 a1, .int .i64 a2] 30)) = W at X0 HW ⊢
  refine (H1.out _).mono ?_
  rintro e w1 ⟨rfl, hb1⟩
  have B1 := Lib.hid (bthen HW.out hb1)
  have X1 := boxAt_below X0 hb1
  clear X0 hb1
  go_wp2_with fail
  refine (H2.out _).mono ?_
  rintro e w2 ⟨rfl, hb2⟩
  have X2 := boxAt_below X1 hb2
  have XH := Lib.hid X2
  obtain ⟨p9, p0, p1, p2⟩ := X2
  dsimp only at p0 p1 p2
  clear X1
  go_wp2_with fail
  have Y0 := boxAt_new ⟨t, a1, a2⟩ w2 30
  have B2 := Lib.hid (bthen (bthen B1.out hb2) (balloc w2 (.cells #[.float .f64 t, .int .i64 a1, .int .i64 a2] 30)))
  generalize (w2.alloc (.cells #[.float .f64 t, .int .i64 a1, .int .i64 a2] 30)) = W2 at Y0 B2 ⊢
  clear p9 p0 p1 p2 hb2
  refine (H3.out _).mono ?_
  rintro e w3 ⟨rfl, hb3⟩
  have Y1 := boxAt_below Y0 hb3
  have B3 := Lib.hid (bthen B2.out hb3)
  obtain ⟨_, q0, q1, q2⟩ := Y1
  dsimp only at q0 q1 q2
  clear Y0 hb3
  go_wp2_with fail
  refine (H4.out _).mono ?_
  rintro e w4 ⟨rfl, rfl⟩
  go_wp2_with fail
  refine (H5.out _).mono ?_
  rintro e w5 ⟨rfl, hb5⟩
  go_wp2_with fail
  have Z0 := boxAt_new ⟨x0, x1, x2⟩ w5 30
  have B5 := Lib.hid (bthen (bthen B3.out hb5) (balloc w5 (.cells #[.float .f64 x0, .int .i64 x1, .int .i64 x2] 30)))
  generalize (w5.alloc (.cells #[.float .f64 x0, .int .i64 x1, .int .i64 x2] 30)) = W5 at Z0 B5 ⊢
  clear Z0 hb5
  refine (H6.out _).mono ?_
  rintro e w6 ⟨rfl, hb6⟩
  go_wp2_with fail
  refine (awake2_any _).mono ?_
  rintro e w9 ⟨rfl, hb9⟩
  go_wp2_with fail
  go_ret
  exact ⟨by first | rfl | simp, bthen (bthen B5.out hb6) hb9⟩


set_option maxHeartbeats 1600000 in
theorem back_tl (a0 : Nat) (a1 a2 : Int) (b : ByteArray) (at0 : Int) (k : ByteArray) (t : Nat) (w : World)
    (H1 : Hid (∀ w, Calls Try.prog 21 #[.agg #[.float .f64 a0, .int .i64 a1, .int .i64 a2]] w fun e' w' => e' = .returned (.tuple #[.string k, .int .i64 0]) ∧ Below w.heap.size w w'))
    (H2 : Hid (∀ w, Calls Try.prog 23 #[.string k, .int .i64 0] w fun e' w' => e' = .returned (.tuple #[.agg #[.float .f64 t, .int .i64 a1, .int .i64 a2], .int .i64 24, .int .i64 0]) ∧ Below w.heap.size w w'))
    (H3 : Hid (∀ w, Calls Try.prog 19 #[.agg #[.float .f64 t, .int .i64 a1, .int .i64 a2], .agg #[.float .f64 a0, .int .i64 a1, .int .i64 a2]] w fun e' w' => e' = .returned (.int .i64 0) ∧ Below w.heap.size w w'))
    (H4 : Hid (∀ w, Calls Try.prog 26 #[.float .f64 t] w fun e w' => e = .returned (.bool true) ∧ w = w'))
    (hz : (FloatKind.f64.format.order t 0 == some Ordering.eq) = false)
    (hb : 3000 < b.size) :
    Calls Try.prog 7 #[.agg #[.float .f64 a0, .int .i64 a1, .int .i64 a2], .string b, .int .i64 at0] w fun e w' => e = .returned (.bool true) ∧ Below w.heap.size w w' := by
  have hsf := store_float
  have hd : decide ((3000 : Int) < (b.size : Int)) = true := by simp; omega
  go_enter Try.func7, Try.ntmps7
  go_wp2_with fail
  have X0 := boxAt_new ⟨a0, a1, a2⟩ w 30
  have HW := Lib.hid (balloc w (.cells #[.float .f64 a0, .int .i64 a1, .int .i64 a2] 30))
  generalize (w.alloc (.cells #[.float .f64 a0, .int .i64 a1, .int .i64 a2] 30)) = W at X0 HW ⊢
  refine (H1.out _).mono ?_
  rintro e w1 ⟨rfl, hb1⟩
  have B1 := Lib.hid (bthen HW.out hb1)
  have X1 := boxAt_below X0 hb1
  clear X0 hb1
  go_wp2_with fail
  refine (H2.out _).mono ?_
  rintro e w2 ⟨rfl, hb2⟩
  have X2 := boxAt_below X1 hb2
  have XH := Lib.hid X2
  obtain ⟨p9, p0, p1, p2⟩ := X2
  dsimp only at p0 p1 p2
  clear X1
  go_wp2_with fail
  have Y0 := boxAt_new ⟨t, a1, a2⟩ w2 30
  have B2 := Lib.hid (bthen (bthen B1.out hb2) (balloc w2 (.cells #[.float .f64 t, .int .i64 a1, .int .i64 a2] 30)))
  generalize (w2.alloc (.cells #[.float .f64 t, .int .i64 a1, .int .i64 a2] 30)) = W2 at Y0 B2 ⊢
  clear p9 p0 p1 p2 hb2
  refine (H3.out _).mono ?_
  rintro e w3 ⟨rfl, hb3⟩
  have Y1 := boxAt_below Y0 hb3
  have B3 := Lib.hid (bthen B2.out hb3)
  obtain ⟨_, q0, q1, q2⟩ := Y1
  dsimp only at q0 q1 q2
  clear Y0 hb3
  go_wp2_with fail
  refine (H4.out _).mono ?_
  rintro e w4 ⟨rfl, rfl⟩
  go_wp2_with fail
  refine (awake2_any _).mono ?_
  rintro e w9 ⟨rfl, hb9⟩
  go_wp2_with fail
  go_ret
  exact ⟨rfl, bthen B3.out hb9⟩


set_option maxHeartbeats 1600000 in
theorem back_te (a0 : Nat) (a1 a2 : Int) (b : ByteArray) (at0 : Int) (k : ByteArray) (t : Nat) (x0 : Nat) (x1 x2 p e : Int) (w : World)
    (H1 : Hid (∀ w, Calls Try.prog 21 #[.agg #[.float .f64 a0, .int .i64 a1, .int .i64 a2]] w fun e' w' => e' = .returned (.tuple #[.string k, .int .i64 0]) ∧ Below w.heap.size w w'))
    (H2 : Hid (∀ w, Calls Try.prog 23 #[.string k, .int .i64 0] w fun e' w' => e' = .returned (.tuple #[.agg #[.float .f64 t, .int .i64 a1, .int .i64 a2], .int .i64 24, .int .i64 0]) ∧ Below w.heap.size w w'))
    (H3 : Hid (∀ w, Calls Try.prog 19 #[.agg #[.float .f64 t, .int .i64 a1, .int .i64 a2], .agg #[.float .f64 a0, .int .i64 a1, .int .i64 a2]] w fun e' w' => e' = .returned (.int .i64 0) ∧ Below w.heap.size w w'))
    (H4 : Hid (∀ w, Calls Try.prog 26 #[.float .f64 t] w fun e w' => e = .returned (.bool true) ∧ w = w'))
    (hz : (FloatKind.f64.format.order t 0 == some Ordering.eq) = false)
    (hb : b.size ≤ 3000)
    (he : (e != 0) = true)
    (H5 : Hid (∀ w, Calls Try.prog 23 #[.string b, .int .i64 at0] w fun e' w' => e' = .returned (.tuple #[.agg #[.float .f64 x0, .int .i64 x1, .int .i64 x2], .int .i64 p, .int .i64 e]) ∧ Below w.heap.size w w')) :
    Calls Try.prog 7 #[.agg #[.float .f64 a0, .int .i64 a1, .int .i64 a2], .string b, .int .i64 at0] w fun e w' => e = .returned (.bool true) ∧ Below w.heap.size w w' := by
  have hsf := store_float
  have hd : decide ((3000 : Int) < (b.size : Int)) = false := by simp; omega
  go_enter Try.func7, Try.ntmps7
  go_wp2_with fail
  have X0 := boxAt_new ⟨a0, a1, a2⟩ w 30
  have HW := Lib.hid (balloc w (.cells #[.float .f64 a0, .int .i64 a1, .int .i64 a2] 30))
  generalize (w.alloc (.cells #[.float .f64 a0, .int .i64 a1, .int .i64 a2] 30)) = W at X0 HW ⊢
  refine (H1.out _).mono ?_
  rintro e w1 ⟨rfl, hb1⟩
  have B1 := Lib.hid (bthen HW.out hb1)
  have X1 := boxAt_below X0 hb1
  clear X0 hb1
  go_wp2_with fail
  refine (H2.out _).mono ?_
  rintro e w2 ⟨rfl, hb2⟩
  have X2 := boxAt_below X1 hb2
  have XH := Lib.hid X2
  obtain ⟨p9, p0, p1, p2⟩ := X2
  dsimp only at p0 p1 p2
  clear X1
  go_wp2_with fail
  have Y0 := boxAt_new ⟨t, a1, a2⟩ w2 30
  have B2 := Lib.hid (bthen (bthen B1.out hb2) (balloc w2 (.cells #[.float .f64 t, .int .i64 a1, .int .i64 a2] 30)))
  generalize (w2.alloc (.cells #[.float .f64 t, .int .i64 a1, .int .i64 a2] 30)) = W2 at Y0 B2 ⊢
  clear p9 p0 p1 p2 hb2
  refine (H3.out _).mono ?_
  rintro e w3 ⟨rfl, hb3⟩
  have Y1 := boxAt_below Y0 hb3
  have B3 := Lib.hid (bthen B2.out hb3)
  obtain ⟨_, q0, q1, q2⟩ := Y1
  dsimp only at q0 q1 q2
  clear Y0 hb3
  go_wp2_with fail
  refine (H4.out _).mono ?_
  rintro e w4 ⟨rfl, rfl⟩
  go_wp2_with fail
  refine (H5.out _).mono ?_
  rintro e w5 ⟨rfl, hb5⟩
  go_wp2_with fail
  refine (awake2_any _).mono ?_
  rintro e w9 ⟨rfl, hb9⟩
  go_wp2_with fail
  go_ret
  exact ⟨rfl, bthen (bthen (bthen B3.out hb5) (balloc _ _)) hb9⟩


set_option maxHeartbeats 1600000 in
theorem back_to (a0 : Nat) (a1 a2 : Int) (b : ByteArray) (at0 : Nat) (k : ByteArray) (t : Nat) (x0 : Nat) (x1 x2 : Int) (p : Nat) (w : World)
    (H1 : Hid (∀ w, Calls Try.prog 21 #[.agg #[.float .f64 a0, .int .i64 a1, .int .i64 a2]] w fun e' w' => e' = .returned (.tuple #[.string k, .int .i64 0]) ∧ Below w.heap.size w w'))
    (H2 : Hid (∀ w, Calls Try.prog 23 #[.string k, .int .i64 0] w fun e' w' => e' = .returned (.tuple #[.agg #[.float .f64 t, .int .i64 a1, .int .i64 a2], .int .i64 24, .int .i64 0]) ∧ Below w.heap.size w w'))
    (H3 : Hid (∀ w, Calls Try.prog 19 #[.agg #[.float .f64 t, .int .i64 a1, .int .i64 a2], .agg #[.float .f64 a0, .int .i64 a1, .int .i64 a2]] w fun e' w' => e' = .returned (.int .i64 0) ∧ Below w.heap.size w w'))
    (H4 : Hid (∀ w, Calls Try.prog 26 #[.float .f64 t] w fun e w' => e = .returned (.bool true) ∧ w = w'))
    (hz : (FloatKind.f64.format.order t 0 == some Ordering.eq) = false)
    (hb : b.size ≤ 3000)
    (H5 : Hid (∀ w, Calls Try.prog 23 #[.string b, .int .i64 at0] w fun e' w' => e' = .returned (.tuple #[.agg #[.float .f64 x0, .int .i64 x1, .int .i64 x2], .int .i64 p, .int .i64 0]) ∧ Below w.heap.size w w'))
    (h1 : at0 ≤ p)
    (h2 : p ≤ b.size)
    (H6 : Hid (∀ w, Calls Try.prog 21 #[.agg #[.float .f64 x0, .int .i64 x1, .int .i64 x2]] w fun e' w' => e' = .returned (.tuple #[.string (b.extract at0 p), .int .i64 0]) ∧ Below w.heap.size w w')) :
    Calls Try.prog 7 #[.agg #[.float .f64 a0, .int .i64 a1, .int .i64 a2], .string b, .int .i64 at0] w fun e w' => e = .returned (.bool true) ∧ Below w.heap.size w w' := by
  have hsf := store_float
  have hd : decide ((3000 : Int) < (b.size : Int)) = false := by simp; omega
  have qk : ((b.extract at0 p).toList == (b.extract at0 p).toList) = true := by simp
  go_enter Try.func7, Try.ntmps7
  go_wp2_with fail
  have X0 := boxAt_new ⟨a0, a1, a2⟩ w 30
  have HW := Lib.hid (balloc w (.cells #[.float .f64 a0, .int .i64 a1, .int .i64 a2] 30))
  generalize (w.alloc (.cells #[.float .f64 a0, .int .i64 a1, .int .i64 a2] 30)) = W at X0 HW ⊢
  refine (H1.out _).mono ?_
  rintro e w1 ⟨rfl, hb1⟩
  have B1 := Lib.hid (bthen HW.out hb1)
  have X1 := boxAt_below X0 hb1
  clear X0 hb1
  go_wp2_with fail
  refine (H2.out _).mono ?_
  rintro e w2 ⟨rfl, hb2⟩
  have X2 := boxAt_below X1 hb2
  have XH := Lib.hid X2
  obtain ⟨p9, p0, p1, p2⟩ := X2
  dsimp only at p0 p1 p2
  clear X1
  go_wp2_with fail
  have Y0 := boxAt_new ⟨t, a1, a2⟩ w2 30
  have B2 := Lib.hid (bthen (bthen B1.out hb2) (balloc w2 (.cells #[.float .f64 t, .int .i64 a1, .int .i64 a2] 30)))
  generalize (w2.alloc (.cells #[.float .f64 t, .int .i64 a1, .int .i64 a2] 30)) = W2 at Y0 B2 ⊢
  clear p9 p0 p1 p2 hb2
  refine (H3.out _).mono ?_
  rintro e w3 ⟨rfl, hb3⟩
  have Y1 := boxAt_below Y0 hb3
  have B3 := Lib.hid (bthen B2.out hb3)
  obtain ⟨_, q0, q1, q2⟩ := Y1
  dsimp only at q0 q1 q2
  clear Y0 hb3
  go_wp2_with fail
  refine (H4.out _).mono ?_
  rintro e w4 ⟨rfl, rfl⟩
  go_wp2_with fail
  refine (H5.out _).mono ?_
  rintro e w5 ⟨rfl, hb5⟩
  go_wp2_with fail
  have Z0 := boxAt_new ⟨x0, x1, x2⟩ w5 30
  have B5 := Lib.hid (bthen (bthen B3.out hb5) (balloc w5 (.cells #[.float .f64 x0, .int .i64 x1, .int .i64 x2] 30)))
  generalize (w5.alloc (.cells #[.float .f64 x0, .int .i64 x1, .int .i64 x2] 30)) = W5 at Z0 B5 ⊢
  clear Z0 hb5
  refine (H6.out _).mono ?_
  rintro e w6 ⟨rfl, hb6⟩
  go_wp2_with fail
  refine (awake2_any _).mono ?_
  rintro e w9 ⟨rfl, hb9⟩
  go_wp2_with fail
  go_ret
  exact ⟨by first | rfl | simp, bthen (bthen B5.out hb6) hb9⟩


end Go.Proofs.Ytlcfibmgegjklaa
