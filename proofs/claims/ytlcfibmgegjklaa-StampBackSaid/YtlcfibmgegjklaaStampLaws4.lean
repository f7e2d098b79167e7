/- The whole contract of the document's own Read, of its Same; the walks of the laws StampKeys, StampBack. -/
import Derived.Test.YtlcfibmgegjklaaStampRefRead
namespace Go.Proofs.Ytlcfibmgegjklaa
open Go.RowKit

theorem beq_of_eq {a b : ByteArray} (h : a = b) : (a.toList == b.toList) = true := by rw [h]; simp
theorem beq_of_ne {a b : ByteArray} (h : a ≠ b) : (a.toList == b.toList) = false := by
  rw [Bool.eq_false_iff]
  intro k
  apply h
  have k2 := beq_iff_eq.1 k
  rw [ByteArray.toList_eq, ByteArray.toList_eq] at k2
  exact Go.WideShapes.bytes_inj k2

theorem refKey_parts (t : Nat) (y z : Int) (ht : t < 18446744073709551616) (w : World) :
    Calls Try.prog 22 #[.agg #[.float .f64 t, .int .i64 y, .int .i64 z]] w fun e w' => e = seRet (keySpec ⟨t, y, z⟩) ∧ Below w.heap.size w w' := refKey_any ⟨t, y, z⟩ ht w
theorem key_parts (t : Nat) (y z : Int) (ht : t < 18446744073709551616) (w : World) :
    Calls Try.prog 21 #[.agg #[.float .f64 t, .int .i64 y, .int .i64 z]] w fun e w' => e = seRet (keySpec ⟨t, y, z⟩) ∧ Below w.heap.size w w' := key_any ⟨t, y, z⟩ ht w

theorem refRead2_any (s : ByteArray) (a : Int) (hs : s.size ≤ maxLen) (hw : -9223372036854775808 ≤ a ∧ a ≤ 9223372036854775807) (w : World) :
    Calls Try.prog 24 #[.string s, .int .i64 a] w fun e w' => e = sRet (readSpec s a) ∧ Below w.heap.size w w' := by
  have hm : (s.size : Int) ≤ 9223372036854775807 := by unfold maxLen at hs; omega
  by_cases h1 : a < 0 ∨ (s.size : Int) < a
  · have e : readSpec s a = (⟨0, 0, 0⟩, 0, 3) := by unfold readSpec; rw [if_pos h1]
    rw [e]
    refine refRead_e1 s a 0 0 3 w rfl (fun w => ?_)
    have := refReadU_any s a hs hw w; rwa [rd_range s a h1] at this
  by_cases h2 : (s.size : Int) - a < 8
  · have e : readSpec s a = (⟨0, 0, 0⟩, 0, 5) := by unfold readSpec; rw [if_neg h1, if_pos (by omega)]
    rw [e]
    refine refRead_e1 s a 0 0 5 w rfl (fun w => ?_)
    have := refReadU_any s a hs hw w; rwa [rd_short s a h1 h2] at this
  have H1 : ∀ w, Calls Try.prog 46 #[.string s, .int .i64 a] w fun e' w' => e' = .returned (.tuple #[.int .u64 (rdI s a.toNat 8), .int .i64 (a + 8), .int .i64 0]) ∧ w = w' := by
    intro w; have := refReadU_any s a hs hw w; rwa [rd_ok s a (by omega) h2] at this
  by_cases h3 : (s.size : Int) - a < 16
  · have e : readSpec s a = (⟨0, 0, 0⟩, 0, 5) := by unfold readSpec; rw [if_neg h1, if_pos (by omega)]
    rw [e]
    refine refRead_e2 s a (rdI s a.toNat 8) (a + 8) 0 0 5 w rfl H1 (fun w => ?_)
    have := refReadI_any s (a + 8) hs (by omega) w; rwa [rdi_short s (a + 8) (by omega) (by omega)] at this
  have H2 : ∀ w, Calls Try.prog 47 #[.string s, .int .i64 (a + 8)] w fun e' w' => e' = .returned (.tuple #[.int .i64 (unflip63 (rdI s (a + 8).toNat 8)), .int .i64 (a + 8 + 8), .int .i64 0]) ∧ w = w' := by
    intro w; have := refReadI_any s (a + 8) hs (by omega) w; rwa [rdi_ok s (a + 8) (by omega) (by omega)] at this
  by_cases h4 : (s.size : Int) - a < 24
  · have e : readSpec s a = (⟨0, 0, 0⟩, 0, 5) := by unfold readSpec; rw [if_neg h1, if_pos h4]
    rw [e]
    refine refRead_e3 s a (rdI s a.toNat 8) (a + 8) _ _ 0 0 5 w rfl H1 H2 (fun w => ?_)
    have := refReadI_any s (a + 8 + 8) hs (by omega) w; rwa [rdi_short s (a + 8 + 8) (by omega) (by omega)] at this
  have H3 : ∀ w, Calls Try.prog 47 #[.string s, .int .i64 (a + 8 + 8)] w fun e' w' => e' = .returned (.tuple #[.int .i64 (unflip63 (rdI s (a + 8 + 8).toNat 8)), .int .i64 ((a.toNat + 24 : Nat) : Int), .int .i64 0]) ∧ w = w' := by
    intro w; have := refReadI_any s (a + 8 + 8) hs (by omega) w; rw [rdi_ok s (a + 8 + 8) (by omega) (by omega)] at this
    rwa [show a + 8 + 8 + 8 = ((a.toNat + 24 : Nat) : Int) from by omega] at this
  obtain ⟨A, rfl⟩ := Int.eq_ofNat_of_zero_le (show 0 ≤ a by omega)
  have e8 : ((A : Int) + 8).toNat = A + 8 := by omega
  have e16 : ((A : Int) + 8 + 8).toNat = A + 16 := by omega
  have e24 : (A : Int) + 24 = ((A + 24 : Nat) : Int) := by omega
  rw [Int.toNat_natCast] at H1 H3
  rw [e8] at H2
  rw [e16] at H3
  have b0 := rdI8_nonneg s A
  have b1 := rdI8_bd s A
  have bt := timeN_bd _ b0 b1
  have kt := key_there s A (by omega)
  have fin : readSpec s A = if isKept (timeN (rdI s A 8)) then (⟨timeN (rdI s A 8), unflip63 (rdI s (A + 8) 8), unflip63 (rdI s (A + 16) 8)⟩, ((A + 24 : Nat) : Int), 0) else (⟨0, 0, 0⟩, 0, 7) := by
    unfold readSpec; rw [if_neg h1, if_neg h4, Int.toNat_natCast, e24]
  rw [fin]
  have HK := refKey_parts (timeN (rdI s A 8)) (unflip63 (rdI s (A + 8) 8)) (unflip63 (rdI s (A + 16) 8)) bt
  unfold keySpec at HK
  by_cases hn : isNum (timeN (rdI s A 8))
  · simp only [hn, if_true] at HK
    by_cases h5 : isKept (timeN (rdI s A 8))
    · rw [if_pos h5]
      have e5 := (kept_iff _ bt hn).1 h5
      rw [e5, kt] at HK
      exact refRead_e5 s (rdI s A 8) (A + 8) _ _ _ A (A + 24) _ _ w b0 b1 rfl H1 H2 H3 HK (by omega) (by omega) hs (beq_of_eq rfl)
    · rw [if_neg h5]
      refine refRead_e4 s (rdI s A 8) (A + 8) _ _ _ A (A + 24) _ _ w b0 b1 rfl H1 H2 H3 HK (by omega) (by omega) hs (beq_of_ne ?_)
      intro k
      rw [← kt] at k
      exact h5 ((kept_iff _ bt hn).2 (key_time (normT_bd _ bt) bt k))
  · simp only [hn, if_false] at HK
    rw [if_neg (fun k => hn k.1)]
    exact refRead_e6 s (rdI s A 8) (A + 8) _ _ _ A (A + 24) _ _ w b0 b1 rfl H1 H2 H3 HK (by omega) (by omega) hs

theorem same2_any (t : Nat) (y z : Int) (w : World) :
    Calls Try.prog 25 #[.agg #[.float .f64 t, .int .i64 y, .int .i64 z], .agg #[.float .f64 t, .int .i64 y, .int .i64 z]] w fun e w' => e = .returned (.bool true) ∧ Below w.heap.size w w' := by
  have hb := floatbits_run t
  have g1 : ((t : Int) == (t : Int)) = true := by simp
  have g2 : (y == y) = true := by simp
  have g3 : (z == z) = true := by simp
  have HW : Hid (Below w.heap.size w ((w.alloc (.cells #[.float .f64 t, .int .i64 y, .int .i64 z] 30)).alloc (.cells #[.float .f64 t, .int .i64 y, .int .i64 z] 30))) := (balloc _ _).alloc (by simp) _
  go_enter Try.func25, Try.ntmps25
  go_wp2_with fail
  go_quiet (fail)
  go_wp2_with fail
  go_ret
  exact ⟨rfl, bdrewN HW.out nq⟩

set_option maxHeartbeats 1600000 in
theorem stampKeys_core (a0 : Nat) (a1 a2 : Int) (b : ByteArray) (at0 : Int) (k : ByteArray) (e : Int) (x0 : Nat) (x1 x2 p g : Int) (w : World) (hb : b.size ≤ 3000)
    (H1 : Hid (∀ w, Calls Try.prog 21 #[.agg #[.float .f64 a0, .int .i64 a1, .int .i64 a2]] w fun e' w' => e' = .returned (.tuple #[.string k, .int .i64 e]) ∧ Below w.heap.size w w'))
    (H2 : Hid (∀ w, Calls Try.prog 22 #[.agg #[.float .f64 a0, .int .i64 a1, .int .i64 a2]] w fun e' w' => e' = .returned (.tuple #[.string k, .int .i64 e]) ∧ Below w.heap.size w w'))
    (H3 : Hid (∀ w, Calls Try.prog 23 #[.string b, .int .i64 at0] w fun e' w' => e' = .returned (.tuple #[.agg #[.float .f64 x0, .int .i64 x1, .int .i64 x2], .int .i64 p, .int .i64 g]) ∧ Below w.heap.size w w'))
    (H4 : Hid (∀ w, Calls Try.prog 24 #[.string b, .int .i64 at0] w fun e' w' => e' = .returned (.tuple #[.agg #[.float .f64 x0, .int .i64 x1, .int .i64 x2], .int .i64 p, .int .i64 g]) ∧ Below w.heap.size w w')) :
    Calls Try.prog 6 #[.agg #[.float .f64 a0, .int .i64 a1, .int .i64 a2], .string b, .int .i64 at0] w fun e w' => e = .returned (.bool true) ∧ Below w.heap.size w w' := by
  have hsf := store_float
  have hd : decide ((3000 : Int) < (b.size : Int)) = false := by simp; omega
  go_enter Try.func6, Try.ntmps6
  go_wp2_with fail
  have X0 := boxAt_new ⟨a0, a1, a2⟩ w 30
  have HW := Lib.hid (balloc w (.cells #[.float .f64 a0, .int .i64 a1, .int .i64 a2] 30))
  generalize (w.alloc (.cells #[.float .f64 a0, .int .i64 a1, .int .i64 a2] 30)) = W at X0 HW ⊢
  refine (H1.out _).mono ?_
  rintro e w1 ⟨rfl, hb1⟩
  have X1 := boxAt_below X0 hb1
  have XH1 := Lib.hid X1
  obtain ⟨_, p0, p1, p2⟩ := X1
  dsimp only at p0 p1 p2
  clear X0
  go_wp2_with fail
  refine (H2.out _).mono ?_
  rintro e w2 ⟨rfl, hb2⟩
  clear p0 p1 p2
  go_wp2_with fail
  refine (H3.out _).mono ?_
  rintro e w3 ⟨rfl, hb3⟩
  go_wp2_with fail
  have Y0 := boxAt_new ⟨x0, x1, x2⟩ w3 30
  have B3 := Lib.hid (bthen (bthen (bthen (bthen HW.out hb1) hb2) hb3) (balloc w3 (.cells #[.float .f64 x0, .int .i64 x1, .int .i64 x2] 30)))
  generalize (w3.alloc (.cells #[.float .f64 x0, .int .i64 x1, .int .i64 x2] 30)) = W3 at Y0 B3 ⊢
  refine (H4.out _).mono ?_
  rintro e w4 ⟨rfl, hb4⟩
  have Y1 := boxAt_below Y0 hb4
  clear Y0 hb1 hb2 hb3
  go_wp2_with fail
  have Y2 := boxAt_below Y1 (balloc w4 (.cells #[.float .f64 x0, .int .i64 x1, .int .i64 x2] 30))
  have Z0 := boxAt_new ⟨x0, x1, x2⟩ w4 30
  have B4 := Lib.hid (bthen (bthen B3.out hb4) (balloc w4 (.cells #[.float .f64 x0, .int .i64 x1, .int .i64 x2] 30)))
  generalize (w4.alloc (.cells #[.float .f64 x0, .int .i64 x1, .int .i64 x2] 30)) = W4 at Y2 Z0 B4 ⊢
  have YH := Lib.hid Y2
  have ZH := Lib.hid Z0
  clear Y1 hb4
  obtain ⟨_, y0, y1, y2⟩ := Y2
  obtain ⟨_, z0, z1, z2⟩ := Z0
  dsimp only at y0 y1 y2 z0 z1 z2
  have q1 : (k.toList == k.toList) = true := by simp
  have q2 : (e == e) = true := by simp
  have q3 : (p == p) = true := by simp
  have q4 : (g == g) = true := by simp
  refine (awake2_any _).mono ?_
  rintro e w5 ⟨rfl, hb5⟩
  have X1 := boxAt_below YH.out hb5
  have Y1 := boxAt_below ZH.out hb5
  clear y0 y1 y2 z0 z1 z2
  obtain ⟨_, p0, p1, p2⟩ := X1
  obtain ⟨_, q0, q1, q2⟩ := Y1
  dsimp only at p0 p1 p2 q0 q1 q2
  go_wp2_with fail
  refine (same2_any _ _ _ _).mono ?_
  rintro e w6 ⟨rfl, hb6⟩
  go_wp2_with fail
  go_ret
  exact ⟨by first | rfl | simp, bthen (bthen B4.out hb5) hb6⟩

set_option maxHeartbeats 1600000 in
theorem stampKeys_long (a0 : Nat) (a1 a2 : Int) (b : ByteArray) (at0 : Int) (k : ByteArray) (e : Int) (x0 : Nat) (x1 x2 p g : Int) (w : World) (hb : 3000 < b.size) (hm : b.size ≤ 9223372036854775807)
    (H1 : Hid (∀ w, Calls Try.prog 21 #[.agg #[.float .f64 a0, .int .i64 a1, .int .i64 a2]] w fun e' w' => e' = .returned (.tuple #[.string k, .int .i64 e]) ∧ Below w.heap.size w w'))
    (H2 : Hid (∀ w, Calls Try.prog 22 #[.agg #[.float .f64 a0, .int .i64 a1, .int .i64 a2]] w fun e' w' => e' = .returned (.tuple #[.string k, .int .i64 e]) ∧ Below w.heap.size w w'))
    (H3 : Hid (∀ w, Calls Try.prog 23 #[.string (b.extract 0 3000), .int .i64 at0] w fun e' w' => e' = .returned (.tuple #[.agg #[.float .f64 x0, .int .i64 x1, .int .i64 x2], .int .i64 p, .int .i64 g]) ∧ Below w.heap.size w w'))
    (H4 : Hid (∀ w, Calls Try.prog 24 #[.string (b.extract 0 3000), .int .i64 at0] w fun e' w' => e' = .returned (.tuple #[.agg #[.float .f64 x0, .int .i64 x1, .int .i64 x2], .int .i64 p, .int .i64 g]) ∧ Below w.heap.size w w')) :
    Calls Try.prog 6 #[.agg #[.float .f64 a0, .int .i64 a1, .int .i64 a2], .string b, .int .i64 at0] w fun e w' => e = .returned (.bool true) ∧ Below w.heap.size w w' := by
  have hsf := store_float
  have hd : decide ((3000 : Int) < (b.size : Int)) = true := by simp; omega
  go_enter Try.func6, Try.ntmps6
  go_wp2_with fail
  have X0 := boxAt_new ⟨a0, a1, a2⟩ w 30
  have HW := Lib.hid (balloc w (.cells #[.float .f64 a0, .int .i64 a1, .int .i64 a2] 30))
  generalize (w.alloc (.cells #[.float .f64 a0, .int .i64 a1, .int .i64 a2] 30)) = W at X0 HW ⊢
  refine (H1.out _).mono ?_
  rintro e w1 ⟨rfl, hb1⟩
  have X1 := boxAt_below X0 hb1
  have XH1 := Lib.hid X1
  obtain ⟨_, p0, p1, p2⟩ := X1
  dsimp only at p0 p1 p2
  clear X0
  go_wp2_with fail
  refine (H2.out _).mono ?_
  rintro e w2 ⟨rfl, hb2⟩
  clear p0 p1 p2
  go_wp2_with fail
  refine (H3.out _).mono ?_
  rintro e w3 ⟨rfl, hb3⟩
  go_wp2_with fail
  have Y0 := boxAt_new ⟨x0, x1, x2⟩ w3 30
  have B3 := Lib.hid (bthen (bthen (bthen (bthen HW.out hb1) hb2) hb3) (balloc w3 (.cells #[.float .f64 x0, .int .i64 x1, .int .i64 x2] 30)))
  generalize (w3.alloc (.cells #[.float .f64 x0, .int .i64 x1, .int .i64 x2] 30)) = W3 at Y0 B3 ⊢
  refine (H4.out _).mono ?_
  rintro e w4 ⟨rfl, hb4⟩
  have Y1 := boxAt_below Y0 hb4
  clear Y0 hb1 hb2 hb3
  go_wp2_with fail
  have Y2 := boxAt_below Y1 (balloc w4 (.cells #[.float .f64 x0, .int .i64 x1, .int .i64 x2] 30))
  have Z0 := boxAt_new ⟨x0, x1, x2⟩ w4 30
  have B4 := Lib.hid (bthen (bthen B3.out hb4) (balloc w4 (.cells #[.float .f64 x0, .int .i64 x1, .int .i64 x2] 30)))
  generalize (w4.alloc (.cells #[.float .f64 x0, .int .i64 x1, .int .i64 x2] 30)) = W4 at Y2 Z0 B4 ⊢
  have YH := Lib.hid Y2
  have ZH := Lib.hid Z0
  clear Y1 hb4
  obtain ⟨_, y0, y1, y2⟩ := Y2
  obtain ⟨_, z0, z1, z2⟩ := Z0
  dsimp only at y0 y1 y2 z0 z1 z2
  have q1 : (k.toList == k.toList) = true := by simp
  have q2 : (e == e) = true := by simp
  have q3 : (p == p) = true := by simp
  have q4 : (g == g) = true := by simp
  refine (awake2_any _).mono ?_
  rintro e w5 ⟨rfl, hb5⟩
  have X1 := boxAt_below YH.out hb5
  have Y1 := boxAt_below ZH.out hb5
  clear y0 y1 y2 z0 z1 z2
  obtain ⟨_, p0, p1, p2⟩ := X1
  obtain ⟨_, q0, q1, q2⟩ := Y1
  dsimp only at p0 p1 p2 q0 q1 q2
  go_wp2_with fail
  refine (same2_any _ _ _ _).mono ?_
  rintro e w6 ⟨rfl, hb6⟩
  go_wp2_with fail
  go_ret
  exact ⟨by first | rfl | simp, bthen (bthen B4.out hb5) hb6⟩


theorem i64_bd2 {x : Int} (h : (Lit.int .i64 x).wf = true) : -9223372036854775808 ≤ x ∧ x ≤ 9223372036854775807 := by
  simp [Lit.wf, IntKind.min, IntKind.max, IntKind.signed, IntKind.bits] at h; omega

theorem stampKeys_walk (a0 : Nat) (a1 a2 : Int) (b : ByteArray) (at0 : Int) (w : World) (h0 : (Lit.float .f64 a0).wf = true) (_ : (Lit.int .i64 a1).wf = true) (_ : (Lit.int .i64 a2).wf = true) (hb : b.size ≤ maxLen) (hat : (Lit.int .i64 at0).wf = true) :
    Calls Try.prog 6 #[.agg #[.float .f64 a0, .int .i64 a1, .int .i64 a2], .string b, .int .i64 at0] w fun e w' => e = .returned (.bool true) ∧ Below w.heap.size w w' := by
  have k1 := key_parts a0 a1 a2 (wf_lt h0)
  have k2 := refKey_parts a0 a1 a2 (wf_lt h0)
  have hb' : b.size ≤ 9223372036854775807 := hb
  by_cases h : b.size ≤ 3000
  · exact stampKeys_core a0 a1 a2 b at0 _ _ _ _ _ _ _ w h k1 k2 (read2_any b at0 hb (i64_bd2 hat)) (refRead2_any b at0 hb (i64_bd2 hat))
  · have hz : (b.extract 0 3000).size ≤ maxLen := by rw [ByteArray.size_extract]; unfold maxLen; omega
    exact stampKeys_long a0 a1 a2 b at0 _ _ _ _ _ _ _ w (by omega) hb' k1 k2 (read2_any _ at0 hz (i64_bd2 hat)) (refRead2_any _ at0 hz (i64_bd2 hat))

end Go.Proofs.Ytlcfibmgegjklaa
