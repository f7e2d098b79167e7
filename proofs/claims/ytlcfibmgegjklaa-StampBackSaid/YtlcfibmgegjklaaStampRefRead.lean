/- The contract of the document's own Read. -/
import Derived.Test.YtlcfibmgegjklaaStampRead
namespace Go.Proofs.Ytlcfibmgegjklaa
open Go.RowKit

set_option maxHeartbeats 1600000 in
theorem refRead_e1 (s : ByteArray) (a x p : Int) (e : Int) (w : World)
    (he : (e != 0) = true)
    (H1 : Hid (∀ w, Calls Try.prog 46 #[.string s, .int .i64 a] w fun e' w' => e' = .returned (.tuple #[.int .u64 x, .int .i64 p, .int .i64 e]) ∧ w = w')) :
    Calls Try.prog 24 #[.string s, .int .i64 a] w fun e' w' => e' = sRet (⟨0, 0, 0⟩, 0, e) ∧ Below w.heap.size w w' := by
  have hsf := store_float
  go_enter Try.func24, Try.ntmps24
  go_wp2_with (first | (go_at_call 46; (with_reducible refine (H1.out _).mono ?_); rintro e w' ⟨rfl, rfl⟩))
  exact bodyPost_ret (v := .tuple #[.agg #[.float .f64 0, .int .i64 0, .int .i64 0], .int .i64 (0), .int .i64 e]) (by simp [results, Try.results24, go_sem]) rfl ⟨rfl, by first | exact balloc _ _ | exact (balloc _ _).alloc (by simp) _⟩

set_option maxHeartbeats 1600000 in
theorem refRead_e2 (s : ByteArray) (a x p : Int) (y q e : Int) (w : World)
    (he : (e != 0) = true)
    (H1 : Hid (∀ w, Calls Try.prog 46 #[.string s, .int .i64 a] w fun e' w' => e' = .returned (.tuple #[.int .u64 x, .int .i64 p, .int .i64 0]) ∧ w = w'))
    (H2 : Hid (∀ w, Calls Try.prog 47 #[.string s, .int .i64 p] w fun e' w' => e' = .returned (.tuple #[.int .i64 y, .int .i64 q, .int .i64 e]) ∧ w = w')) :
    Calls Try.prog 24 #[.string s, .int .i64 a] w fun e' w' => e' = sRet (⟨0, 0, 0⟩, 0, e) ∧ Below w.heap.size w w' := by
  have hsf := store_float
  go_enter Try.func24, Try.ntmps24
  go_wp2_with (first | (go_at_call 46; (with_reducible refine (H1.out _).mono ?_); rintro e w' ⟨rfl, rfl⟩) | (go_at_call 47; (with_reducible refine (H2.out _).mono ?_); rintro e w' ⟨rfl, rfl⟩))
  exact bodyPost_ret (v := .tuple #[.agg #[.float .f64 0, .int .i64 0, .int .i64 0], .int .i64 (0), .int .i64 e]) (by simp [results, Try.results24, go_sem]) rfl ⟨rfl, by first | exact balloc _ _ | exact (balloc _ _).alloc (by simp) _⟩

set_option maxHeartbeats 1600000 in
theorem refRead_e3 (s : ByteArray) (a x p : Int) (y q z r e : Int) (w : World)
    (he : (e != 0) = true)
    (H1 : Hid (∀ w, Calls Try.prog 46 #[.string s, .int .i64 a] w fun e' w' => e' = .returned (.tuple #[.int .u64 x, .int .i64 p, .int .i64 0]) ∧ w = w'))
    (H2 : Hid (∀ w, Calls Try.prog 47 #[.string s, .int .i64 p] w fun e' w' => e' = .returned (.tuple #[.int .i64 y, .int .i64 q, .int .i64 0]) ∧ w = w'))
    (H3 : Hid (∀ w, Calls Try.prog 47 #[.string s, .int .i64 q] w fun e' w' => e' = .returned (.tuple #[.int .i64 z, .int .i64 r, .int .i64 e]) ∧ w = w')) :
    Calls Try.prog 24 #[.string s, .int .i64 a] w fun e' w' => e' = sRet (⟨0, 0, 0⟩, 0, e) ∧ Below w.heap.size w w' := by
  have hsf := store_float
  go_enter Try.func24, Try.ntmps24
  go_wp2_with (first | (go_at_call 46; (with_reducible refine (H1.out _).mono ?_); rintro e w' ⟨rfl, rfl⟩) | (go_at_call 47; (with_reducible refine (H2.out _).mono ?_); rintro e w' ⟨rfl, rfl⟩) | (go_at_call 47; (with_reducible refine (H3.out _).mono ?_); rintro e w' ⟨rfl, rfl⟩))
  exact bodyPost_ret (v := .tuple #[.agg #[.float .f64 0, .int .i64 0, .int .i64 0], .int .i64 (0), .int .i64 e]) (by simp [results, Try.results24, go_sem]) rfl ⟨rfl, by first | exact balloc _ _ | exact (balloc _ _).alloc (by simp) _⟩

set_option maxHeartbeats 1600000 in
set_option linter.unusedVariables false in
theorem refRead_e6 (s : ByteArray) (x p y q z : Int) (a R t : Nat) (k : ByteArray) (w : World) (hx0 : 0 ≤ x) (hx1 : x ≤ 18446744073709551615) (E : Hid (timeN x = t))
    (H1 : Hid (∀ w, Calls Try.prog 46 #[.string s, .int .i64 a] w fun e' w' => e' = .returned (.tuple #[.int .u64 x, .int .i64 p, .int .i64 0]) ∧ w = w'))
    (H2 : Hid (∀ w, Calls Try.prog 47 #[.string s, .int .i64 p] w fun e' w' => e' = .returned (.tuple #[.int .i64 y, .int .i64 q, .int .i64 0]) ∧ w = w'))
    (H3 : Hid (∀ w, Calls Try.prog 47 #[.string s, .int .i64 q] w fun e' w' => e' = .returned (.tuple #[.int .i64 z, .int .i64 R, .int .i64 0]) ∧ w = w'))
    (H5 : Hid (∀ w, Calls Try.prog 22 #[.agg #[.float .f64 t, .int .i64 y, .int .i64 z]] w fun e w' => e = .returned (.tuple #[.string k, .int .i64 7]) ∧ Below w.heap.size w w'))
    (har : a ≤ R) (hrs : R ≤ s.size) (hs : s.size ≤ maxLen)  :
    Calls Try.prog 24 #[.string s, .int .i64 a] w fun e' w' => e' = sRet (⟨0, 0, 0⟩, 0, 7) ∧ Below w.heap.size w w' := by
  have hsf := store_float
  have f1 := frombits_run (18446744073709551615 - x)
  have f2 := frombits_run (x - 9223372036854775808)
  have hc : (x < 9223372036854775808 ∧ timeN x = (18446744073709551615 - x).toNat) ∨ (9223372036854775808 ≤ x ∧ timeN x = (x - 9223372036854775808).toNat) := by
    unfold timeN
    by_cases c : x < 9223372036854775808
    · rw [if_pos c]; exact .inl ⟨c, rfl⟩
    · rw [if_neg c]; exact .inr ⟨by omega, rfl⟩
  rw [E.out] at hc
  clear E
  generalize (18446744073709551615 - x).toNat = y1 at f1 hc
  generalize (x - 9223372036854775808).toNat = y2 at f2 hc
  rcases hc with ⟨c, rfl⟩ | ⟨c, rfl⟩
  all_goals
    go_enter Try.func24, Try.ntmps24
    go_wp2_with (first | (go_at_call 46; (with_reducible refine (H1.out _).mono ?_); rintro e w' ⟨rfl, rfl⟩) | (go_at_call 47; (with_reducible refine (H2.out _).mono ?_); rintro e w' ⟨rfl, rfl⟩) | (go_at_call 47; (with_reducible refine (H3.out _).mono ?_); rintro e w' ⟨rfl, rfl⟩))
    have X0 : BoxAt ⟨0, 0, 0⟩ w.heap.size ((w.alloc (.cells #[.float .f64 0, .int .i64 0, .int .i64 0] 30)).alloc (.cells #[.float .f64 t, .int .i64 y, .int .i64 z] 30)) := boxAt_below (boxAt_new ⟨0, 0, 0⟩ w 30) (balloc _ _)
    have Y0 : BoxAt ⟨t, y, z⟩ (w.heap.size + 1) ((w.alloc (.cells #[.float .f64 0, .int .i64 0, .int .i64 0] 30)).alloc (.cells #[.float .f64 t, .int .i64 y, .int .i64 z] 30)) := by
      have := boxAt_new ⟨t, y, z⟩ (w.alloc (.cells #[.float .f64 0, .int .i64 0, .int .i64 0] 30)) 30
      simpa using this
    have HW : Hid (Below w.heap.size w ((w.alloc (.cells #[.float .f64 0, .int .i64 0, .int .i64 0] 30)).alloc (.cells #[.float .f64 t, .int .i64 y, .int .i64 z] 30))) := (balloc _ _).alloc (by simp) _
    have z0 : ∀ j : Nat, ((w.alloc (.cells #[.float .f64 0, .int .i64 0, .int .i64 0] 30)).alloc (.cells #[.float .f64 t, .int .i64 y, .int .i64 z] 30)).frozen? ⟨w.heap.size, j, none⟩ = false := by intro j; simp
    generalize ((w.alloc (.cells #[.float .f64 0, .int .i64 0, .int .i64 0] 30)).alloc (.cells #[.float .f64 t, .int .i64 y, .int .i64 z] 30)) = W at X0 Y0 HW z0 ⊢
    refine (H5.out _).mono ?_
    rintro e w1 ⟨rfl, hb⟩
    have X1 := boxAt_below X0 hb
    have Y1 := boxAt_below Y0 hb
    have z1 : ∀ j : Nat, w1.frozen? ⟨w.heap.size, j, none⟩ = false := by intro j; rw [hb.frozen (p := ⟨w.heap.size, j, none⟩) X0.1]; exact z0 j
    have HB := Lib.hid (bthen HW.out hb)
    obtain ⟨_, p0, p1, p2⟩ := X1
    obtain ⟨_, q0, q1, q2⟩ := Y1
    dsimp only at p0 p1 p2 q0 q1 q2
    clear X0 Y0 z0 hb
    unfold maxLen at hs
    go_wp2_with fail
    exact bodyPost_ret (v := .tuple #[.agg #[.float .f64 0, .int .i64 0, .int .i64 0], .int .i64 (0), .int .i64 7]) (by simp [results, Try.results24, go_sem, p0, p1, p2]) rfl ⟨rfl, ((HB.out.setCell (by simp) _).setCell (by simp) _).setCell (by simp) _⟩

set_option maxHeartbeats 1600000 in
set_option linter.unusedVariables false in
theorem refRead_e5 (s : ByteArray) (x p y q z : Int) (a R t : Nat) (k : ByteArray) (w : World) (hx0 : 0 ≤ x) (hx1 : x ≤ 18446744073709551615) (E : Hid (timeN x = t))
    (H1 : Hid (∀ w, Calls Try.prog 46 #[.string s, .int .i64 a] w fun e' w' => e' = .returned (.tuple #[.int .u64 x, .int .i64 p, .int .i64 0]) ∧ w = w'))
    (H2 : Hid (∀ w, Calls Try.prog 47 #[.string s, .int .i64 p] w fun e' w' => e' = .returned (.tuple #[.int .i64 y, .int .i64 q, .int .i64 0]) ∧ w = w'))
    (H3 : Hid (∀ w, Calls Try.prog 47 #[.string s, .int .i64 q] w fun e' w' => e' = .returned (.tuple #[.int .i64 z, .int .i64 R, .int .i64 0]) ∧ w = w'))
    (H5 : Hid (∀ w, Calls Try.prog 22 #[.agg #[.float .f64 t, .int .i64 y, .int .i64 z]] w fun e w' => e = .returned (.tuple #[.string k, .int .i64 0]) ∧ Below w.heap.size w w'))
    (har : a ≤ R) (hrs : R ≤ s.size) (hs : s.size ≤ maxLen) (K : (k.toList == (s.extract a R).toList) = true) :
    Calls Try.prog 24 #[.string s, .int .i64 a] w fun e' w' => e' = sRet (⟨t, y, z⟩, R, 0) ∧ Below w.heap.size w w' := by
  have hsf := store_float
  have f1 := frombits_run (18446744073709551615 - x)
  have f2 := frombits_run (x - 9223372036854775808)
  have hc : (x < 9223372036854775808 ∧ timeN x = (18446744073709551615 - x).toNat) ∨ (9223372036854775808 ≤ x ∧ timeN x = (x - 9223372036854775808).toNat) := by
    unfold timeN
    by_cases c : x < 9223372036854775808
    · rw [if_pos c]; exact .inl ⟨c, rfl⟩
    · rw [if_neg c]; exact .inr ⟨by omega, rfl⟩
  rw [E.out] at hc
  clear E
  have K2 : (!k.toList == (s.extract a R).toList) = false := by rw [K]; rfl
  generalize (18446744073709551615 - x).toNat = y1 at f1 hc
  generalize (x - 9223372036854775808).toNat = y2 at f2 hc
  rcases hc with ⟨c, rfl⟩ | ⟨c, rfl⟩
  all_goals
    go_enter Try.func24, Try.ntmps24
    go_wp2_with (first | (go_at_call 46; (with_reducible refine (H1.out _).mono ?_); rintro e w' ⟨rfl, rfl⟩) | (go_at_call 47; (with_reducible refine (H2.out _).mono ?_); rintro e w' ⟨rfl, rfl⟩) | (go_at_call 47; (with_reducible refine (H3.out _).mono ?_); rintro e w' ⟨rfl, rfl⟩))
    have X0 : BoxAt ⟨0, 0, 0⟩ w.heap.size ((w.alloc (.cells #[.float .f64 0, .int .i64 0, .int .i64 0] 30)).alloc (.cells #[.float .f64 t, .int .i64 y, .int .i64 z] 30)) := boxAt_below (boxAt_new ⟨0, 0, 0⟩ w 30) (balloc _ _)
    have Y0 : BoxAt ⟨t, y, z⟩ (w.heap.size + 1) ((w.alloc (.cells #[.float .f64 0, .int .i64 0, .int .i64 0] 30)).alloc (.cells #[.float .f64 t, .int .i64 y, .int .i64 z] 30)) := by
      have := boxAt_new ⟨t, y, z⟩ (w.alloc (.cells #[.float .f64 0, .int .i64 0, .int .i64 0] 30)) 30
      simpa using this
    have HW : Hid (Below w.heap.size w ((w.alloc (.cells #[.float .f64 0, .int .i64 0, .int .i64 0] 30)).alloc (.cells #[.float .f64 t, .int .i64 y, .int .i64 z] 30))) := (balloc _ _).alloc (by simp) _
    have z0 : ∀ j : Nat, ((w.alloc (.cells #[.float .f64 0, .int .i64 0, .int .i64 0] 30)).alloc (.cells #[.float .f64 t, .int .i64 y, .int .i64 z] 30)).frozen? ⟨w.heap.size, j, none⟩ = false := by intro j; simp
    generalize ((w.alloc (.cells #[.float .f64 0, .int .i64 0, .int .i64 0] 30)).alloc (.cells #[.float .f64 t, .int .i64 y, .int .i64 z] 30)) = W at X0 Y0 HW z0 ⊢
    refine (H5.out _).mono ?_
    rintro e w1 ⟨rfl, hb⟩
    have X1 := boxAt_below X0 hb
    have Y1 := boxAt_below Y0 hb
    have z1 : ∀ j : Nat, w1.frozen? ⟨w.heap.size, j, none⟩ = false := by intro j; rw [hb.frozen (p := ⟨w.heap.size, j, none⟩) X0.1]; exact z0 j
    have HB := Lib.hid (bthen HW.out hb)
    obtain ⟨_, p0, p1, p2⟩ := X1
    obtain ⟨_, q0, q1, q2⟩ := Y1
    dsimp only at p0 p1 p2 q0 q1 q2
    clear X0 Y0 z0 hb
    unfold maxLen at hs
    go_wp2_with fail
    exact bodyPost_ret (v := .tuple #[.agg #[.float .f64 t, .int .i64 y, .int .i64 z], .int .i64 (R), .int .i64 0]) (by simp [results, Try.results24, go_sem, p0, p1, p2]) rfl ⟨rfl, ((HB.out.setCell (by simp) _).setCell (by simp) _).setCell (by simp) _⟩

set_option maxHeartbeats 1600000 in
set_option linter.unusedVariables false in
theorem refRead_e4 (s : ByteArray) (x p y q z : Int) (a R t : Nat) (k : ByteArray) (w : World) (hx0 : 0 ≤ x) (hx1 : x ≤ 18446744073709551615) (E : Hid (timeN x = t))
    (H1 : Hid (∀ w, Calls Try.prog 46 #[.string s, .int .i64 a] w fun e' w' => e' = .returned (.tuple #[.int .u64 x, .int .i64 p, .int .i64 0]) ∧ w = w'))
    (H2 : Hid (∀ w, Calls Try.prog 47 #[.string s, .int .i64 p] w fun e' w' => e' = .returned (.tuple #[.int .i64 y, .int .i64 q, .int .i64 0]) ∧ w = w'))
    (H3 : Hid (∀ w, Calls Try.prog 47 #[.string s, .int .i64 q] w fun e' w' => e' = .returned (.tuple #[.int .i64 z, .int .i64 R, .int .i64 0]) ∧ w = w'))
    (H5 : Hid (∀ w, Calls Try.prog 22 #[.agg #[.float .f64 t, .int .i64 y, .int .i64 z]] w fun e w' => e = .returned (.tuple #[.string k, .int .i64 0]) ∧ Below w.heap.size w w'))
    (har : a ≤ R) (hrs : R ≤ s.size) (hs : s.size ≤ maxLen) (K : (k.toList == (s.extract a R).toList) = false) :
    Calls Try.prog 24 #[.string s, .int .i64 a] w fun e' w' => e' = sRet (⟨0, 0, 0⟩, 0, 7) ∧ Below w.heap.size w w' := by
  have hsf := store_float
  have f1 := frombits_run (18446744073709551615 - x)
  have f2 := frombits_run (x - 9223372036854775808)
  have hc : (x < 9223372036854775808 ∧ timeN x = (18446744073709551615 - x).toNat) ∨ (9223372036854775808 ≤ x ∧ timeN x = (x - 9223372036854775808).toNat) := by
    unfold timeN
    by_cases c : x < 9223372036854775808
    · rw [if_pos c]; exact .inl ⟨c, rfl⟩
    · rw [if_neg c]; exact .inr ⟨by omega, rfl⟩
  rw [E.out] at hc
  clear E
  have K2 : (!k.toList == (s.extract a R).toList) = true := by rw [K]; rfl
  generalize (18446744073709551615 - x).toNat = y1 at f1 hc
  generalize (x - 9223372036854775808).toNat = y2 at f2 hc
  rcases hc with ⟨c, rfl⟩ | ⟨c, rfl⟩
  all_goals
    go_enter Try.func24, Try.ntmps24
    go_wp2_with (first | (go_at_call 46; (with_reducible refine (H1.out _).mono ?_); rintro e w' ⟨rfl, rfl⟩) | (go_at_call 47; (with_reducible refine (H2.out _).mono ?_); rintro e w' ⟨rfl, rfl⟩) | (go_at_call 47; (with_reducible refine (H3.out _).mono ?_); rintro e w' ⟨rfl, rfl⟩))
    have X0 : BoxAt ⟨0, 0, 0⟩ w.heap.size ((w.alloc (.cells #[.float .f64 0, .int .i64 0, .int .i64 0] 30)).alloc (.cells #[.float .f64 t, .int .i64 y, .int .i64 z] 30)) := boxAt_below (boxAt_new ⟨0, 0, 0⟩ w 30) (balloc _ _)
    have Y0 : BoxAt ⟨t, y, z⟩ (w.heap.size + 1) ((w.alloc (.cells #[.float .f64 0, .int .i64 0, .int .i64 0] 30)).alloc (.cells #[.float .f64 t, .int .i64 y, .int .i64 z] 30)) := by
      have := boxAt_new ⟨t, y, z⟩ (w.alloc (.cells #[.float .f64 0, .int .i64 0, .int .i64 0] 30)) 30
      simpa using this
    have HW : Hid (Below w.heap.size w ((w.alloc (.cells #[.float .f64 0, .int .i64 0, .int .i64 0] 30)).alloc (.cells #[.float .f64 t, .int .i64 y, .int .i64 z] 30))) := (balloc _ _).alloc (by simp) _
    have z0 : ∀ j : Nat, ((w.alloc (.cells #[.float .f64 0, .int .i64 0, .int .i64 0] 30)).alloc (.cells #[.float .f64 t, .int .i64 y, .int .i64 z] 30)).frozen? ⟨w.heap.size, j, none⟩ = false := by intro j; simp
    generalize ((w.alloc (.cells #[.float .f64 0, .int .i64 0, .int .i64 0] 30)).alloc (.cells #[.float .f64 t, .int .i64 y, .int .i64 z] 30)) = W at X0 Y0 HW z0 ⊢
    refine (H5.out _).mono ?_
    rintro e w1 ⟨rfl, hb⟩
    have X1 := boxAt_below X0 hb
    have Y1 := boxAt_below Y0 hb
    have z1 : ∀ j : Nat, w1.frozen? ⟨w.heap.size, j, none⟩ = false := by intro j; rw [hb.frozen (p := ⟨w.heap.size, j, none⟩) X0.1]; exact z0 j
    have HB := Lib.hid (bthen HW.out hb)
    obtain ⟨_, p0, p1, p2⟩ := X1
    obtain ⟨_, q0, q1, q2⟩ := Y1
    dsimp only at p0 p1 p2 q0 q1 q2
    clear X0 Y0 z0 hb
    unfold maxLen at hs
    go_wp2_with fail
    exact bodyPost_ret (v := .tuple #[.agg #[.float .f64 0, .int .i64 0, .int .i64 0], .int .i64 (0), .int .i64 7]) (by simp [results, Try.results24, go_sem, p0, p1, p2]) rfl ⟨rfl, ((HB.out.setCell (by simp) _).setCell (by simp) _).setCell (by simp) _⟩

end Go.Proofs.Ytlcfibmgegjklaa
