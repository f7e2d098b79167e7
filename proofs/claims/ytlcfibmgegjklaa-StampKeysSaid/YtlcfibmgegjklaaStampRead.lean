/- The contracts of stamp.Read and of the document's own Read. -/
import Derived.Test.YtlcfibmgegjklaaStampKey
import Derived.Test.YtlcfibmgegjklaaPackRefRead
namespace Go.Proofs.Ytlcfibmgegjklaa
open Go.RowKit

/-- a stamp, a place and an error, as the Go functions hand them back -/
def sRet (x : Stp × Int × Int) : Ending := .returned (.tuple #[x.1.val, .int .i64 x.2.1, .int .i64 x.2.2])
theorem store_float (x : Nat) (a : Addr) (m : Mode) (w : World) : (store a (.float .f64 x) m).run Try.prog w = stored Try.prog w a (.float .f64 x) m := run_store _ w a _ m rfl

set_option maxHeartbeats 1600000 in
theorem read_e1 (s : ByteArray) (a x p : Int) (e : Int) (w : World)
    (he : (e != 0) = true)
    (H1 : Hid (∀ w, Calls Try.prog 42 #[.string s, .int .i64 a] w fun e' w' => e' = .returned (.tuple #[.int .u64 x, .int .i64 p, .int .i64 e]) ∧ w = w')) :
    Calls Try.prog 23 #[.string s, .int .i64 a] w fun e' w' => e' = sRet (⟨0, 0, 0⟩, 0, e) ∧ Below w.heap.size w w' := by
  have hsf := store_float
  go_enter Try.func23, Try.ntmps23
  go_wp2_with (first | (go_at_call 42; (with_reducible refine (H1.out _).mono ?_); rintro e w' ⟨rfl, rfl⟩))
  exact bodyPost_ret (v := .tuple #[.agg #[.float .f64 0, .int .i64 0, .int .i64 0], .int .i64 (0), .int .i64 e]) (by simp [results, Try.results23, go_sem]) rfl ⟨rfl, by first | exact balloc _ _ | exact (balloc _ _).alloc (by simp) _⟩

set_option maxHeartbeats 1600000 in
theorem read_e2 (s : ByteArray) (a x p : Int) (y q e : Int) (w : World)
    (he : (e != 0) = true)
    (H1 : Hid (∀ w, Calls Try.prog 42 #[.string s, .int .i64 a] w fun e' w' => e' = .returned (.tuple #[.int .u64 x, .int .i64 p, .int .i64 0]) ∧ w = w'))
    (H2 : Hid (∀ w, Calls Try.prog 43 #[.string s, .int .i64 p] w fun e' w' => e' = .returned (.tuple #[.int .i64 y, .int .i64 q, .int .i64 e]) ∧ w = w')) :
    Calls Try.prog 23 #[.string s, .int .i64 a] w fun e' w' => e' = sRet (⟨0, 0, 0⟩, 0, e) ∧ Below w.heap.size w w' := by
  have hsf := store_float
  go_enter Try.func23, Try.ntmps23
  go_wp2_with (first | (go_at_call 42; (with_reducible refine (H1.out _).mono ?_); rintro e w' ⟨rfl, rfl⟩) | (go_at_call 43; (with_reducible refine (H2.out _).mono ?_); rintro e w' ⟨rfl, rfl⟩))
  exact bodyPost_ret (v := .tuple #[.agg #[.float .f64 0, .int .i64 0, .int .i64 0], .int .i64 (0), .int .i64 e]) (by simp [results, Try.results23, go_sem]) rfl ⟨rfl, by first | exact balloc _ _ | exact (balloc _ _).alloc (by simp) _⟩

set_option maxHeartbeats 1600000 in
theorem read_e3 (s : ByteArray) (a x p : Int) (y q z r e : Int) (w : World)
    (he : (e != 0) = true)
    (H1 : Hid (∀ w, Calls Try.prog 42 #[.string s, .int .i64 a] w fun e' w' => e' = .returned (.tuple #[.int .u64 x, .int .i64 p, .int .i64 0]) ∧ w = w'))
    (H2 : Hid (∀ w, Calls Try.prog 43 #[.string s, .int .i64 p] w fun e' w' => e' = .returned (.tuple #[.int .i64 y, .int .i64 q, .int .i64 0]) ∧ w = w'))
    (H3 : Hid (∀ w, Calls Try.prog 43 #[.string s, .int .i64 q] w fun e' w' => e' = .returned (.tuple #[.int .i64 z, .int .i64 r, .int .i64 e]) ∧ w = w')) :
    Calls Try.prog 23 #[.string s, .int .i64 a] w fun e' w' => e' = sRet (⟨0, 0, 0⟩, 0, e) ∧ Below w.heap.size w w' := by
  have hsf := store_float
  go_enter Try.func23, Try.ntmps23
  go_wp2_with (first | (go_at_call 42; (with_reducible refine (H1.out _).mono ?_); rintro e w' ⟨rfl, rfl⟩) | (go_at_call 43; (with_reducible refine (H2.out _).mono ?_); rintro e w' ⟨rfl, rfl⟩) | (go_at_call 43; (with_reducible refine (H3.out _).mono ?_); rintro e w' ⟨rfl, rfl⟩))
  exact bodyPost_ret (v := .tuple #[.agg #[.float .f64 0, .int .i64 0, .int .i64 0], .int .i64 (0), .int .i64 e]) (by simp [results, Try.results23, go_sem]) rfl ⟨rfl, by first | exact balloc _ _ | exact (balloc _ _).alloc (by simp) _⟩

set_option maxHeartbeats 1600000 in
theorem read_e4 (s : ByteArray) (a x p : Int) (y q z r : Int) (t : Nat) (w : World)
    (H1 : Hid (∀ w, Calls Try.prog 42 #[.string s, .int .i64 a] w fun e' w' => e' = .returned (.tuple #[.int .u64 x, .int .i64 p, .int .i64 0]) ∧ w = w'))
    (H2 : Hid (∀ w, Calls Try.prog 43 #[.string s, .int .i64 p] w fun e' w' => e' = .returned (.tuple #[.int .i64 y, .int .i64 q, .int .i64 0]) ∧ w = w'))
    (H3 : Hid (∀ w, Calls Try.prog 43 #[.string s, .int .i64 q] w fun e' w' => e' = .returned (.tuple #[.int .i64 z, .int .i64 r, .int .i64 0]) ∧ w = w'))
    (H4 : Hid (∀ w, Calls Try.prog 44 #[.int .u64 x] w fun e w' => e = .returned (.float .f64 t) ∧ w = w'))
    (H5 : Hid (∀ w, Calls Try.prog 45 #[.float .f64 t] w fun e w' => e = .returned (.bool false) ∧ w = w')) :
    Calls Try.prog 23 #[.string s, .int .i64 a] w fun e' w' => e' = sRet (⟨0, 0, 0⟩, 0, 7) ∧ Below w.heap.size w w' := by
  have hsf := store_float
  go_enter Try.func23, Try.ntmps23
  go_wp2_with (first | (go_at_call 42; (with_reducible refine (H1.out _).mono ?_); rintro e w' ⟨rfl, rfl⟩) | (go_at_call 43; (with_reducible refine (H2.out _).mono ?_); rintro e w' ⟨rfl, rfl⟩) | (go_at_call 43; (with_reducible refine (H3.out _).mono ?_); rintro e w' ⟨rfl, rfl⟩) | (go_at_call 44; (with_reducible refine (H4.out _).mono ?_); rintro e w' ⟨rfl, rfl⟩) | (go_at_call 45; (with_reducible refine (H5.out _).mono ?_); rintro e w' ⟨rfl, rfl⟩))
  exact bodyPost_ret (v := .tuple #[.agg #[.float .f64 0, .int .i64 0, .int .i64 0], .int .i64 (0), .int .i64 7]) (by simp [results, Try.results23, go_sem]) rfl ⟨rfl, by first | exact balloc _ _ | exact (balloc _ _).alloc (by simp) _⟩

set_option maxHeartbeats 1600000 in
theorem read_e5 (s : ByteArray) (a x p : Int) (y q z r : Int) (t : Nat) (w : World)
    (H1 : Hid (∀ w, Calls Try.prog 42 #[.string s, .int .i64 a] w fun e' w' => e' = .returned (.tuple #[.int .u64 x, .int .i64 p, .int .i64 0]) ∧ w = w'))
    (H2 : Hid (∀ w, Calls Try.prog 43 #[.string s, .int .i64 p] w fun e' w' => e' = .returned (.tuple #[.int .i64 y, .int .i64 q, .int .i64 0]) ∧ w = w'))
    (H3 : Hid (∀ w, Calls Try.prog 43 #[.string s, .int .i64 q] w fun e' w' => e' = .returned (.tuple #[.int .i64 z, .int .i64 r, .int .i64 0]) ∧ w = w'))
    (H4 : Hid (∀ w, Calls Try.prog 44 #[.int .u64 x] w fun e w' => e = .returned (.float .f64 t) ∧ w = w'))
    (H5 : Hid (∀ w, Calls Try.prog 45 #[.float .f64 t] w fun e w' => e = .returned (.bool true) ∧ w = w')) :
    Calls Try.prog 23 #[.string s, .int .i64 a] w fun e' w' => e' = sRet (⟨t, y, z⟩, r, 0) ∧ Below w.heap.size w w' := by
  have hsf := store_float
  go_enter Try.func23, Try.ntmps23
  go_wp2_with (first | (go_at_call 42; (with_reducible refine (H1.out _).mono ?_); rintro e w' ⟨rfl, rfl⟩) | (go_at_call 43; (with_reducible refine (H2.out _).mono ?_); rintro e w' ⟨rfl, rfl⟩) | (go_at_call 43; (with_reducible refine (H3.out _).mono ?_); rintro e w' ⟨rfl, rfl⟩) | (go_at_call 44; (with_reducible refine (H4.out _).mono ?_); rintro e w' ⟨rfl, rfl⟩) | (go_at_call 45; (with_reducible refine (H5.out _).mono ?_); rintro e w' ⟨rfl, rfl⟩))
  exact bodyPost_ret (v := .tuple #[.agg #[.float .f64 t, .int .i64 y, .int .i64 z], .int .i64 (r), .int .i64 0]) (by simp [results, Try.results23, go_sem]) rfl ⟨rfl, by first | exact balloc _ _ | exact (balloc _ _).alloc (by simp) _⟩

/-! what three readings one behind the other give -/

theorem rd_range (s : ByteArray) (a : Int) (h : a < 0 ∨ (s.size : Int) < a) : rdSpec s a 8 = (0, 0, 3) := by unfold rdSpec; rw [if_pos h]
theorem rd_short (s : ByteArray) (a : Int) (h : ¬ (a < 0 ∨ (s.size : Int) < a)) (h2 : (s.size : Int) - a < 8) : rdSpec s a 8 = (0, 0, 5) := by unfold rdSpec; rw [if_neg h, if_pos (by exact h2)]
theorem rd_ok (s : ByteArray) (a : Int) (h : 0 ≤ a) (h2 : ¬ (s.size : Int) - a < 8) : rdSpec s a 8 = (rdI s a.toNat 8, a + 8, 0) := by unfold rdSpec; rw [if_neg (by omega), if_neg (by exact h2)]; rfl
theorem rdi_short (s : ByteArray) (a : Int) (h : ¬ (a < 0 ∨ (s.size : Int) < a)) (h2 : (s.size : Int) - a < 8) : rdISpec (rdSpec s a 8) = (0, 0, 5) := by rw [rd_short s a h h2]; rfl
theorem rdi_ok (s : ByteArray) (a : Int) (h : 0 ≤ a) (h2 : ¬ (s.size : Int) - a < 8) : rdISpec (rdSpec s a 8) = (unflip63 (rdI s a.toNat 8), a + 8, 0) := by rw [rd_ok s a h h2]; rfl

theorem read2_any (s : ByteArray) (a : Int) (hs : s.size ≤ maxLen) (hw : -9223372036854775808 ≤ a ∧ a ≤ 9223372036854775807) (w : World) :
    Calls Try.prog 23 #[.string s, .int .i64 a] w fun e w' => e = sRet (readSpec s a) ∧ Below w.heap.size w w' := by
  have hm : (s.size : Int) ≤ 9223372036854775807 := by unfold maxLen at hs; omega
  by_cases h1 : a < 0 ∨ (s.size : Int) < a
  · have e : readSpec s a = (⟨0, 0, 0⟩, 0, 3) := by unfold readSpec; rw [if_pos h1]
    rw [e]
    refine read_e1 s a 0 0 3 w rfl (fun w => ?_)
    have := readU_any s a hs hw w; rwa [rd_range s a h1] at this
  by_cases h2 : (s.size : Int) - a < 8
  · have e : readSpec s a = (⟨0, 0, 0⟩, 0, 5) := by unfold readSpec; rw [if_neg h1, if_pos (by omega)]
    rw [e]
    refine read_e1 s a 0 0 5 w rfl (fun w => ?_)
    have := readU_any s a hs hw w; rwa [rd_short s a h1 h2] at this
  have H1 : ∀ w, Calls Try.prog 42 #[.string s, .int .i64 a] w fun e' w' => e' = .returned (.tuple #[.int .u64 (rdI s a.toNat 8), .int .i64 (a + 8), .int .i64 0]) ∧ w = w' := by
    intro w; have := readU_any s a hs hw w; rwa [rd_ok s a (by omega) h2] at this
  by_cases h3 : (s.size : Int) - a < 16
  · have e : readSpec s a = (⟨0, 0, 0⟩, 0, 5) := by unfold readSpec; rw [if_neg h1, if_pos (by omega)]
    rw [e]
    refine read_e2 s a (rdI s a.toNat 8) (a + 8) 0 0 5 w rfl H1 (fun w => ?_)
    have := readI_any s (a + 8) hs (by omega) w; rwa [rdi_short s (a + 8) (by omega) (by omega)] at this
  have H2 : ∀ w, Calls Try.prog 43 #[.string s, .int .i64 (a + 8)] w fun e' w' => e' = .returned (.tuple #[.int .i64 (unflip63 (rdI s (a + 8).toNat 8)), .int .i64 (a + 8 + 8), .int .i64 0]) ∧ w = w' := by
    intro w; have := readI_any s (a + 8) hs (by omega) w; rwa [rdi_ok s (a + 8) (by omega) (by omega)] at this
  by_cases h4 : (s.size : Int) - a < 24
  · have e : readSpec s a = (⟨0, 0, 0⟩, 0, 5) := by unfold readSpec; rw [if_neg h1, if_pos h4]
    rw [e]
    refine read_e3 s a (rdI s a.toNat 8) (a + 8) _ _ 0 0 5 w rfl H1 H2 (fun w => ?_)
    have := readI_any s (a + 8 + 8) hs (by omega) w; rwa [rdi_short s (a + 8 + 8) (by omega) (by omega)] at this
  have H3 : ∀ w, Calls Try.prog 43 #[.string s, .int .i64 (a + 8 + 8)] w fun e' w' => e' = .returned (.tuple #[.int .i64 (unflip63 (rdI s (a + 8 + 8).toNat 8)), .int .i64 (a + 8 + 8 + 8), .int .i64 0]) ∧ w = w' := by
    intro w; have := readI_any s (a + 8 + 8) hs (by omega) w; rwa [rdi_ok s (a + 8 + 8) (by omega) (by omega)] at this
  have b0 := rdI8_nonneg s a.toNat
  have b1 := rdI8_bd s a.toNat
  by_cases h5 : isKept (timeN (rdI s a.toNat 8))
  · have e : readSpec s a = (⟨timeN (rdI s a.toNat 8), unflip63 (rdI s (a + 8).toNat 8), unflip63 (rdI s (a + 8 + 8).toNat 8)⟩, a + 8 + 8 + 8, 0) := by
      unfold readSpec; rw [if_neg h1, if_neg h4, if_pos h5]
      rw [show (a + 8).toNat = a.toNat + 8 from by omega, show (a + 8 + 8).toNat = a.toNat + 16 from by omega, show a + 8 + 8 + 8 = a + 24 from by omega]
    rw [e]
    refine read_e5 s a (rdI s a.toNat 8) (a + 8) _ _ _ _ _ w H1 H2 H3 (timeOf_any _ b0 b1) (fun w => ?_)
    have := isKept_any _ (timeN_bd _ b0 b1) w; rwa [decide_eq_true h5] at this
  · have e : readSpec s a = (⟨0, 0, 0⟩, 0, 7) := by unfold readSpec; rw [if_neg h1, if_neg h4, if_neg h5]
    rw [e]
    refine read_e4 s a (rdI s a.toNat 8) (a + 8) _ _ _ _ _ w H1 H2 H3 (timeOf_any _ b0 b1) (fun w => ?_)
    have := isKept_any _ (timeN_bd _ b0 b1) w; rwa [decide_eq_false h5] at this

end Go.Proofs.Ytlcfibmgegjklaa
