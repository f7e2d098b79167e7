/- The contracts of the document's own ReadU and ReadI: the same as pack's. -/
import Derived.Test.YtdmlmjmdpmmcgaaPackRead
namespace Go.Proofs.Ytdmlmjmdpmmcgaa
open Go.RowKit
set_option maxRecDepth 100000

set_option maxHeartbeats 400000 in
theorem refReadU_ok (s : ByteArray) (a : Nat) (hs : s.size ≤ maxLen) (ha : a + 8 ≤ s.size) (w : World) :
    Calls Try.prog 65 #[.string s, .int .i64 a] w fun e w' => e = .returned (.tuple #[.int .u64 (rdI s a 8), .int .i64 ((a : Int) + 8), .int .i64 0]) ∧ w = w' := by
  unfold maxLen at hs
  have h1 : ¬ ((a : Int) < 0) := by omega
  have h2 : ¬ ((s.size : Int) < (a : Int)) := by omega
  go_enter Try.func65, Try.ntmps65
  go_wp2_with fail
  go_loop [7, 8] (fun b i => ∃ j : Nat, j ≤ 8 ∧ i = .int .i64 j ∧ b = .int .u64 (rdI s a j)) (fun _ i => 8 - (intOf i).toNat)
  case atStart => exact ⟨0, by omega, rfl, rfl⟩
  case round =>
    obtain ⟨j, hj, rfl, rfl⟩ := hrel
    have hb := rdI_bd s a j
    have hb1 := hb.1
    have hc := byteI_bd s (a + j)
    by_cases hlt : j < 8
    · have hb2 := rdI_56 s a j hlt
      have hx := byteI_at s (a + j) (by omega)
      have h4 : ((s[a + j].toNat : Nat) : Int) ≤ 255 := by rw [hx]; exact hc.2
      have HX := Lib.hid hx
      clear hx hb
      go_wp2_with fail
      go_round
      case rel => exact ⟨j + 1, by omega, by go_num, by rw [HX.out]; rfl⟩
      case measure => simp [intOf]; omega
    · obtain rfl : j = 8 := by omega
      go_wp2_with fail
      go_ret3
      exact ⟨rfl, rfl⟩

set_option maxHeartbeats 400000 in
theorem refReadU_any (s : ByteArray) (a : Int) (hs : s.size ≤ maxLen) (hw : -9223372036854775808 ≤ a ∧ a ≤ 9223372036854775807) (w : World) :
    Calls Try.prog 65 #[.string s, .int .i64 a] w fun e w' => e = rdRet (rdSpec s a 8) ∧ w = w' := by
  obtain ⟨hw1, hw2⟩ := hw
  by_cases h1 : a < 0
  · have E : Hid (rdSpec s a 8 = (0, 0, 3)) := by unfold rdSpec; rw [if_pos (.inl h1)]; exact rfl
    unfold maxLen at hs
    go_enter Try.func65, Try.ntmps65
    go_wp2_with fail
    go_ret3
    exact ⟨by rw [E.out]; rfl, rfl⟩
  by_cases h2 : (s.size : Int) < a
  · have E : Hid (rdSpec s a 8 = (0, 0, 3)) := by unfold rdSpec; rw [if_pos (.inr h2)]; exact rfl
    unfold maxLen at hs
    go_enter Try.func65, Try.ntmps65
    go_wp2_with fail
    go_ret3
    exact ⟨by rw [E.out]; rfl, rfl⟩
  by_cases h3 : (s.size : Int) - a < 8
  · have E : Hid (rdSpec s a 8 = (0, 0, 5)) := by unfold rdSpec; rw [if_neg (by omega), if_pos (by exact h3)]; exact rfl
    unfold maxLen at hs
    go_enter Try.func65, Try.ntmps65
    go_wp2_with fail
    go_ret3
    exact ⟨by rw [E.out]; rfl, rfl⟩
  obtain ⟨b, rfl⟩ := Int.eq_ofNat_of_zero_le (show 0 ≤ a by omega)
  have E : rdSpec s b 8 = (rdI s b 8, (b : Int) + 8, 0) := by unfold rdSpec; rw [if_neg (by omega), if_neg (by exact h3), Int.toNat_natCast]; rfl
  rw [E]
  exact refReadU_ok s b hs (by omega) w

theorem refReadI_any (s : ByteArray) (a : Int) (hs : s.size ≤ maxLen) (hw : -9223372036854775808 ≤ a ∧ a ≤ 9223372036854775807) (w : World) :
    Calls Try.prog 40 #[.string s, .int .i64 a] w fun e w' => e = rdIRet (rdISpec (rdSpec s a 8)) ∧ w = w' := by
  have H := Lib.hid (refReadU_any s a hs hw)
  generalize rdSpec s a 8 = x at H ⊢
  obtain ⟨x0, x1, x2⟩ := x
  unfold rdRet at H
  clear hs hw
  by_cases h0 : x2 = 0
  · subst h0
    have E : Hid (rdISpec (x0, x1, 0) = (unflip63 x0, x1, 0)) := by unfold rdISpec; simp [Hid]
    go_enter Try.func40, Try.ntmps40
    go_wp2_with (go_at_call 65; refine (H.out _).mono ?_; rintro e w' ⟨rfl, rfl⟩)
    go_ret3
    exact ⟨by rw [E.out]; rfl, rfl⟩
  · have E : Hid (rdISpec (x0, x1, x2) = (0, 0, x2)) := by unfold rdISpec; simp [Hid, h0]
    have hne : (x2 != 0) = true := by simp [h0]
    go_enter Try.func40, Try.ntmps40
    go_wp2_with (go_at_call 65; refine (H.out _).mono ?_; rintro e w' ⟨rfl, rfl⟩)
    go_ret3
    exact ⟨by rw [E.out]; rfl, rfl⟩

end Go.Proofs.Ytdmlmjmdpmmcgaa
