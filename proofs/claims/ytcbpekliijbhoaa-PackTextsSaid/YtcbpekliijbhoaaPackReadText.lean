/- The contracts of pack.readCount and of pack.ReadText, and of the document's own ReadText. -/
import Derived.Test.YtcbpekliijbhoaaPackRefRead
import Derived.Test.YtcbpekliijbhoaaStrBuild
import Derived.Deep.QuietTactic
import Derived.BigQuiet
namespace Go.Proofs.Ytcbpekliijbhoaa
open Go.RowKit

/-- the count that stands at a place, each item of sz bytes, at most 'most' of them -/
def rcOf (z most sz : Int) (x : Int × Int × Int) : Int × Int × Int :=
  if x.2.2 ≠ 0 then (0, 0, x.2.2) else if most < x.1 then (0, 0, 4) else if z - x.2.1 < x.1 * sz then (0, 0, 5) else (x.1, x.2.1, 0)
def rcSpec (s : ByteArray) (a most sz : Int) : Int × Int × Int := rcOf s.size most sz (rdSpec s a 2)

theorem rdSpec_2 (s : ByteArray) (a : Int) : 0 ≤ (rdSpec s a 2).1 ∧ (rdSpec s a 2).1 ≤ 65535 ∧ 0 ≤ (rdSpec s a 2).2.1 ∧ (rdSpec s a 2).2.1 ≤ s.size := by
  unfold rdSpec
  have h := rdI_bd s a.toNat 2
  split
  · simp
  · split
    · simp
    · simp only; omega

set_option maxHeartbeats 400000 in
theorem readCount_text (s : ByteArray) (a : Int) (hs : s.size ≤ maxLen) (hw : -9223372036854775808 ≤ a ∧ a ≤ 9223372036854775807) (w : World) :
    Calls Try.prog 34 #[.string s, .int .i64 a, .int .i64 4096, .int .i64 1] w fun e w' => e = rdIRet (rcSpec s a 4096 1) ∧ w = w' := by
  have H := Lib.hid (read_2 s a hs hw)
  have hb := rdSpec_2 s a
  unfold rcSpec
  generalize rdSpec s a 2 = x at H hb ⊢
  obtain ⟨x0, x1, x2⟩ := x
  unfold rdRet at H
  unfold maxLen at hs
  obtain ⟨b1, b2, b3, b4⟩ := hb
  simp only at b1 b2 b3 b4 H ⊢
  clear hw
  by_cases h0 : x2 = 0
  · subst h0
    by_cases h1 : 4096 < x0
    · have E : Hid (rcOf s.size 4096 1 (x0, x1, 0) = (0, 0, 4)) := by unfold rcOf; rw [if_neg (by simp), if_pos h1]; exact rfl
      go_enter Try.func34, Try.ntmps34
      go_wp2_with (go_at_call 33; refine (H.out _).mono ?_; rintro e w' ⟨rfl, rfl⟩)
      go_ret3
      exact ⟨by rw [E.out]; rfl, rfl⟩
    by_cases h2 : (s.size : Int) - x1 < x0 * 1
    · have E : Hid (rcOf s.size 4096 1 (x0, x1, 0) = (0, 0, 5)) := by unfold rcOf; rw [if_neg (by simp), if_neg h1, if_pos h2]; exact rfl
      go_enter Try.func34, Try.ntmps34
      go_wp2_with (go_at_call 33; refine (H.out _).mono ?_; rintro e w' ⟨rfl, rfl⟩)
      go_ret3
      exact ⟨by rw [E.out]; rfl, rfl⟩
    · have E : Hid (rcOf s.size 4096 1 (x0, x1, 0) = (x0, x1, 0)) := by unfold rcOf; rw [if_neg (by simp), if_neg h1, if_neg h2]; exact rfl
      go_enter Try.func34, Try.ntmps34
      go_wp2_with (go_at_call 33; refine (H.out _).mono ?_; rintro e w' ⟨rfl, rfl⟩)
      go_ret3
      exact ⟨by rw [E.out]; rfl, rfl⟩
  · have E : Hid (rcOf s.size 4096 1 (x0, x1, x2) = (0, 0, x2)) := by unfold rcOf; rw [if_pos h0]; exact rfl
    have hne : (x2 != 0) = true := by simp [h0]
    go_enter Try.func34, Try.ntmps34
    go_wp2_with (go_at_call 33; refine (H.out _).mono ?_; rintro e w' ⟨rfl, rfl⟩)
    go_ret3
    exact ⟨by rw [E.out]; rfl, rfl⟩

set_option maxHeartbeats 400000 in
theorem readCount_list (s : ByteArray) (a : Int) (hs : s.size ≤ maxLen) (hw : -9223372036854775808 ≤ a ∧ a ≤ 9223372036854775807) (w : World) :
    Calls Try.prog 34 #[.string s, .int .i64 a, .int .i64 512, .int .i64 8] w fun e w' => e = rdIRet (rcSpec s a 512 8) ∧ w = w' := by
  have H := Lib.hid (read_2 s a hs hw)
  have hb := rdSpec_2 s a
  unfold rcSpec
  generalize rdSpec s a 2 = x at H hb ⊢
  obtain ⟨x0, x1, x2⟩ := x
  unfold rdRet at H
  unfold maxLen at hs
  obtain ⟨b1, b2, b3, b4⟩ := hb
  simp only at b1 b2 b3 b4 H ⊢
  clear hw
  by_cases h0 : x2 = 0
  · subst h0
    by_cases h1 : 512 < x0
    · have E : Hid (rcOf s.size 512 8 (x0, x1, 0) = (0, 0, 4)) := by unfold rcOf; rw [if_neg (by simp), if_pos h1]; exact rfl
      go_enter Try.func34, Try.ntmps34
      go_wp2_with (go_at_call 33; refine (H.out _).mono ?_; rintro e w' ⟨rfl, rfl⟩)
      go_ret3
      exact ⟨by rw [E.out]; rfl, rfl⟩
    by_cases h2 : (s.size : Int) - x1 < x0 * 8
    · have E : Hid (rcOf s.size 512 8 (x0, x1, 0) = (0, 0, 5)) := by unfold rcOf; rw [if_neg (by simp), if_neg h1, if_pos h2]; exact rfl
      go_enter Try.func34, Try.ntmps34
      go_wp2_with (go_at_call 33; refine (H.out _).mono ?_; rintro e w' ⟨rfl, rfl⟩)
      go_ret3
      exact ⟨by rw [E.out]; rfl, rfl⟩
    · have E : Hid (rcOf s.size 512 8 (x0, x1, 0) = (x0, x1, 0)) := by unfold rcOf; rw [if_neg (by simp), if_neg h1, if_neg h2]; exact rfl
      go_enter Try.func34, Try.ntmps34
      go_wp2_with (go_at_call 33; refine (H.out _).mono ?_; rintro e w' ⟨rfl, rfl⟩)
      go_ret3
      exact ⟨by rw [E.out]; rfl, rfl⟩
  · have E : Hid (rcOf s.size 512 8 (x0, x1, x2) = (0, 0, x2)) := by unfold rcOf; rw [if_pos h0]; exact rfl
    have hne : (x2 != 0) = true := by simp [h0]
    go_enter Try.func34, Try.ntmps34
    go_wp2_with (go_at_call 33; refine (H.out _).mono ?_; rintro e w' ⟨rfl, rfl⟩)
    go_ret3
    exact ⟨by rw [E.out]; rfl, rfl⟩

/-- what stands at a place, read as a text -/
def rtOf (s : ByteArray) (x : Int × Int × Int) : ByteArray × Int × Int :=
  if x.2.2 ≠ 0 then (⟨#[]⟩, 0, x.2.2) else (s.extract x.2.1.toNat (x.2.1 + x.1).toNat, x.2.1 + x.1, 0)
def rtSpec (s : ByteArray) (a : Int) : ByteArray × Int × Int := rtOf s (rcSpec s a 4096 1)
def rtRet (x : ByteArray × Int × Int) : Ending := .returned (.tuple #[.string x.1, .int .i64 x.2.1, .int .i64 x.2.2])

theorem rcSpec_bd (s : ByteArray) (a most sz : Int) : (rcSpec s a most sz).2.2 = 0 → 0 ≤ (rcSpec s a most sz).1 ∧ 0 ≤ (rcSpec s a most sz).2.1 ∧ (rcSpec s a most sz).2.1 + (rcSpec s a most sz).1 * sz ≤ s.size ∧ (rcSpec s a most sz).1 ≤ most ∧ (rcSpec s a most sz).1 ≤ 65535 := by
  have h := rdSpec_2 s a
  unfold rcSpec rcOf
  generalize rdSpec s a 2 = x at h ⊢
  obtain ⟨x0, x1, x2⟩ := x
  simp only at h ⊢
  split
  · simp_all
  · split
    · simp
    · split
      · simp
      · simp only; omega

set_option maxHeartbeats 400000 in
theorem readText_any (s : ByteArray) (a : Int) (hs : s.size ≤ maxLen) (hw : -9223372036854775808 ≤ a ∧ a ≤ 9223372036854775807) (w : World) :
    Calls Try.prog 22 #[.string s, .int .i64 a] w fun e w' => e = rtRet (rtSpec s a) ∧ Below w.heap.size w w' := by
  have H := Lib.hid (readCount_text s a hs hw)
  have hb := rcSpec_bd s a 4096 1
  unfold rtSpec
  generalize rcSpec s a 4096 1 = x at H hb ⊢
  obtain ⟨x0, x1, x2⟩ := x
  unfold rdIRet at H
  unfold maxLen at hs
  simp only at hb H ⊢
  clear hw
  by_cases h0 : x2 = 0
  · subst h0
    obtain ⟨b1, b2, b3, b4, b5⟩ := hb rfl
    clear hb
    obtain ⟨n, rfl⟩ := Int.eq_ofNat_of_zero_le b1
    obtain ⟨p, rfl⟩ := Int.eq_ofNat_of_zero_le b2
    have E : Hid (rtOf s ((n : Int), (p : Int), 0) = (s.extract p (p + n), (p : Int) + (n : Int), 0)) := by
      unfold rtOf; rw [if_neg (by simp)]
      simp only
      rw [show ((p : Int)).toNat = p from by omega, show ((p : Int) + (n : Int)).toNat = p + n from by omega]; exact rfl
    go_enter Try.func22, Try.ntmps22
    go_wp2_with fail
    refine (H.out _).mono ?_
    rintro e w' ⟨rfl, rfl⟩
    go_wp2_with fail
    refine (strClone _ _ (by rw [ByteArray.size_extract]; omega)).mono ?_
    rintro e w1 ⟨rfl, hb1⟩
    go_wp2_with fail
    go_ret3
    exact ⟨by rw [E.out]; rfl, hb1⟩
  · have hne : (x2 != 0) = true := by simp [h0]
    have E : Hid (rtOf s (x0, x1, x2) = (⟨#[]⟩, 0, x2)) := by unfold rtOf; rw [if_pos h0]; exact rfl
    clear hb
    go_enter Try.func22, Try.ntmps22
    go_wp2_with (go_at_call 34; refine (H.out _).mono ?_; rintro e w' ⟨rfl, rfl⟩)
    go_ret3
    exact ⟨by rw [E.out]; rfl, Below.refl _ _⟩

end Go.Proofs.Ytcbpekliijbhoaa
