/- The contract of the document's own ReadText: the same as pack's. -/
import Derived.Test.YtcbpekliijbhoaaPackReadText
import Derived.BigRegion
namespace Go.Proofs.Ytcbpekliijbhoaa
open Go.RowKit

theorem rdSpec_ok2 (s : ByteArray) (a : Nat) (h : a + 2 ≤ s.size) : rdSpec s a 2 = ((s[a].toNat : Int) * 256 + (s[a + 1].toNat : Int), (a : Int) + 2, 0) := by
  unfold rdSpec
  rw [if_neg (by omega), if_neg (by omega), Int.toNat_natCast, byteI_at s a (by omega), byteI_at s (a + 1) (by omega)]
  simp [rdI]

set_option maxHeartbeats 400000 in
theorem refReadText_any (s : ByteArray) (a : Int) (hs : s.size ≤ maxLen) (hw : -9223372036854775808 ≤ a ∧ a ≤ 9223372036854775807) (w : World) :
    Calls Try.prog 23 #[.string s, .int .i64 a] w fun e w' => e = rtRet (rtSpec s a) ∧ Below w.heap.size w w' := by
  obtain ⟨hw1, hw2⟩ := hw
  by_cases h1 : a < 0
  · have E : Hid (rtSpec s a = (⟨#[]⟩, 0, 3)) := by unfold rtSpec rcSpec rdSpec; rw [if_pos (.inl h1)]; exact rfl
    unfold maxLen at hs
    go_enter Try.func23, Try.ntmps23
    go_wp2_with fail
    go_ret3
    exact ⟨by rw [E.out]; rfl, Below.refl _ _⟩
  by_cases h2 : (s.size : Int) < a
  · have E : Hid (rtSpec s a = (⟨#[]⟩, 0, 3)) := by unfold rtSpec rcSpec rdSpec; rw [if_pos (.inr h2)]; exact rfl
    unfold maxLen at hs
    go_enter Try.func23, Try.ntmps23
    go_wp2_with fail
    go_ret3
    exact ⟨by rw [E.out]; rfl, Below.refl _ _⟩
  by_cases h3 : (s.size : Int) - a < 2
  · have E : Hid (rtSpec s a = (⟨#[]⟩, 0, 5)) := by unfold rtSpec rcSpec rdSpec; rw [if_neg (by omega), if_pos (by exact h3)]; exact rfl
    unfold maxLen at hs
    go_enter Try.func23, Try.ntmps23
    go_wp2_with fail
    go_ret3
    exact ⟨by rw [E.out]; rfl, Below.refl _ _⟩
  obtain ⟨b, rfl⟩ := Int.eq_ofNat_of_zero_le (show 0 ≤ a by omega)
  unfold maxLen at hs
  have hlen : b + 2 ≤ s.size := by omega
  have hr := rdSpec_ok2 s b hlen
  have x1 : (s[b].toNat : Int) ≤ 255 := by have := s[b].toNat_lt; omega
  have x2 : (s[b + 1].toNat : Int) ≤ 255 := by have := s[b + 1].toNat_lt; omega
  have hi1 : b < s.size := by omega
  have hi2 : b + 1 < s.size := by omega
  have j1 : (b : Int) + 1 < (s.size : Int) := by omega
  have j2 : 0 ≤ (b : Int) + 1 := by omega
  have j3 : ((b : Int) + 1).toNat = b + 1 := by omega
  by_cases h4 : 4096 < (s[b].toNat : Int) * 256 + (s[b + 1].toNat : Int)
  · have E : Hid (rtSpec s b = (⟨#[]⟩, 0, 4)) := by unfold rtSpec rcSpec; rw [hr]; unfold rcOf; rw [if_neg (by simp), if_pos h4]; exact rfl
    clear hr
    go_enter Try.func23, Try.ntmps23
    go_wp2_with fail
    go_region
    go_wp2_with fail
    go_ret3
    exact ⟨by rw [E.out]; rfl, (Below.refl _ _).drew⟩
  by_cases h5 : (s.size : Int) - (b : Int) - 2 < (s[b].toNat : Int) * 256 + (s[b + 1].toNat : Int)
  · have E : Hid (rtSpec s b = (⟨#[]⟩, 0, 5)) := by unfold rtSpec rcSpec; rw [hr]; unfold rcOf; rw [if_neg (by simp), if_neg h4, if_pos (by simp only; omega)]; exact rfl
    clear hr
    go_enter Try.func23, Try.ntmps23
    go_wp2_with fail
    go_region
    go_wp2_with fail
    go_ret3
    exact ⟨by rw [E.out]; rfl, (Below.refl _ _).drew⟩
  · have E : Hid (rtSpec s b = (s.extract (b + 2) (b + 2 + (s[b].toNat * 256 + s[b + 1].toNat)), (b : Int) + 2 + ((s[b].toNat : Int) * 256 + (s[b + 1].toNat : Int)), 0)) := by
      unfold rtSpec rcSpec; rw [hr]; unfold rcOf; rw [if_neg (by simp), if_neg h4, if_neg (by simp only; omega)]
      unfold rtOf; rw [if_neg (by simp)]
      simp only
      rw [show ((b : Int) + 2).toNat = b + 2 from by omega, show ((b : Int) + 2 + ((s[b].toNat : Int) * 256 + (s[b + 1].toNat : Int))).toNat = b + 2 + (s[b].toNat * 256 + s[b + 1].toNat) from by omega]; exact rfl
    clear hr
    go_enter Try.func23, Try.ntmps23
    go_wp2_with fail
    go_region
    go_wp2_with fail
    go_ret3
    exact ⟨by rw [E.out]; rfl, (Below.refl _ _).drew⟩

end Go.Proofs.Ytcbpekliijbhoaa
