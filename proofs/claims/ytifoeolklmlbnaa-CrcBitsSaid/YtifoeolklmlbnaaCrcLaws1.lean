/- What must come at any rate ('awake'), and the walks of CrcSums, CrcCuts, CrcBack. -/
import Derived.Test.YtifoeolklmlbnaaCrcCut
namespace Go.Proofs.Ytifoeolklmlbnaa
open Go.RowKit

/-- not too many bytes -/
def fewB (s : ByteArray) : ByteArray := if 2000 < s.size then s.extract 0 2000 else s
theorem fewB_size (s : ByteArray) : (fewB s).size ≤ 2000 := by
  unfold fewB
  split
  · simp; omega
  · omega
theorem few_any (s : ByteArray) (hs : s.size ≤ maxLen) (w : World) :
    Calls Try.prog 8 #[.string s] w fun e w' => e = .returned (.string (fewB s)) ∧ w = w' := by
  unfold maxLen at hs
  by_cases h : 2000 < s.size
  · have E : Hid (fewB s = s.extract 0 2000) := by show _ = _; unfold fewB; rw [if_pos h]
    go_enter Try.func8, Try.ntmps8
    go_wp2_with fail
    go_ret
    exact ⟨by rw [E.out]; rfl, rfl⟩
  · have E : Hid (fewB s = s) := by show _ = _; unfold fewB; rw [if_neg h]
    go_enter Try.func8, Try.ntmps8
    go_wp2_with fail
    go_ret
    exact ⟨by rw [E.out]; rfl, rfl⟩

/-- what was laid is cut as it was -/
theorem cut_laid (l : List UInt8) : cutSpec ⟨(laidL l).toArray⟩ = (⟨l.toArray⟩, 0) := by
  have e : (laidL l).drop 4 = l := by
    unfold laidL
    rw [← le4_len (crcN l)]
    exact List.drop_left
  unfold cutSpec
  rw [if_neg (by rw [laid_size]; omega)]
  simp only [e]
  rw [if_pos trivial]

theorem awake_crc : crcN [49, 50, 51, 52, 53, 54, 55, 56, 57] = 3808858755 := by decide +kernel

set_option maxHeartbeats 400000 in
theorem awake3_any (w : World) :
    Calls Try.prog 9 #[] w fun e w' => e = .returned (.bool true) ∧ Below w.heap.size w w' := by
  have H1 := Lib.hid (lay_any ⟨#[97, 98, 99]⟩ (by decide +kernel))
  have h2 := cut_any ⟨(laidL [97, 98, 99]).toArray⟩ (by rw [laid_size]; simp)
  rw [cut_laid] at h2
  unfold cutRet at h2
  have H2 := Lib.hid h2
  have h3 := sum_any ⟨#[49, 50, 51, 52, 53, 54, 55, 56, 57]⟩ (by decide +kernel)
  have H3 : Hid (∀ w, Calls Try.prog 10 #[.string ⟨#[49, 50, 51, 52, 53, 54, 55, 56, 57]⟩] w fun e w' => e = .returned (.int .u32 3808858755) ∧ w = w') := by
    intro w
    have h := h3 w
    rw [show (ByteArray.mk #[49, 50, 51, 52, 53, 54, 55, 56, 57]).data.toList = [49, 50, 51, 52, 53, 54, 55, 56, 57] from rfl, awake_crc] at h
    exact h
  clear h2 h3
  generalize laidL [97, 98, 99] = x at H1 H2
  go_enter Try.func9, Try.ntmps9
  go_wp2_with fail
  refine (H1.out _).mono ?_
  rintro e w1 ⟨rfl, hb1⟩
  go_wp2_with fail
  refine (H2.out _).mono ?_
  rintro e w2 ⟨rfl, hb2⟩
  go_wp2_with fail
  refine (H3.out _).mono ?_
  rintro e w3 ⟨rfl, rfl⟩
  go_wp2_with fail
  go_ret
  exact ⟨rfl, bthen hb1 hb2⟩

set_option maxHeartbeats 400000 in
theorem crcSums_walk (s : ByteArray) (w : World) (hs : s.size ≤ maxLen) :
    Calls Try.prog 3 #[.string s] w fun e w' => e = .returned (.bool true) ∧ Below w.heap.size w w' := by
  have H0 := Lib.hid (few_any s hs)
  have hf := fewB_size s
  generalize fewB s = t at H0 hf
  have H1 := Lib.hid (sum_any t (by unfold maxLen; omega))
  have H2 := Lib.hid (refSum_any t (by omega))
  have H3 := Lib.hid (lay_any t (by omega))
  have H4 := Lib.hid (refLay_any t (by omega))
  generalize crcN t.data.toList = n at H1 H2
  generalize (ByteArray.mk (laidL t.data.toList).toArray) = x at H3 H4
  have hx : (x.toList == x.toList) = true := by simp
  go_enter Try.func3, Try.ntmps3
  go_wp2_with fail
  refine (H0.out _).mono ?_
  rintro e w1 ⟨rfl, rfl⟩
  go_wp2_with fail
  refine (awake3_any _).mono ?_
  rintro e w1 ⟨rfl, hb1⟩
  go_wp2_with fail
  refine (H1.out _).mono ?_
  rintro e w2 ⟨rfl, rfl⟩
  go_wp2_with fail
  refine (H2.out _).mono ?_
  rintro e w2 ⟨rfl, rfl⟩
  go_wp2_with fail
  refine (H3.out _).mono ?_
  rintro e w2 ⟨rfl, hb2⟩
  go_wp2_with fail
  refine (H4.out _).mono ?_
  rintro e w3 ⟨rfl, hb3⟩
  go_wp2_with fail
  go_ret
  exact ⟨rfl, bthen (bthen hb1 hb2) hb3⟩

set_option maxHeartbeats 400000 in
theorem crcBack_walk (s : ByteArray) (w : World) (hs : s.size ≤ maxLen) :
    Calls Try.prog 6 #[.string s] w fun e w' => e = .returned (.bool true) ∧ Below w.heap.size w w' := by
  have H0 := Lib.hid (few_any s hs)
  have hf := fewB_size s
  generalize fewB s = t at H0 hf
  have H1 := Lib.hid (lay_any t (by omega))
  have h2 := cut_any ⟨(laidL t.data.toList).toArray⟩ (by rw [laid_size]; simp; omega)
  rw [cut_laid] at h2
  unfold cutRet at h2
  have H2 : Hid (∀ w, Calls Try.prog 15 #[.string ⟨(laidL t.data.toList).toArray⟩] w fun e w' => e = .returned (.tuple #[.string t, .int .i64 0]) ∧ Below w.heap.size w w') := h2
  clear h2
  generalize (ByteArray.mk (laidL t.data.toList).toArray) = x at H1 H2
  have hx : (t.toList == t.toList) = true := by simp
  go_enter Try.func6, Try.ntmps6
  go_wp2_with fail
  refine (H0.out _).mono ?_
  rintro e w1 ⟨rfl, rfl⟩
  go_wp2_with fail
  refine (H1.out _).mono ?_
  rintro e w1 ⟨rfl, hb1⟩
  go_wp2_with fail
  refine (H2.out _).mono ?_
  rintro e w2 ⟨rfl, hb2⟩
  go_wp2_with fail
  refine (awake3_any _).mono ?_
  rintro e w3 ⟨rfl, hb3⟩
  go_wp2_with fail
  go_ret
  exact ⟨rfl, bthen (bthen hb1 hb2) hb3⟩

end Go.Proofs.Ytifoeolklmlbnaa
