/- The walk of CrcCuts. -/
import Derived.Test.YtifoeolklmlbnaaCrcLaws1
namespace Go.Proofs.Ytifoeolklmlbnaa
open Go.RowKit

theorem cutSpec_short (s : ByteArray) (h : s.size < 4) : cutSpec s = (⟨#[]⟩, 5) := by unfold cutSpec; rw [if_pos h]
theorem cutSpec_ok (s : ByteArray) (h : 4 ≤ s.size) (k : s.data.toList = laidL (s.data.toList.drop 4)) : cutSpec s = (s.extract 4 s.size, 0) := by
  unfold cutSpec; rw [if_neg (by omega), if_pos k, ext_from]
theorem cutSpec_bad (s : ByteArray) (h : 4 ≤ s.size) (k : s.data.toList ≠ laidL (s.data.toList.drop 4)) : cutSpec s = (⟨#[]⟩, 14) := by
  unfold cutSpec; rw [if_neg (by omega), if_neg k]

set_option maxHeartbeats 400000 in
theorem crcCuts_walk (s : ByteArray) (w : World) (hs : s.size ≤ maxLen) :
    Calls Try.prog 5 #[.string s] w fun e w' => e = .returned (.bool true) ∧ Below w.heap.size w w' := by
  have H0 := Lib.hid (few_any s hs)
  have hf := fewB_size s
  generalize fewB s = t at H0 hf
  have h1 := cut_any t (by omega)
  by_cases h4 : t.size < 4
  · rw [cutSpec_short t h4] at h1
    unfold cutRet at h1
    have H1 := Lib.hid h1
    clear h1
    go_enter Try.func5, Try.ntmps5
    go_wp2_with fail
    refine (H0.out _).mono ?_
    rintro e w1 ⟨rfl, rfl⟩
    go_wp2_with fail
    refine (H1.out _).mono ?_
    rintro e w1 ⟨rfl, hb1⟩
    go_wp2_with fail
    refine (awake3_any _).mono ?_
    rintro e w2 ⟨rfl, hb2⟩
    go_wp2_with fail
    go_ret
    exact ⟨rfl, bthen hb1 hb2⟩
  · have h5 : 4 ≤ t.size := by omega
    have h2 := refLay_any (t.extract 4 t.size) (by simp; omega)
    rw [ext_drop] at h2
    obtain ⟨x, hx⟩ : ∃ x, x = (ByteArray.mk (laidL (t.data.toList.drop 4)).toArray) := ⟨_, rfl⟩
    have hxl : x.toList = laidL (t.data.toList.drop 4) := by rw [hx, ByteArray.toList_eq]
    rw [← hx] at h2
    have H2 := Lib.hid h2
    have htl : t.toList = t.data.toList := ByteArray.toList_eq t
    clear h4 hx h2
    by_cases hk : t.data.toList = laidL (t.data.toList.drop 4)
    · rw [cutSpec_ok t h5 hk] at h1
      unfold cutRet at h1
      have H1 := Lib.hid h1
      have hd : (x.toList != t.toList) = false := by rw [hxl, htl, ← hk]; simp
      have he : (x.toList == t.toList) = true := by rw [hxl, htl, ← hk]; simp
      have hy : ((t.extract 4 t.size).toList == (t.extract 4 t.size).toList) = true := by simp
      clear h1 hk hxl htl
      go_enter Try.func5, Try.ntmps5
      go_wp2_with fail
      refine (H0.out _).mono ?_
      rintro e w1 ⟨rfl, rfl⟩
      go_wp2_with fail
      refine (H1.out _).mono ?_
      rintro e w1 ⟨rfl, hb1⟩
      go_wp2_with fail
      refine (H2.out _).mono ?_
      rintro e w2 ⟨rfl, hb2⟩
      go_wp2_with fail
      refine (awake3_any _).mono ?_
      rintro e w3 ⟨rfl, hb3⟩
      go_wp2_with fail
      go_ret
      exact ⟨rfl, bthen (bthen hb1 hb2) hb3⟩
    · rw [cutSpec_bad t h5 hk] at h1
      unfold cutRet at h1
      have H1 := Lib.hid h1
      have hne : ¬ x.toList = t.toList := by rw [hxl, htl]; exact fun e => hk e.symm
      have hd : (x.toList != t.toList) = true := by simpa using hne
      have he : (x.toList == t.toList) = false := by simpa using hne
      clear h1 hk hxl htl hne
      go_enter Try.func5, Try.ntmps5
      go_wp2_with fail
      refine (H0.out _).mono ?_
      rintro e w1 ⟨rfl, rfl⟩
      go_wp2_with fail
      refine (H1.out _).mono ?_
      rintro e w1 ⟨rfl, hb1⟩
      go_wp2_with fail
      refine (H2.out _).mono ?_
      rintro e w2 ⟨rfl, hb2⟩
      go_wp2_with fail
      refine (awake3_any _).mono ?_
      rintro e w3 ⟨rfl, hb3⟩
      go_wp2_with fail
      go_ret
      exact ⟨rfl, bthen (bthen hb1 hb2) hb3⟩

end Go.Proofs.Ytifoeolklmlbnaa
