/- The contracts of pack.Text and of the document's own Text, and of what must come at any rate ('awake'). -/
import Derived.Test.YtcbpekliijbhoaaPackRead
namespace Go.Proofs.Ytcbpekliijbhoaa
open Go.RowKit

/-- a text's bytes, or that it is too big -/
def textSpec (s : ByteArray) : ByteArray × Int := if 4096 < s.size then (⟨#[]⟩, 4) else (strOfNums (beI 2 s.size) ++ s, 0)
def textRet (x : ByteArray × Int) : Ending := .returned (.tuple #[.string x.1, .int .i64 x.2])

set_option maxHeartbeats 400000 in
theorem packText (s : ByteArray) (hs : s.size ≤ maxLen) (w : World) :
    Calls Try.prog 14 #[.string s] w fun e w' => e = textRet (textSpec s) ∧ Below w.heap.size w w' := by
  unfold maxLen at hs
  by_cases h : 4096 < s.size
  · have E : Hid (textSpec s = (⟨#[]⟩, 4)) := by unfold textSpec; rw [if_pos h]; exact rfl
    go_enter Try.func14, Try.ntmps14
    go_wp2_with fail
    go_ret2
    exact ⟨by rw [E.out]; rfl, Below.refl _ _⟩
  · have E : Hid (textSpec s = (strOfNums (beI 2 s.size) ++ s, 0)) := by unfold textSpec; rw [if_neg h]; exact rfl
    have hz : (strOfNums (beI 2 s.size)).size ≤ 2 := by rw [strOfNums_size, beI_len]; omega
    go_enter Try.func14, Try.ntmps14
    go_wp2_with (go_at_call 29; refine (lay_u16_2 _ _).mono ?_; rintro e w' ⟨rfl, hb⟩)
    go_ret2
    exact ⟨by rw [E.out]; rfl, hb⟩

theorem beI_two (n : Nat) (h : n ≤ 65535) : beI 2 (n : Int) = [(n : Int) / 256, (n : Int) % 256] := by
  simp only [beI]
  have e1 : (n : Int) / 256 ^ 1 % 256 = (n : Int) / 256 := by omega
  have e2 : (n : Int) / 256 ^ 0 % 256 = (n : Int) % 256 := by omega
  rw [e1, e2]

set_option maxHeartbeats 400000 in
theorem refTwo (n : Nat) (h : n ≤ 65535) (w : World) :
    Calls Try.prog 30 #[.int .i64 n] w fun e w' => e = .returned (.string (strOfNums (beI 2 n))) ∧ Below w.heap.size w w' := by
  have hcv := run_convert_bytes_arg (P := Try.prog) (w.alloc (.cells #[.int .u8 ((n : Int) / 256), .int .u8 ((n : Int) % 256)] 5)) 50 5 Try.underlying50 Try.underlying5 w.heap.size 0 2 2 [(n : Int) / 256, (n : Int) % 256] rfl
    (by intro i hi; rcases (by omega : i = 0 ∨ i = 1) with rfl | rfl <;> simp) 9 Try.underlying9
  have E := Lib.hid (beI_two n h)
  go_enter Try.func30, Try.ntmps30
  go_wp2_with fail
  go_ret
  exact ⟨by rw [E.out]; rfl, (Below.refl _ _).alloc (Nat.le_refl _) _⟩

set_option maxHeartbeats 400000 in
theorem refText (s : ByteArray) (hs : s.size ≤ maxLen) (w : World) :
    Calls Try.prog 15 #[.string s] w fun e w' => e = textRet (textSpec s) ∧ Below w.heap.size w w' := by
  unfold maxLen at hs
  by_cases h : 4096 < s.size
  · have E : Hid (textSpec s = (⟨#[]⟩, 4)) := by unfold textSpec; rw [if_pos h]; exact rfl
    go_enter Try.func15, Try.ntmps15
    go_wp2_with fail
    go_ret2
    exact ⟨by rw [E.out]; rfl, Below.refl _ _⟩
  · have E : Hid (textSpec s = (strOfNums (beI 2 s.size) ++ s, 0)) := by unfold textSpec; rw [if_neg h]; exact rfl
    have hz : (strOfNums (beI 2 s.size)).size ≤ 2 := by rw [strOfNums_size, beI_len]; omega
    go_enter Try.func15, Try.ntmps15
    go_wp2_with (go_at_call 30; refine (refTwo _ (by omega) _).mono ?_; rintro e w' ⟨rfl, hb⟩)
    go_ret2
    exact ⟨by rw [E.out]; rfl, hb⟩

/-- the string in which -7 is laid behind an x -/
def awakeS : ByteArray := ⟨#[120]⟩ ++ strOfNums (beI 8 (flip63 (-7)))
theorem awake_read : rdISpec (rdSpec awakeS 1 8) = (-7, 9, 0) := by decide +kernel
theorem awake_text : textSpec ⟨#[97, 98]⟩ = (⟨#[0, 2, 97, 98]⟩, 0) := by decide +kernel
theorem awake_size : awakeS.size = 9 := by decide +kernel
theorem awake_u : strOfNums (beI 8 258) = ⟨#[0, 0, 0, 0, 0, 0, 1, 2]⟩ := by decide +kernel

set_option maxHeartbeats 400000 in
theorem awake_any (w : World) :
    Calls Try.prog 9 #[] w fun e w' => e = .returned (.bool true) ∧ Below w.heap.size w w' := by
  have h1 := packText ⟨#[97, 98]⟩ (by decide +kernel)
  rw [awake_text] at h1
  unfold textRet at h1
  have H1 := Lib.hid h1
  have h2 := readI_any awakeS 1 (by rw [awake_size]; decide +kernel) (by omega)
  rw [awake_read] at h2
  unfold rdIRet awakeS at h2
  have H2 := Lib.hid h2
  have h3 := packU 258
  rw [awake_u] at h3
  have H3 := Lib.hid h3
  have H4 := Lib.hid (packI (-7))
  clear h1 h2 h3
  go_enter Try.func9, Try.ntmps9
  go_wp2_with fail
  refine (H1.out _).mono ?_
  rintro e w1 ⟨rfl, hb1⟩
  go_wp2_with fail
  refine (H4.out _).mono ?_
  rintro e w2 ⟨rfl, hb2⟩
  go_wp2_with fail
  refine (H2.out _).mono ?_
  rintro e w3 ⟨rfl, rfl⟩
  go_wp2_with fail
  refine (H3.out _).mono ?_
  rintro e w4 ⟨rfl, hb3⟩
  go_wp2_with fail
  go_ret
  exact ⟨rfl, (hb1.trans (hb2.mono hb1.size)).trans (hb3.mono (Nat.le_trans hb1.size hb2.size))⟩

end Go.Proofs.Ytcbpekliijbhoaa
