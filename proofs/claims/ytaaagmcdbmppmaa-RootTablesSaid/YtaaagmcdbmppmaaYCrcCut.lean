/- The contract of crc.Cut. -/
import Derived.Test.YtaaagmcdbmppmaaYBase
import Derived.Test.YtaaagmcdbmppmaaYCrcLay
import Derived.Test.YtaaagmcdbmppmaaYZ34
namespace Go.Proofs.Ytaaagmcdbmppmaa
open Go.RowKit


/-- 'string(check[:])', behind a draw -/
theorem chk_string (w1 : World) (n : Nat) : (convert 56 9 (.slice (some ⟨w1.heap.size, 0, none⟩) 4 4)).run Try.prog (w1.alloc (.cells (chkCells n).toArray 68)).drew = .ok (.string ⟨(le4 n).toArray⟩) (w1.alloc (.cells (chkCells n).toArray 68)).drew := by
  have hrow : (w1.alloc (.cells (chkCells n).toArray 68)).drew.heap[w1.heap.size]? = some (.cells (chkCells n ++ []).toArray 68 (0, 0)) := by
    rw [List.append_nil]; exact heap_alloc_new w1 _
  have hcv := run_convert_bytes_back (P := Try.prog) (w1.alloc (.cells (chkCells n).toArray 68)).drew 56 9 5 ⟨w1.heap.size, 0, none⟩ 4 (le4 n) Try.underlying56 Try.underlying5 Try.underlying9 (chk_cells hrow)
  rw [le4_len] at hcv
  exact hcv

/-- what bytes with a check ahead are: the others, and the error -/
def cutSpec (s : ByteArray) : ByteArray × Int :=
  if s.size < 4 then (⟨#[]⟩, 5) else if s.data.toList = laidL (s.data.toList.drop 4) then (⟨(s.data.toList.drop 4).toArray⟩, 0) else (⟨#[]⟩, 14)
def cutRet (x : ByteArray × Int) : Ending := .returned (.tuple #[.string x.1, .int .i64 x.2])

theorem ext_drop (s : ByteArray) (k : Nat) : (s.extract k s.size).data.toList = s.data.toList.drop k := by
  simp only [ByteArray.data_extract, Array.toList_extract, List.extract_eq_take_drop]
  exact List.take_of_length_le (by simp)
theorem ext_take (s : ByteArray) (k : Nat) : (s.extract 0 k).data.toList = s.data.toList.take k := by
  simp [ByteArray.data_extract, Array.toList_extract, List.extract_eq_take_drop]
theorem ext_from (s : ByteArray) (k : Nat) : s.extract k s.size = ⟨(s.data.toList.drop k).toArray⟩ := by
  apply ByteArray.ext
  rw [← ext_drop]
theorem cut_iff (l : List UInt8) (n : Nat) (hn : n = crcN (l.drop 4)) : l.take 4 = le4 n ↔ l = laidL (l.drop 4) := by
  unfold laidL
  rw [← hn]
  constructor
  · intro h
    rw [← h]
    exact (List.take_append_drop 4 l).symm
  · intro h
    have e := congrArg (List.take 4) h
    rw [e, ← le4_len n]
    exact List.take_left

set_option maxHeartbeats 400000 in
theorem cut_any (s : ByteArray) (hs : s.size ≤ 140737488355328) (w : World) :
    Calls Try.prog 26 #[.string s] w fun e w' => e = cutRet (cutSpec s) ∧ Below w.heap.size w w' := by
  by_cases h : s.size < 4
  · have E : Hid (cutSpec s = (⟨#[]⟩, 5)) := by show _ = _; unfold cutSpec; rw [if_pos h]
    go_enter Try.func26, Try.ntmps26
    go_wp2_with fail
    go_ret2
    exact ⟨by rw [E.out]; rfl, Below.refl _ _⟩
  · have h4 : 4 ≤ s.size := by omega
    have H := Lib.hid (checkOf_any (s.extract 4 s.size) (by unfold maxLen; simp; omega))
    rw [ext_drop] at H
    obtain ⟨n, hn⟩ : ∃ n, n = crcN (s.data.toList.drop 4) := ⟨_, rfl⟩
    rw [← hn] at H
    have hiff := cut_iff s.data.toList n hn
    have ht : (s.extract 0 4).toList = s.data.toList.take 4 := by rw [ByteArray.toList_eq, ext_take]
    rw [← ht] at hiff
    have HC := Lib.hid (strClone (s.extract 4 s.size))
    unfold chkAgg at H
    by_cases hq : (s.extract 0 4).toList = le4 n
    · have E : Hid (cutSpec s = (s.extract 4 s.size, 0)) := by show _ = _; unfold cutSpec; rw [if_neg h, if_pos (hiff.1 hq), ext_from]
      have hd : ((s.extract 0 4).toList == le4 n) = true := by rw [hq]; simp
      clear h hn hiff ht hq
      go_enter Try.func26, Try.ntmps26
      go_wp2_with fail
      refine (H.out _).mono ?_
      rintro e w1 ⟨rfl, hb1⟩
      have hcv := chk_string w1 n
      unfold chkCells at hcv
      go_wp2_with fail
      go_region
      go_wp2_with fail
      refine (HC.out _ (by simp; omega)).mono ?_
      rintro e w2 ⟨rfl, hb2⟩
      go_wp2_with fail
      go_ret2
      exact ⟨by rw [E.out]; rfl, bthen (bthen hb1 (balloc w1 _).drew) hb2⟩
    · have E : Hid (cutSpec s = (⟨#[]⟩, 14)) := by show _ = _; unfold cutSpec; rw [if_neg h, if_neg (fun e => hq (hiff.2 e))]
      have hd : ((s.extract 0 4).toList == le4 n) = false := by simpa using hq
      clear h hn hiff ht hq
      go_enter Try.func26, Try.ntmps26
      go_wp2_with fail
      refine (H.out _).mono ?_
      rintro e w1 ⟨rfl, hb1⟩
      have hcv := chk_string w1 n
      unfold chkCells at hcv
      go_wp2_with fail
      go_region
      go_wp2_with fail
      go_ret2
      exact ⟨by rw [E.out]; rfl, bthen hb1 (balloc w1 _).drew⟩

end Go.Proofs.Ytaaagmcdbmppmaa
