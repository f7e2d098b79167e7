/- The contract of the program's fetch. The contracts of pack.read, ReadU, ReadI and of the document's own ReadU, ReadI. The contract of crc.Cut. The contracts of the program's parts and Get. -/
import Derived.Test.YtmflkkkbahghgaaGreatYZ12
import Derived.Test.YtmflkkkbahghgaaGreatYZ11
import Derived.Test.YtmflkkkbahghgaaGreatYZ0
namespace Go.Proofs.YtmflkkkbahghgaaGreat
open Go.RowKit Go.Deep
set_option linter.unusedVariables false
set_option linter.unusedSimpArgs false
set_option maxRecDepth 100000

theorem join_four (f : Nat → Nat → Int) : (⟨(Lib.join ([sec (f 0), sec (f 1), sec (f 2), sec (f 3)].map (·.data.toList)) (ByteArray.mk #[]).data.toList).toArray⟩ : ByteArray) = allF f 4 := by
  simp only [List.map_cons, List.map_nil]
  rw [Lib.join_cons]
  apply ByteArray.ext
  apply Array.ext'
  simp only [allF]
  simp [Lib.joinTail]
theorem join_four_len (f : Nat → Nat → Int) : (Lib.join ([sec (f 0), sec (f 1), sec (f 2), sec (f 3)].map (·.data.toList)) (ByteArray.mk #[]).data.toList).length ≤ 140737488355328 := by
  have h := congrArg ByteArray.size (join_four f)
  rw [allF_size] at h
  have h2 : (⟨(Lib.join ([sec (f 0), sec (f 1), sec (f 2), sec (f 3)].map (·.data.toList)) (ByteArray.mk #[]).data.toList).toArray⟩ : ByteArray).size = (Lib.join ([sec (f 0), sec (f 1), sec (f 2), sec (f 3)].map (·.data.toList)) (ByteArray.mk #[]).data.toList).length := by
    show (Lib.join _ _).toArray.size = _
    rw [List.size_toArray]
  omega
variable {base P bS bm cS : Nat} {d : Dk} {u : World}
def fetchRet (d : Dk) (k : Nat) : Ending := .returned (.tuple (if d.down then #[.string ⟨#[]⟩, .int .i64 13] else #[.string (pageS d k), .int .i64 0]))
set_option maxHeartbeats 3200000 in
theorem pfetch_any (h : PDk base P bS bm cS d u) (hn : d.n ≤ 4096) (k : Nat) (hk : (k : Int) < manyP (d.n : Int)) : Calls Tryz.prog 182 #[.pointer (some ⟨P, 0, none⟩), .int .i64 (k : Int)] u fun r u' => r = fetchRet d k ∧ Below u.heap.size u u' := by
  have hin := many_in hk (by omega)
  have hk1 : (k : Int) ≤ 4096 := by omega
  have HF := Lib.hid (fun w => pfirst_any (k : Int) (by omega) hk1 w)
  have HIN := Lib.hid hin
  clear hin hk
  have Z1 := heap_alloc_new u (.cells #[.string ⟨#[]⟩, .string ⟨#[]⟩, .string ⟨#[]⟩, .string ⟨#[]⟩] 200)
  have B1 := balloc u (.cells #[.string ⟨#[]⟩, .string ⟨#[]⟩, .string ⟨#[]⟩, .string ⟨#[]⟩] 200)
  obtain ⟨D, hD⟩ : ∃ D, D = u.heap.size := ⟨_, rfl⟩
  have HD : Hid (u.heap.size ≤ D) := Lib.hid (by omega)
  rw [← hD] at Z1
  have T1 : Hid (BoxT D (fun i => sec (nowD d (2 + 4 * k + i))) 0 (u.alloc (.cells #[.string ⟨#[]⟩, .string ⟨#[]⟩, .string ⟨#[]⟩, .string ⟨#[]⟩] 200))) := Lib.hid ⟨Z1⟩
  have D1 := Lib.hid (h.below B1)
  have HNP : Hid (D ≠ P ∧ D ≠ bS ∧ D ≠ bm) := Lib.hid (by have := h.lt; omega)
  have B2 := Lib.hid B1
  clear Z1 B1 h
  cases hd : d.down with
  | true =>
    have E : Hid (fetchRet d k = .returned (.tuple #[.string ⟨#[]⟩, .int .i64 13])) := Lib.hid (by unfold fetchRet; rw [hd]; rfl)
    have HR := Lib.hid (fun (w : World) (h : PDk base P bS bm cS d w) (i : Int) => pread_any h hn i)
    unfold readE readS at HR
    rw [hd] at HR
    simp only [if_true] at HR
    clear hd
    go_enter Tryz.func182, Tryz.ntmps182
    go_upto_region 2 with fail
    rw [← hD]
    generalize u.alloc (.cells #[.string ⟨#[]⟩, .string ⟨#[]⟩, .string ⟨#[]⟩, .string ⟨#[]⟩] 200) = w1 at *
    clear hD
    go_wp2_with fail
    go_loopw [7, 8, 9, 10] (fun _ _ _ i wr => i = .int .i64 0 ∧ wr = w1) (fun _ _ _ i _ => 4 - (intOf i).toNat)
    case atStart => exact ⟨rfl, rfl⟩
    case round =>
      obtain ⟨rfl, rfl⟩ := hrel
      go_wp2_with fail
      refine (HF.out _).mono ?_
      rintro e w2 ⟨rfl, rfl⟩
      go_wp2_with fail
      refine (HR.out _ D1.out _).mono ?_
      rintro e w3 ⟨rfl, rfl⟩
      go_wp2_with fail
      go_ret2
      exact ⟨by rw [E.out]; rfl, B2.out⟩
  | false =>
    have E : Hid (fetchRet d k = .returned (.tuple #[.string (pageS d k), .int .i64 0])) := Lib.hid (by unfold fetchRet; rw [hd]; rfl)
    have HR := Lib.hid (fun (w : World) (h : PDk base P bS bm cS d w) (i : Int) => pread_any h hn i)
    unfold readE readS at HR
    rw [hd] at HR
    simp only [if_false, Bool.false_eq_true] at HR
    clear hd
    go_enter Tryz.func182, Tryz.ntmps182
    go_upto_region 2 with fail
    rw [← hD]
    generalize u.alloc (.cells #[.string ⟨#[]⟩, .string ⟨#[]⟩, .string ⟨#[]⟩, .string ⟨#[]⟩] 200) = w1 at *
    clear hD
    go_wp2_with fail
    go_loopw [7, 8, 9, 10] (fun _ _ _ i wr => ∃ j : Nat, j ≤ 4 ∧ i = .int .i64 j ∧ Hid (BoxT D (fun i => sec (nowD d (2 + 4 * k + i))) j wr) ∧ Hid (PDk base P bS bm cS d wr) ∧ Hid (Below u.heap.size u wr)) (fun _ _ _ i _ => 4 - (intOf i).toNat)
    case atStart => exact ⟨0, Nat.zero_le _, rfl, T1, D1, B2⟩
    case round =>
      obtain ⟨j, hj, rfl, HT, HP, HB⟩ := hrel
      by_cases hlt : j < 4
      · have d1 : decide ((j : Int) < 4) = true := by simp; omega
        have g0 : (0 : Int) ≤ (j : Int) := by omega
        have g1 : (j : Int) < 4 := by omega
        have H5 := HR.out wr HP.out (2 + 4 * (k : Int) + (j : Int))
        rw [if_neg (by have := HIN.out; omega), if_neg (by have := HIN.out; omega), show (2 + 4 * (k : Int) + (j : Int)).toNat = 2 + 4 * k + j by omega] at H5
        have H6 := Lib.hid H5
        clear H5
        have hc := HT.out.cell (i := j) hlt
        have hf := HT.out.frozen j
        have F := Lib.hid (HT.out.put hlt)
        have FP : Hid (PDk base P bS bm cS d (wr.setCell ⟨D, j, none⟩ (.string (sec (nowD d (2 + 4 * k + j)))))) := Lib.hid (HP.out.kept (set_else _ HNP.out.1.symm) (set_else _ HNP.out.2.1.symm) (set_else _ HNP.out.2.2.symm))
        have FB := Lib.hid (HB.out.trans ((Below.refl _ _).setCell (p := ⟨D, j, none⟩) HD.out (.string (sec (nowD d (2 + 4 * k + j))))))
        generalize sec (nowD d (2 + 4 * k + j)) = tx at *
        go_wp2_with fail
        refine (HF.out _).mono ?_
        rintro e w2 ⟨rfl, rfl⟩
        go_wp2_with fail
        refine (H6.out).mono ?_
        rintro e w3 ⟨rfl, rfl⟩
        go_wp2_with fail
        go_roundw
        case rel => exact ⟨j + 1, hlt, by go_num, F, FP, FB⟩
        case measure => simp [intOf]; omega
      · obtain rfl : j = 4 := by omega
        have HJ := Lib.hid (strJoin D 0 4 [sec (nowD d (2 + 4 * k + 0)), sec (nowD d (2 + 4 * k + 1)), sec (nowD d (2 + 4 * k + 2)), sec (nowD d (2 + 4 * k + 3))] ⟨#[]⟩ wr (fun q x hq => by
          rcases q with _ | _ | _ | _ | q
          · simp only [List.getElem?_cons_zero, Option.some.injEq] at hq; subst hq; exact HT.out.cell (i := 0) (by omega)
          · simp only [List.getElem?_cons_zero, List.getElem?_cons_succ, Option.some.injEq] at hq; subst hq; exact HT.out.cell (i := 1) (by omega)
          · simp only [List.getElem?_cons_zero, List.getElem?_cons_succ, Option.some.injEq] at hq; subst hq; exact HT.out.cell (i := 2) (by omega)
          · simp only [List.getElem?_cons_zero, List.getElem?_cons_succ, Option.some.injEq] at hq; subst hq; exact HT.out.cell (i := 3) (by omega)
          · simp at hq) (heap_lt HT.out.b) (by simp) (by simp) (by simp) (join_four_len (fun i => nowD d (2 + 4 * k + i))))
        rw [join_four (fun i => nowD d (2 + 4 * k + i))] at HJ
        change Hid (Calls _ _ #[.slice (some ⟨D, 0, none⟩) 4 4, .string ⟨#[]⟩] _ fun e w' => e = .returned (.string (pageS d k)) ∧ _) at HJ
        have d1 : decide ((4 : Int) < 4) = false := by decide
        go_wp2_with fail
        refine (HJ.out).mono ?_
        rintro e w2 ⟨rfl, hb⟩
        have FB := Lib.hid (bthen HB.out hb)
        clear hb
        go_wp2_with fail
        go_ret2
        exact ⟨by rw [E.out]; rfl, FB.out⟩

end Go.Proofs.YtmflkkkbahghgaaGreat
namespace Go.Proofs.YtmflkkkbahghgaaGreat
open Go.RowKit
set_option maxRecDepth 100000

set_option maxHeartbeats 400000 in
theorem read_ok (s : ByteArray) (a k : Nat) (hk : k ≤ 8) (hs : s.size ≤ maxLen) (ha : a + k ≤ s.size) (w : World) :
    Calls Tryz.prog 211 #[.string s, .int .i64 a, .int .i64 k] w fun e w' => e = .returned (.tuple #[.int .u64 (rdI s a k), .int .i64 ((a + k : Nat) : Int), .int .i64 0]) ∧ w = w' := by
  unfold maxLen at hs
  have h1 : ¬ ((a : Int) < 0) := by omega
  have h2 : ¬ ((s.size : Int) < (a : Int)) := by omega
  go_enter Tryz.func211, Tryz.ntmps211
  go_wp2_with fail
  go_loop [9, 26] (fun b i => ∃ j : Nat, j ≤ k ∧ i = .int .i64 j ∧ b = .int .u64 (rdI s a j)) (fun _ i => k - (intOf i).toNat)
  case atStart => exact ⟨0, by omega, rfl, rfl⟩
  case round =>
    obtain ⟨j, hj, rfl, rfl⟩ := hrel
    have hb := rdI_bd s a j
    have hc := byteI_bd s (a + j)
    by_cases hlt : j < k
    · go_wp2_with fail
      go_round
      case rel =>
        exact ⟨j + 1, by omega, by go_num, by rw [byteI_at s (a + j) (by omega), shl8_or _ _ hb.1 (rdI_56 s a j (by omega)) hc.1 hc.2]; rfl⟩
      case measure => simp [intOf]; omega
    · obtain rfl : j = k := by omega
      go_wp2_with fail
      go_ret3
      exact ⟨rfl, rfl⟩

set_option maxHeartbeats 400000 in
theorem read_any (s : ByteArray) (a : Int) (k : Nat) (hk : k ≤ 8) (hs : s.size ≤ maxLen) (hw : -9223372036854775808 ≤ a ∧ a ≤ 9223372036854775807) (w : World) :
    Calls Tryz.prog 211 #[.string s, .int .i64 a, .int .i64 k] w fun e w' => e = rdRet (rdSpec s a k) ∧ w = w' := by
  obtain ⟨hw1, hw2⟩ := hw
  by_cases h1 : a < 0
  · have E : Hid (rdSpec s a k = (0, 0, 3)) := by unfold rdSpec; rw [if_pos (.inl h1)]; exact rfl
    unfold maxLen at hs
    go_enter Tryz.func211, Tryz.ntmps211
    go_wp2_with fail
    go_ret3
    exact ⟨by rw [E.out]; rfl, rfl⟩
  by_cases h2 : (s.size : Int) < a
  · have E : Hid (rdSpec s a k = (0, 0, 3)) := by unfold rdSpec; rw [if_pos (.inr h2)]; exact rfl
    unfold maxLen at hs
    go_enter Tryz.func211, Tryz.ntmps211
    go_wp2_with fail
    go_ret3
    exact ⟨by rw [E.out]; rfl, rfl⟩
  by_cases h3 : (s.size : Int) - a < (k : Int)
  · have E : Hid (rdSpec s a k = (0, 0, 5)) := by unfold rdSpec; rw [if_neg (by omega), if_pos h3]; exact rfl
    unfold maxLen at hs
    go_enter Tryz.func211, Tryz.ntmps211
    go_wp2_with fail
    go_ret3
    exact ⟨by rw [E.out]; rfl, rfl⟩
  obtain ⟨b, rfl⟩ := Int.eq_ofNat_of_zero_le (show 0 ≤ a by omega)
  have E : rdSpec s b k = (rdI s b k, (b : Int) + (k : Int), 0) := by unfold rdSpec; rw [if_neg (by omega), if_neg h3, Int.toNat_natCast]
  rw [E]
  exact read_ok s b k hk hs (by omega) w

theorem read_8 (s : ByteArray) (a : Int) (hs : s.size ≤ maxLen) (hw : -9223372036854775808 ≤ a ∧ a ≤ 9223372036854775807) (w : World) :
    Calls Tryz.prog 211 #[.string s, .int .i64 a, .int .i64 8] w fun e w' => e = rdRet (rdSpec s a 8) ∧ w = w' := read_any s a 8 (by omega) hs hw w
theorem readU_any (s : ByteArray) (a : Int) (hs : s.size ≤ maxLen) (hw : -9223372036854775808 ≤ a ∧ a ≤ 9223372036854775807) (w : World) :
    Calls Tryz.prog 208 #[.string s, .int .i64 a] w fun e w' => e = rdRet (rdSpec s a 8) ∧ w = w' := by
  have H := Lib.hid (read_8 s a hs hw)
  generalize rdSpec s a 8 = x at H ⊢
  obtain ⟨x0, x1, x2⟩ := x
  unfold rdRet at H ⊢
  clear hs hw
  go_enter Tryz.func208, Tryz.ntmps208
  go_wp2_with (go_at_call 211; refine (H.out _).mono ?_; rintro e w' ⟨rfl, rfl⟩)
  go_ret3
  exact ⟨rfl, rfl⟩


theorem readI_any (s : ByteArray) (a : Int) (hs : s.size ≤ maxLen) (hw : -9223372036854775808 ≤ a ∧ a ≤ 9223372036854775807) (w : World) :
    Calls Tryz.prog 207 #[.string s, .int .i64 a] w fun e w' => e = rdIRet (rdISpec (rdSpec s a 8)) ∧ w = w' := by
  have H := Lib.hid (read_8 s a hs hw)
  generalize rdSpec s a 8 = x at H ⊢
  obtain ⟨x0, x1, x2⟩ := x
  unfold rdRet at H
  clear hs hw
  by_cases h0 : x2 = 0
  · subst h0
    have E : Hid (rdISpec (x0, x1, 0) = (unflip63 x0, x1, 0)) := by unfold rdISpec; simp [Hid]
    go_enter Tryz.func207, Tryz.ntmps207
    go_wp2_with (go_at_call 211; refine (H.out _).mono ?_; rintro e w' ⟨rfl, rfl⟩)
    go_ret3
    exact ⟨by rw [E.out]; rfl, rfl⟩
  · have E : Hid (rdISpec (x0, x1, x2) = (0, 0, x2)) := by unfold rdISpec; simp [Hid, h0]
    have hne : (x2 != 0) = true := by simp [h0]
    go_enter Tryz.func207, Tryz.ntmps207
    go_wp2_with (go_at_call 211; refine (H.out _).mono ?_; rintro e w' ⟨rfl, rfl⟩)
    go_ret3
    exact ⟨by rw [E.out]; rfl, rfl⟩

end Go.Proofs.YtmflkkkbahghgaaGreat
namespace Go.Proofs.YtmflkkkbahghgaaGreat
open Go.RowKit


/-- 'string(check[:])', behind a draw -/
theorem chk_string (w1 : World) (n : Nat) : (convert 71 9 (.slice (some ⟨w1.heap.size, 0, none⟩) 4 4)).run Tryz.prog (w1.alloc (.cells (chkCells n).toArray 156)).drew = .ok (.string ⟨(le4 n).toArray⟩) (w1.alloc (.cells (chkCells n).toArray 156)).drew := by
  have hrow : (w1.alloc (.cells (chkCells n).toArray 156)).drew.heap[w1.heap.size]? = some (.cells (chkCells n ++ []).toArray 156 (0, 0)) := by
    rw [List.append_nil]; exact heap_alloc_new w1 _
  have hcv := run_convert_bytes_back (P := Tryz.prog) (w1.alloc (.cells (chkCells n).toArray 156)).drew 71 9 5 ⟨w1.heap.size, 0, none⟩ 4 (le4 n) Tryz.underlying71 Tryz.underlying5 Tryz.underlying9 (chk_cells hrow)
  rw [le4_len] at hcv
  exact hcv

/-- what bytes with a check ahead are: the others, and the error -/
def cutSpec (s : ByteArray) : ByteArray × Int :=
  if s.size < 4 then (⟨#[]⟩, 5) else if s.data.toList = laidL (s.data.toList.drop 4) then (⟨(s.data.toList.drop 4).toArray⟩, 0) else (⟨#[]⟩, 14)
def cutRet (x : ByteArray × Int) : Ending := .returned (.tuple #[.string x.1, .int .i64 x.2])

theorem ext_drop (s : ByteArray) (k : Nat) : (s.extract k s.size).data.toList = s.data.toList.drop k := by
  simp only [ByteArray.data_extract, Array.toList_extract, List.extract_eq_take_drop]
  exact List.take_of_length_le (by simp)
theorem ext_take (s : ByteArray) (k : Nat) : (s.extract 0 k).data.toList = s.data.toList.take k := by
  simp [ByteArray.data_extract, Array.toList_extract, List.extract_eq_take_drop]
theorem ext_from (s : ByteArray) (k : Nat) : s.extract k s.size = ⟨(s.data.toList.drop k).toArray⟩ := by
  apply ByteArray.ext
  rw [← ext_drop]
theorem cut_iff (l : List UInt8) (n : Nat) (hn : n = crcN (l.drop 4)) : l.take 4 = le4 n ↔ l = laidL (l.drop 4) := by
  unfold laidL
  rw [← hn]
  constructor
  · intro h
    rw [← h]
    exact (List.take_append_drop 4 l).symm
  · intro h
    have e := congrArg (List.take 4) h
    rw [e, ← le4_len n]
    exact List.take_left

set_option maxHeartbeats 400000 in
theorem cut_any (s : ByteArray) (hs : s.size ≤ 140737488355328) (w : World) :
    Calls Tryz.prog 199 #[.string s] w fun e w' => e = cutRet (cutSpec s) ∧ Below w.heap.size w w' := by
  by_cases h : s.size < 4
  · have E : Hid (cutSpec s = (⟨#[]⟩, 5)) := by show _ = _; unfold cutSpec; rw [if_pos h]
    go_enter Tryz.func199, Tryz.ntmps199
    go_wp2_with fail
    go_ret2
    exact ⟨by rw [E.out]; rfl, Below.refl _ _⟩
  · have h4 : 4 ≤ s.size := by omega
    have H := Lib.hid (checkOf_any (s.extract 4 s.size) (by unfold maxLen; simp; omega))
    rw [ext_drop] at H
    obtain ⟨n, hn⟩ : ∃ n, n = crcN (s.data.toList.drop 4) := ⟨_, rfl⟩
    rw [← hn] at H
    have hiff := cut_iff s.data.toList n hn
    have ht : (s.extract 0 4).toList = s.data.toList.take 4 := by rw [ByteArray.toList_eq, ext_take]
    rw [← ht] at hiff
    have HC := Lib.hid (strClone (s.extract 4 s.size))
    unfold chkAgg at H
    by_cases hq : (s.extract 0 4).toList = le4 n
    · have E : Hid (cutSpec s = (s.extract 4 s.size, 0)) := by show _ = _; unfold cutSpec; rw [if_neg h, if_pos (hiff.1 hq), ext_from]
      have hd : ((s.extract 0 4).toList == le4 n) = true := by rw [hq]; simp
      clear h hn hiff ht hq
      go_enter Tryz.func199, Tryz.ntmps199
      go_wp2_with fail
      refine (H.out _).mono ?_
      rintro e w1 ⟨rfl, hb1⟩
      have hcv := chk_string w1 n
      unfold chkCells at hcv
      go_wp2_with fail
      go_region
      go_wp2_with fail
      refine (HC.out _ (by simp; omega)).mono ?_
      rintro e w2 ⟨rfl, hb2⟩
      go_wp2_with fail
      go_ret2
      exact ⟨by rw [E.out]; rfl, bthen (bthen hb1 (balloc w1 _).drew) hb2⟩
    · have E : Hid (cutSpec s = (⟨#[]⟩, 14)) := by show _ = _; unfold cutSpec; rw [if_neg h, if_neg (fun e => hq (hiff.2 e))]
      have hd : ((s.extract 0 4).toList == le4 n) = false := by simpa using hq
      clear h hn hiff ht hq
      go_enter Tryz.func199, Tryz.ntmps199
      go_wp2_with fail
      refine (H.out _).mono ?_
      rintro e w1 ⟨rfl, hb1⟩
      have hcv := chk_string w1 n
      unfold chkCells at hcv
      go_wp2_with fail
      go_region
      go_wp2_with fail
      go_ret2
      exact ⟨by rw [E.out]; rfl, bthen hb1 (balloc w1 _).drew⟩

end Go.Proofs.YtmflkkkbahghgaaGreat
namespace Go.Proofs.YtmflkkkbahghgaaGreat
open Go.RowKit Go.Deep
set_option linter.unusedVariables false
set_option linter.unusedSimpArgs false
set_option maxRecDepth 100000

def tellB (b : ByteArray) : Pg := ⟨unflip63 (rdI b 0 8), unflip63 (rdI b 8 8), rdI ((⟨#[0, 0, 0, 0]⟩ : ByteArray) ++ b.extract 16 20) 0 8, b.extract 20 b.size⟩
theorem rdI_cut (s : ByteArray) (a : Nat) : ∀ k, 4 + (a + k) ≤ s.size → rdI (s.extract 4 s.size) a k = rdI s (4 + a) k
  | 0, _ => rfl
  | k + 1, h => by
    simp only [rdI]
    rw [rdI_cut s a k (by omega), byteI_byD, byteI_byD, byD_cut _ _ _ _ (by omega), Nat.add_assoc]
theorem tellB_cut (s : ByteArray) (h : s.size = 256) : tellB (s.extract 4 s.size) = tellP s := by
  have hs : (s.extract 4 s.size).size = 252 := by rw [ByteArray.size_extract]; omega
  unfold tellB tellP
  rw [rdI_cut s 0 8 (by omega), rdI_cut s 8 8 (by omega)]
  have e2 : (s.extract 4 s.size).extract 20 (s.extract 4 s.size).size = s.extract 24 s.size := by
    apply byD_ext
    · rw [ByteArray.size_extract, hs, ByteArray.size_extract]; omega
    · intro j hj
      rw [ByteArray.size_extract, hs] at hj
      rw [byD_cut _ _ _ _ (by omega), byD_cut _ _ _ _ (by omega), byD_cut _ _ _ _ (by omega)]
      congr 1; omega
  rw [e2]
  have hz : (⟨#[0, 0, 0, 0]⟩ : ByteArray).size = 4 := rfl
  have q : ∀ j, j < 4 → byD ((⟨#[0, 0, 0, 0]⟩ : ByteArray) ++ (s.extract 4 s.size).extract 16 20) (4 + j) = byD s (20 + j) := fun j hj => by
    rw [byD_app, hz, if_neg (by omega), byD_cut _ _ _ _ (by omega), byD_cut _ _ _ _ (by omega)]
    congr 1; omega
  have z : ∀ j, j < 4 → byD ((⟨#[0, 0, 0, 0]⟩ : ByteArray) ++ (s.extract 4 s.size).extract 16 20) j = 0 := fun j hj => by
    rw [byD_app, hz, if_pos hj]
    rcases (by omega : j = 0 ∨ j = 1 ∨ j = 2 ∨ j = 3) with rfl | rfl | rfl | rfl <;> rfl
  have e3 : rdI ((⟨#[0, 0, 0, 0]⟩ : ByteArray) ++ (s.extract 4 s.size).extract 16 20) 0 8 = byD s 20 * 16777216 + byD s 21 * 65536 + byD s 22 * 256 + byD s 23 := by
    simp only [rdI, byteI_byD, Nat.zero_add]
    have q0 := q 0 (by omega)
    have q1 := q 1 (by omega)
    have q2 := q 2 (by omega)
    have q3 := q 3 (by omega)
    simp only [Nat.add_zero, Nat.reduceAdd] at q0 q1 q2 q3
    rw [z 0 (by omega), z 1 (by omega), z 2 (by omega), z 3 (by omega), q0, q1, q2, q3]
    omega
  rw [e3]
theorem kind_bd (b : ByteArray) : 0 ≤ rdI ((⟨#[0, 0, 0, 0]⟩ : ByteArray) ++ b.extract 16 20) 0 8 ∧ rdI ((⟨#[0, 0, 0, 0]⟩ : ByteArray) ++ b.extract 16 20) 0 8 ≤ 4294967295 := by
  have z : ∀ j, j < 4 → byD ((⟨#[0, 0, 0, 0]⟩ : ByteArray) ++ b.extract 16 20) j = 0 := fun j hj => by
    rw [byD_app, show (⟨#[0, 0, 0, 0]⟩ : ByteArray).size = 4 from rfl, if_pos hj]
    rcases (by omega : j = 0 ∨ j = 1 ∨ j = 2 ∨ j = 3) with rfl | rfl | rfl | rfl <;> rfl
  simp only [rdI, byteI_byD, Nat.zero_add]
  rw [z 0 (by omega), z 1 (by omega), z 2 (by omega), z 3 (by omega)]
  have b4 := byD_bd ((⟨#[0, 0, 0, 0]⟩ : ByteArray) ++ b.extract 16 20) 4
  have b5 := byD_bd ((⟨#[0, 0, 0, 0]⟩ : ByteArray) ++ b.extract 16 20) 5
  have b6 := byD_bd ((⟨#[0, 0, 0, 0]⟩ : ByteArray) ++ b.extract 16 20) 6
  have b7 := byD_bd ((⟨#[0, 0, 0, 0]⟩ : ByteArray) ++ b.extract 16 20) 7
  omega

set_option maxHeartbeats 1600000 in
theorem pparts_any (b : ByteArray) (hb : b.size = 252) (u : World) : Calls Tryz.prog 200 #[.string b] u fun e w' => e = .returned (.agg (pgV (tellB b)).toArray) ∧ Below u.heap.size u w' := by
  obtain ⟨kx, hkx⟩ : ∃ k, k = (⟨#[0, 0, 0, 0]⟩ : ByteArray) ++ b.extract 16 20 := ⟨_, rfl⟩
  have hks : kx.size = 8 := by
    rw [hkx, ByteArray.size_append, ByteArray.size_extract, show (⟨#[0, 0, 0, 0]⟩ : ByteArray).size = 4 from rfl]; omega
  have H1 : Hid (∀ w, Calls Tryz.prog 207 #[.string b, .int .i64 0] w fun e w' => e = .returned (.tuple #[.int .i64 (unflip63 (rdI b 0 8)), .int .i64 8, .int .i64 0]) ∧ w = w') := fun w => by
    have := readI_any b 0 (by unfold maxLen; omega) (by omega) w
    rw [show rdSpec b 0 8 = (rdI b 0 8, 8, 0) from by unfold rdSpec; rw [if_neg (by omega), if_neg (by omega)]; rfl] at this
    exact this
  have H2 : Hid (∀ w, Calls Tryz.prog 207 #[.string b, .int .i64 8] w fun e w' => e = .returned (.tuple #[.int .i64 (unflip63 (rdI b 8 8)), .int .i64 16, .int .i64 0]) ∧ w = w') := fun w => by
    have := readI_any b 8 (by unfold maxLen; omega) (by omega) w
    rw [show rdSpec b 8 8 = (rdI b 8 8, 16, 0) from by unfold rdSpec; rw [if_neg (by omega), if_neg (by omega)]; rfl] at this
    exact this
  have H3 : Hid (∀ w, Calls Tryz.prog 208 #[.string kx, .int .i64 0] w fun e w' => e = .returned (.tuple #[.int .u64 (rdI kx 0 8), .int .i64 8, .int .i64 0]) ∧ w = w') := fun w => by
    have := readU_any kx 0 (by unfold maxLen; omega) (by omega) w
    rw [show rdSpec kx 0 8 = (rdI kx 0 8, 8, 0) from by unfold rdSpec; rw [if_neg (by omega), if_neg (by omega)]; rfl] at this
    exact this
  have hkb := kind_bd b
  rw [← hkx] at hkb
  have E : Hid (pgV (tellB b) = [.int .i64 (unflip63 (rdI b 0 8)), .int .i64 (unflip63 (rdI b 8 8)), .int .i64 (rdI kx 0 8), .string (b.extract 20 b.size)]) := by unfold tellB; rw [← hkx]; exact Lib.hid rfl
  have hb1 : 20 ≤ b.size := by omega
  have hb2 : (20 : Int) ≤ (b.size : Int) := by omega
  have hb3 : b.size ≤ 1000 := by omega
  have hns : ¬ 9223372036854775807 < (ByteArray.mk #[0, 0, 0, 0]).size + (b.extract 16 20).size := by
    have : (b.extract 16 20).size ≤ 4 := by rw [ByteArray.size_extract]; omega
    have : (ByteArray.mk #[0, 0, 0, 0]).size = 4 := rfl
    omega
  have HKX := Lib.hid hkx.symm
  generalize unflip63 (rdI b 0 8) = n1 at *
  generalize unflip63 (rdI b 8 8) = n2 at *
  generalize rdI kx 0 8 = n3 at *
  clear hkx hks hb
  have X1 := Lib.hid (heap_alloc_new u (.cells #[.int .i64 0, .int .i64 0, .int .i64 0, .string ⟨#[]⟩] 181))
  have B1 := Lib.hid (balloc u (.cells #[.int .i64 0, .int .i64 0, .int .i64 0, .string ⟨#[]⟩] 181))
  obtain ⟨C, hC⟩ : ∃ C, C = u.heap.size := ⟨_, rfl⟩
  have HC : Hid (u.heap.size ≤ C) := Lib.hid (by omega)
  rw [← hC] at X1
  go_enter Tryz.func200, Tryz.ntmps200
  go_upto_region 1 with fail
  rw [← hC]
  generalize u.alloc (.cells #[.int .i64 0, .int .i64 0, .int .i64 0, .string ⟨#[]⟩] 181) = w1 at *
  clear hC
  obtain ⟨x0, x1, x2, x3⟩ := four_cells X1.out
  have xf : ∀ q, w1.frozen? ⟨C, q, none⟩ = false := fun q => Lib.frozen_of_heap X1.out q
  go_wp2_with fail
  refine (H1.out _).mono ?_
  rintro e w2 ⟨rfl, rfl⟩
  go_wp2_with fail
  refine (H2.out _).mono ?_
  rintro e w2 ⟨rfl, rfl⟩
  go_wp2_with fail
  try rw [HKX.out]
  refine (H3.out _).mono ?_
  rintro e w2 ⟨rfl, rfl⟩
  go_wp2_with fail
  change bodyPost _ _ _ _ _ (World.setCells w1 C 0 [.int .i64 n1, .int .i64 n2, .int .i64 n3, .string (b.extract 20 b.size)])
  obtain ⟨t0, t1, t2, t3⟩ := four_cells (put_four X1.out (.int .i64 n1) (.int .i64 n2) (.int .i64 n3) (.string (b.extract 20 b.size)))
  have LZ := Lib.hid (B1.out.trans (put_below HC.out [.int .i64 n1, .int .i64 n2, .int .i64 n3, .string (b.extract 20 b.size)] 0 w1))
  generalize World.setCells w1 C 0 [.int .i64 n1, .int .i64 n2, .int .i64 n3, .string (b.extract 20 b.size)] = w9 at *
  exact bodyPost_ret (v := .agg #[.int .i64 n1, .int .i64 n2, .int .i64 n3, .string (b.extract 20 b.size)]) (by simp [results, Tryz.results200, go_sem, t0, t1, t2, t3]) rfl ⟨by rw [E.out], LZ.out⟩

theorem cut_page (s : ByteArray) (h : s.size = 256) : cutSpec s = if layP (s.extract 4 s.size) = s then (s.extract 4 s.size, 0) else (⟨#[]⟩, 14) := by
  unfold cutSpec
  rw [if_neg (by omega)]
  have e : (layP (s.extract 4 s.size) = s) ↔ s.data.toList = laidL (s.data.toList.drop 4) := by
    unfold layP
    rw [ext_drop]
    constructor
    · intro h2
      have := congrArg (fun x : ByteArray => x.data.toList) h2
      exact this.symm
    · intro h2
      apply ByteArray.ext
      apply Array.ext'
      exact h2.symm
  by_cases c : layP (s.extract 4 s.size) = s
  · rw [if_pos (e.1 c), if_pos c, ext_from]
  · rw [if_neg fun h2 => c (e.2 h2), if_neg c]
set_option maxHeartbeats 3200000 in
theorem pget_any (s : ByteArray) (hs : s.size ≤ 140737488355328) (u : World) : Calls Tryz.prog 183 #[.string s] u fun e w' => e = getRet s ∧ Below u.heap.size u w' := by
  have hs1 : (s.size : Int) ≤ 9223372036854775807 := by omega
  have X1 := Lib.hid (heap_alloc_new u (.cells #[.int .i64 0, .int .i64 0, .int .i64 0, .string ⟨#[]⟩] 181))
  have B1 := Lib.hid (balloc u (.cells #[.int .i64 0, .int .i64 0, .int .i64 0, .string ⟨#[]⟩] 181))
  obtain ⟨C, hC⟩ : ∃ C, C = u.heap.size := ⟨_, rfl⟩
  have HC : Hid (u.heap.size ≤ C) := Lib.hid (by omega)
  rw [← hC] at X1
  by_cases h : s.size = 256
  · have HX := Lib.hid (fun w => cut_any s hs w)
    rw [cut_page s h] at HX
    have d1 : ((s.size : Int) != 256) = false := by rw [h]; rfl
    by_cases hl : layP (s.extract 4 s.size) = s
    · rw [if_pos hl] at HX
      unfold cutRet at HX
      have HP := Lib.hid (fun w => pparts_any (s.extract 4 s.size) (by rw [ByteArray.size_extract]; omega) w)
      rw [tellB_cut s h] at HP
      have HM := Lib.hid (fun w => pmay_any (tellP s) w)
      have EG : Hid (getE s = if RightP (tellP s) then 0 else 14) := Lib.hid (by unfold getE; rw [if_pos h, if_pos hl])
      have EB := Lib.hid (fun hr : RightP (tellP s) => getRet_ok (s := s) (by rw [EG.out, if_pos hr]))
      have EC := Lib.hid (fun hr : ¬ RightP (tellP s) => getRet_bad (s := s) (e := 14) (by rw [EG.out, if_neg hr]) (by decide))
      clear EG
      generalize s.extract 4 s.size = b at *
      rcases hp : tellP s with ⟨n1, n2, n3, pb⟩
      rw [hp] at HP HM EB EC
      have HRB := Lib.hid (fun h2 => rightB_true (p := ⟨n1, n2, n3, pb⟩) h2)
      have HRF := Lib.hid (fun h2 => rightB_false (p := ⟨n1, n2, n3, pb⟩) h2)
      unfold pgV at HP HM EB
      dsimp only at HP HM EB
      generalize rightB ⟨n1, n2, n3, pb⟩ = rb at *
      clear hp hl h
      go_enter Tryz.func183, Tryz.ntmps183
      go_upto_region 1 with fail
      rw [← hC]
      generalize u.alloc (.cells #[.int .i64 0, .int .i64 0, .int .i64 0, .string ⟨#[]⟩] 181) = w1 at *
      clear hC
      go_wp2_with fail
      refine (HX.out _).mono ?_
      rintro e w2 ⟨rfl, hb⟩
      have X2 := Lib.hid (heap_stays X1.out hb)
      have B2 := Lib.hid (bthen B1.out hb)
      clear hb
      go_wp2_with fail
      refine (HP.out _).mono ?_
      rintro e w3 ⟨rfl, hb⟩
      have X3 := Lib.hid (heap_stays X2.out hb)
      have B3 := Lib.hid (bthen B2.out hb)
      clear hb
      have Y4 := Lib.hid (heap_alloc_new w3 (.cells #[.int .i64 n1, .int .i64 n2, .int .i64 n3, .string pb] 181))
      have X4 := Lib.hid (heap_stays X3.out (balloc w3 (.cells #[.int .i64 n1, .int .i64 n2, .int .i64 n3, .string pb] 181)))
      have B4 := Lib.hid (bthen B3.out (balloc w3 (.cells #[.int .i64 n1, .int .i64 n2, .int .i64 n3, .string pb] 181)))
      obtain ⟨D, hD⟩ : ∃ D, D = w3.heap.size := ⟨_, rfl⟩
      rw [← hD] at Y4
      go_upto_region 7 with fail
      rw [← hD]
      generalize w3.alloc (.cells #[.int .i64 n1, .int .i64 n2, .int .i64 n3, .string pb] 181) = w4 at *
      clear hD
      obtain ⟨y0, y1, y2, y3⟩ := four_cells Y4.out
      go_wp2_with fail
      refine (HM.out _).mono ?_
      rintro e w5 ⟨rfl, hb⟩
      have X5 := Lib.hid (heap_stays X4.out hb)
      have Y5 := Lib.hid (heap_stays Y4.out hb)
      have B5 := Lib.hid (bthen B4.out hb)
      clear hb y0 y1 y2 y3
      obtain ⟨y0, y1, y2, y3⟩ := four_cells Y5.out
      obtain ⟨x0, x1, x2, x3⟩ := four_cells X5.out
      have xf : ∀ q, w5.frozen? ⟨C, q, none⟩ = false := fun q => Lib.frozen_of_heap X5.out q
      cases rb with
      | true =>
        have E1 := Lib.hid (EB.out (HRB.out rfl))
        clear EB EC HRB HRF
        go_wp2_with fail
        change bodyPost _ _ _ _ _ (World.setCells w5 C 0 [.int .i64 n1, .int .i64 n2, .int .i64 n3, .string pb])
        obtain ⟨t0, t1, t2, t3⟩ := four_cells (put_four X5.out (.int .i64 n1) (.int .i64 n2) (.int .i64 n3) (.string pb))
        have LZ := Lib.hid (B5.out.trans (put_below HC.out [.int .i64 n1, .int .i64 n2, .int .i64 n3, .string pb] 0 w5))
        generalize World.setCells w5 C 0 [.int .i64 n1, .int .i64 n2, .int .i64 n3, .string pb] = w9 at *
        exact bodyPost_ret (v := .tuple #[.agg #[.int .i64 n1, .int .i64 n2, .int .i64 n3, .string pb], .int .i64 0]) (by simp [results, Tryz.results183, go_sem, t0, t1, t2, t3]) rfl ⟨by rw [E1.out], LZ.out⟩
      | false =>
        have E1 := Lib.hid (EC.out (HRF.out rfl))
        clear EB EC HRB HRF
        go_wp2_with fail
        change bodyPost _ _ _ _ _ (World.setCells w5 C 0 [.int .i64 0, .int .i64 0, .int .i64 0, .string ⟨#[]⟩])
        obtain ⟨t0, t1, t2, t3⟩ := four_cells (put_four X5.out (.int .i64 0) (.int .i64 0) (.int .i64 0) (.string ⟨#[]⟩))
        have LZ := Lib.hid (B5.out.trans (put_below HC.out [.int .i64 0, .int .i64 0, .int .i64 0, .string ⟨#[]⟩] 0 w5))
        generalize World.setCells w5 C 0 [.int .i64 0, .int .i64 0, .int .i64 0, .string ⟨#[]⟩] = w9 at *
        exact bodyPost_ret (v := .tuple #[.agg #[.int .i64 0, .int .i64 0, .int .i64 0, .string ⟨#[]⟩], .int .i64 14]) (by simp [results, Tryz.results183, go_sem, t0, t1, t2, t3]) rfl ⟨by rw [E1.out], LZ.out⟩
    · rw [if_neg hl] at HX
      unfold cutRet at HX
      have E1 := Lib.hid (getRet_bad (s := s) (e := 14) (by unfold getE; rw [if_pos h, if_neg hl]) (by decide))
      clear hl h
      go_enter Tryz.func183, Tryz.ntmps183
      go_upto_region 1 with fail
      rw [← hC]
      generalize u.alloc (.cells #[.int .i64 0, .int .i64 0, .int .i64 0, .string ⟨#[]⟩] 181) = w1 at *
      clear hC
      go_wp2_with fail
      refine (HX.out _).mono ?_
      rintro e w2 ⟨rfl, hb⟩
      have X5 := Lib.hid (heap_stays X1.out hb)
      have B5 := Lib.hid (bthen B1.out hb)
      clear hb
      obtain ⟨x0, x1, x2, x3⟩ := four_cells X5.out
      have xf : ∀ q, w2.frozen? ⟨C, q, none⟩ = false := fun q => Lib.frozen_of_heap X5.out q
      go_wp2_with fail
      change bodyPost _ _ _ _ _ (World.setCells w2 C 0 [.int .i64 0, .int .i64 0, .int .i64 0, .string ⟨#[]⟩])
      obtain ⟨t0, t1, t2, t3⟩ := four_cells (put_four X5.out (.int .i64 0) (.int .i64 0) (.int .i64 0) (.string ⟨#[]⟩))
      have LZ := Lib.hid (B5.out.trans (put_below HC.out [.int .i64 0, .int .i64 0, .int .i64 0, .string ⟨#[]⟩] 0 w2))
      generalize World.setCells w2 C 0 [.int .i64 0, .int .i64 0, .int .i64 0, .string ⟨#[]⟩] = w9 at *
      exact bodyPost_ret (v := .tuple #[.agg #[.int .i64 0, .int .i64 0, .int .i64 0, .string ⟨#[]⟩], .int .i64 14]) (by simp [results, Tryz.results183, go_sem, t0, t1, t2, t3]) rfl ⟨by rw [E1.out], LZ.out⟩
  · have E1 := Lib.hid (getRet_bad (s := s) (e := 6) (by unfold getE; rw [if_neg h]) (by decide))
    have d1 : ((s.size : Int) != 256) = true := by simp; omega
    clear h
    go_enter Tryz.func183, Tryz.ntmps183
    go_upto_region 1 with fail
    rw [← hC]
    generalize u.alloc (.cells #[.int .i64 0, .int .i64 0, .int .i64 0, .string ⟨#[]⟩] 181) = w1 at *
    clear hC
    obtain ⟨x0, x1, x2, x3⟩ := four_cells X1.out
    have xf : ∀ q, w1.frozen? ⟨C, q, none⟩ = false := fun q => Lib.frozen_of_heap X1.out q
    go_wp2_with fail
    change bodyPost _ _ _ _ _ (World.setCells w1 C 0 [.int .i64 0, .int .i64 0, .int .i64 0, .string ⟨#[]⟩])
    obtain ⟨t0, t1, t2, t3⟩ := four_cells (put_four X1.out (.int .i64 0) (.int .i64 0) (.int .i64 0) (.string ⟨#[]⟩))
    have LZ := Lib.hid (B1.out.trans (put_below HC.out [.int .i64 0, .int .i64 0, .int .i64 0, .string ⟨#[]⟩] 0 w1))
    generalize World.setCells w1 C 0 [.int .i64 0, .int .i64 0, .int .i64 0, .string ⟨#[]⟩] = w9 at *
    exact bodyPost_ret (v := .tuple #[.agg #[.int .i64 0, .int .i64 0, .int .i64 0, .string ⟨#[]⟩], .int .i64 6]) (by simp [results, Tryz.results183, go_sem, t0, t1, t2, t3]) rfl ⟨by rw [E1.out], LZ.out⟩

end Go.Proofs.YtmflkkkbahghgaaGreat
