/- The contracts of pack.read, ReadU, ReadI and of the document's own ReadU, ReadI. The contracts of the document's own ReadU and ReadI: the same as pack's. The contract of the document's Get. What is written to a page is read again, and changes no other one. Plain mathematics. The contract of strings.Clone at this program. The contracts of strings.Clone and of strings.Builder (a builder in a block of the call's own) at this program. The contracts of strings.Builder's grow and Grow at a builder that nothing was written to, at this program. -/
import Derived.WalkKit
import Derived.WalkSpells
import Derived.WalkLawsBesides
import Derived.Lib.Hide
import Derived.Shelf.LaysM
import Derived.Shelf.Strconv.Clone
import Derived.Shelf.Strings.Builder1
import Derived.Test.YtdmlmjmdpmmcgaaYZ9
import Derived.Test.YtdmlmjmdpmmcgaaYZ7
import Derived.Test.YtdmlmjmdpmmcgaaYZ10
import Derived.Test.YtdmlmjmdpmmcgaaYZ8
import Derived.Test.YtdmlmjmdpmmcgaaRows
namespace Go.Proofs.Ytdmlmjmdpmmcgaa
open Go.RowKit
set_option maxRecDepth 100000

set_option maxHeartbeats 400000 in
theorem read_ok (s : ByteArray) (a k : Nat) (hk : k ≤ 8) (hs : s.size ≤ maxLen) (ha : a + k ≤ s.size) (w : World) :
    Calls Try.prog 74 #[.string s, .int .i64 a, .int .i64 k] w fun e w' => e = .returned (.tuple #[.int .u64 (rdI s a k), .int .i64 ((a + k : Nat) : Int), .int .i64 0]) ∧ w = w' := by
  unfold maxLen at hs
  have h1 : ¬ ((a : Int) < 0) := by omega
  have h2 : ¬ ((s.size : Int) < (a : Int)) := by omega
  go_enter Try.func74, Try.ntmps74
  go_wp2_with fail
  go_loop [9, 26] (fun b i => ∃ j : Nat, j ≤ k ∧ i = .int .i64 j ∧ b = .int .u64 (rdI s a j)) (fun _ i => k - (intOf i).toNat)
  case atStart => exact ⟨0, by omega, rfl, rfl⟩
  case round =>
    obtain ⟨j, hj, rfl, rfl⟩ := hrel
    have hb := rdI_bd s a j
    have hc := byteI_bd s (a + j)
    by_cases hlt : j < k
    · go_wp2_with fail
      go_round
      case rel =>
        exact ⟨j + 1, by omega, by go_num, by rw [byteI_at s (a + j) (by omega), shl8_or _ _ hb.1 (rdI_56 s a j (by omega)) hc.1 hc.2]; rfl⟩
      case measure => simp [intOf]; omega
    · obtain rfl : j = k := by omega
      go_wp2_with fail
      go_ret3
      exact ⟨rfl, rfl⟩

set_option maxHeartbeats 400000 in
theorem read_any (s : ByteArray) (a : Int) (k : Nat) (hk : k ≤ 8) (hs : s.size ≤ maxLen) (hw : -9223372036854775808 ≤ a ∧ a ≤ 9223372036854775807) (w : World) :
    Calls Try.prog 74 #[.string s, .int .i64 a, .int .i64 k] w fun e w' => e = rdRet (rdSpec s a k) ∧ w = w' := by
  obtain ⟨hw1, hw2⟩ := hw
  by_cases h1 : a < 0
  · have E : Hid (rdSpec s a k = (0, 0, 3)) := by unfold rdSpec; rw [if_pos (.inl h1)]; exact rfl
    unfold maxLen at hs
    go_enter Try.func74, Try.ntmps74
    go_wp2_with fail
    go_ret3
    exact ⟨by rw [E.out]; rfl, rfl⟩
  by_cases h2 : (s.size : Int) < a
  · have E : Hid (rdSpec s a k = (0, 0, 3)) := by unfold rdSpec; rw [if_pos (.inr h2)]; exact rfl
    unfold maxLen at hs
    go_enter Try.func74, Try.ntmps74
    go_wp2_with fail
    go_ret3
    exact ⟨by rw [E.out]; rfl, rfl⟩
  by_cases h3 : (s.size : Int) - a < (k : Int)
  · have E : Hid (rdSpec s a k = (0, 0, 5)) := by unfold rdSpec; rw [if_neg (by omega), if_pos h3]; exact rfl
    unfold maxLen at hs
    go_enter Try.func74, Try.ntmps74
    go_wp2_with fail
    go_ret3
    exact ⟨by rw [E.out]; rfl, rfl⟩
  obtain ⟨b, rfl⟩ := Int.eq_ofNat_of_zero_le (show 0 ≤ a by omega)
  have E : rdSpec s b k = (rdI s b k, (b : Int) + (k : Int), 0) := by unfold rdSpec; rw [if_neg (by omega), if_neg h3, Int.toNat_natCast]
  rw [E]
  exact read_ok s b k hk hs (by omega) w

theorem read_8 (s : ByteArray) (a : Int) (hs : s.size ≤ maxLen) (hw : -9223372036854775808 ≤ a ∧ a ≤ 9223372036854775807) (w : World) :
    Calls Try.prog 74 #[.string s, .int .i64 a, .int .i64 8] w fun e w' => e = rdRet (rdSpec s a 8) ∧ w = w' := read_any s a 8 (by omega) hs hw w
theorem read_2 (s : ByteArray) (a : Int) (hs : s.size ≤ maxLen) (hw : -9223372036854775808 ≤ a ∧ a ≤ 9223372036854775807) (w : World) :
    Calls Try.prog 74 #[.string s, .int .i64 a, .int .i64 2] w fun e w' => e = rdRet (rdSpec s a 2) ∧ w = w' := read_any s a 2 (by omega) hs hw w

theorem readU_any (s : ByteArray) (a : Int) (hs : s.size ≤ maxLen) (hw : -9223372036854775808 ≤ a ∧ a ≤ 9223372036854775807) (w : World) :
    Calls Try.prog 64 #[.string s, .int .i64 a] w fun e w' => e = rdRet (rdSpec s a 8) ∧ w = w' := by
  have H := Lib.hid (read_8 s a hs hw)
  generalize rdSpec s a 8 = x at H ⊢
  obtain ⟨x0, x1, x2⟩ := x
  unfold rdRet at H ⊢
  clear hs hw
  go_enter Try.func64, Try.ntmps64
  go_wp2_with (go_at_call 74; refine (H.out _).mono ?_; rintro e w' ⟨rfl, rfl⟩)
  go_ret3
  exact ⟨rfl, rfl⟩


theorem readI_any (s : ByteArray) (a : Int) (hs : s.size ≤ maxLen) (hw : -9223372036854775808 ≤ a ∧ a ≤ 9223372036854775807) (w : World) :
    Calls Try.prog 63 #[.string s, .int .i64 a] w fun e w' => e = rdIRet (rdISpec (rdSpec s a 8)) ∧ w = w' := by
  have H := Lib.hid (read_8 s a hs hw)
  generalize rdSpec s a 8 = x at H ⊢
  obtain ⟨x0, x1, x2⟩ := x
  unfold rdRet at H
  clear hs hw
  by_cases h0 : x2 = 0
  · subst h0
    have E : Hid (rdISpec (x0, x1, 0) = (unflip63 x0, x1, 0)) := by unfold rdISpec; simp [Hid]
    go_enter Try.func63, Try.ntmps63
    go_wp2_with (go_at_call 74; refine (H.out _).mono ?_; rintro e w' ⟨rfl, rfl⟩)
    go_ret3
    exact ⟨by rw [E.out]; rfl, rfl⟩
  · have E : Hid (rdISpec (x0, x1, x2) = (0, 0, x2)) := by unfold rdISpec; simp [Hid, h0]
    have hne : (x2 != 0) = true := by simp [h0]
    go_enter Try.func63, Try.ntmps63
    go_wp2_with (go_at_call 74; refine (H.out _).mono ?_; rintro e w' ⟨rfl, rfl⟩)
    go_ret3
    exact ⟨by rw [E.out]; rfl, rfl⟩

end Go.Proofs.Ytdmlmjmdpmmcgaa
namespace Go.Proofs.Ytdmlmjmdpmmcgaa
open Go.RowKit
set_option maxRecDepth 100000

set_option maxHeartbeats 400000 in
theorem refReadU_ok (s : ByteArray) (a : Nat) (hs : s.size ≤ maxLen) (ha : a + 8 ≤ s.size) (w : World) :
    Calls Try.prog 65 #[.string s, .int .i64 a] w fun e w' => e = .returned (.tuple #[.int .u64 (rdI s a 8), .int .i64 ((a : Int) + 8), .int .i64 0]) ∧ w = w' := by
  unfold maxLen at hs
  have h1 : ¬ ((a : Int) < 0) := by omega
  have h2 : ¬ ((s.size : Int) < (a : Int)) := by omega
  go_enter Try.func65, Try.ntmps65
  go_wp2_with fail
  go_loop [7, 8] (fun b i => ∃ j : Nat, j ≤ 8 ∧ i = .int .i64 j ∧ b = .int .u64 (rdI s a j)) (fun _ i => 8 - (intOf i).toNat)
  case atStart => exact ⟨0, by omega, rfl, rfl⟩
  case round =>
    obtain ⟨j, hj, rfl, rfl⟩ := hrel
    have hb := rdI_bd s a j
    have hb1 := hb.1
    have hc := byteI_bd s (a + j)
    by_cases hlt : j < 8
    · have hb2 := rdI_56 s a j hlt
      have hx := byteI_at s (a + j) (by omega)
      have h4 : ((s[a + j].toNat : Nat) : Int) ≤ 255 := by rw [hx]; exact hc.2
      have HX := Lib.hid hx
      clear hx hb
      go_wp2_with fail
      go_round
      case rel => exact ⟨j + 1, by omega, by go_num, by rw [HX.out]; rfl⟩
      case measure => simp [intOf]; omega
    · obtain rfl : j = 8 := by omega
      go_wp2_with fail
      go_ret3
      exact ⟨rfl, rfl⟩

set_option maxHeartbeats 400000 in
theorem refReadU_any (s : ByteArray) (a : Int) (hs : s.size ≤ maxLen) (hw : -9223372036854775808 ≤ a ∧ a ≤ 9223372036854775807) (w : World) :
    Calls Try.prog 65 #[.string s, .int .i64 a] w fun e w' => e = rdRet (rdSpec s a 8) ∧ w = w' := by
  obtain ⟨hw1, hw2⟩ := hw
  by_cases h1 : a < 0
  · have E : Hid (rdSpec s a 8 = (0, 0, 3)) := by unfold rdSpec; rw [if_pos (.inl h1)]; exact rfl
    unfold maxLen at hs
    go_enter Try.func65, Try.ntmps65
    go_wp2_with fail
    go_ret3
    exact ⟨by rw [E.out]; rfl, rfl⟩
  by_cases h2 : (s.size : Int) < a
  · have E : Hid (rdSpec s a 8 = (0, 0, 3)) := by unfold rdSpec; rw [if_pos (.inr h2)]; exact rfl
    unfold maxLen at hs
    go_enter Try.func65, Try.ntmps65
    go_wp2_with fail
    go_ret3
    exact ⟨by rw [E.out]; rfl, rfl⟩
  by_cases h3 : (s.size : Int) - a < 8
  · have E : Hid (rdSpec s a 8 = (0, 0, 5)) := by unfold rdSpec; rw [if_neg (by omega), if_pos (by exact h3)]; exact rfl
    unfold maxLen at hs
    go_enter Try.func65, Try.ntmps65
    go_wp2_with fail
    go_ret3
    exact ⟨by rw [E.out]; rfl, rfl⟩
  obtain ⟨b, rfl⟩ := Int.eq_ofNat_of_zero_le (show 0 ≤ a by omega)
  have E : rdSpec s b 8 = (rdI s b 8, (b : Int) + 8, 0) := by unfold rdSpec; rw [if_neg (by omega), if_neg (by exact h3), Int.toNat_natCast]; rfl
  rw [E]
  exact refReadU_ok s b hs (by omega) w

theorem refReadI_any (s : ByteArray) (a : Int) (hs : s.size ≤ maxLen) (hw : -9223372036854775808 ≤ a ∧ a ≤ 9223372036854775807) (w : World) :
    Calls Try.prog 40 #[.string s, .int .i64 a] w fun e w' => e = rdIRet (rdISpec (rdSpec s a 8)) ∧ w = w' := by
  have H := Lib.hid (refReadU_any s a hs hw)
  generalize rdSpec s a 8 = x at H ⊢
  obtain ⟨x0, x1, x2⟩ := x
  unfold rdRet at H
  clear hs hw
  by_cases h0 : x2 = 0
  · subst h0
    have E : Hid (rdISpec (x0, x1, 0) = (unflip63 x0, x1, 0)) := by unfold rdISpec; simp [Hid]
    go_enter Try.func40, Try.ntmps40
    go_wp2_with (go_at_call 65; refine (H.out _).mono ?_; rintro e w' ⟨rfl, rfl⟩)
    go_ret3
    exact ⟨by rw [E.out]; rfl, rfl⟩
  · have E : Hid (rdISpec (x0, x1, x2) = (0, 0, x2)) := by unfold rdISpec; simp [Hid, h0]
    have hne : (x2 != 0) = true := by simp [h0]
    go_enter Try.func40, Try.ntmps40
    go_wp2_with (go_at_call 65; refine (H.out _).mono ?_; rintro e w' ⟨rfl, rfl⟩)
    go_ret3
    exact ⟨by rw [E.out]; rfl, rfl⟩

end Go.Proofs.Ytdmlmjmdpmmcgaa
namespace Go.Proofs.Ytdmlmjmdpmmcgaa
open Go.RowKit Go.Deep
set_option linter.unusedVariables false
set_option linter.unusedSimpArgs false
set_option maxRecDepth 100000

set_option maxHeartbeats 3200000 in
theorem rget_any (s : ByteArray) (hs : s.size ≤ 140737488355328) (u : World) : Calls Try.prog 13 #[.string s] u fun e w' => e = getRet s ∧ Below u.heap.size u w' := by
  have hs1 : (s.size : Int) ≤ 9223372036854775807 := by omega
  have X1 := Lib.hid (heap_alloc_new u (.cells #[.int .i64 0, .int .i64 0, .int .i64 0, .string ⟨#[]⟩] 23))
  have B1 := Lib.hid (balloc u (.cells #[.int .i64 0, .int .i64 0, .int .i64 0, .string ⟨#[]⟩] 23))
  obtain ⟨C, hC⟩ : ∃ C, C = u.heap.size := ⟨_, rfl⟩
  have HC : Hid (u.heap.size ≤ C) := Lib.hid (by omega)
  rw [← hC] at X1
  by_cases h : s.size = 256
  · have HX : Hid (∀ w, Calls Try.prog 36 #[.string (s.extract 4 s.size)] w fun e w' => e = .returned (.string (layP (s.extract 4 s.size))) ∧ Below w.heap.size w w') := Lib.hid (fun w => refLay_any (s.extract 4 s.size) (by rw [ByteArray.size_extract]; omega) w)
    have d1 : ((s.size : Int) != 256) = false := by rw [h]; rfl
    have d4 : (4 : Int) ≤ (s.size : Int) := by omega
    by_cases hl : layP (s.extract 4 s.size) = s
    · have HP1 : Hid (∀ w, Calls Try.prog 40 #[.string s, .int .i64 4] w fun e w' => e = .returned (.tuple #[.int .i64 (unflip63 (rdI s 4 8)), .int .i64 12, .int .i64 0]) ∧ w = w') := fun w => by
        have := refReadI_any s 4 (by unfold maxLen; omega) (by omega) w
        rw [show rdSpec s 4 8 = (rdI s 4 8, 12, 0) from by unfold rdSpec; rw [if_neg (by omega), if_neg (by omega)]; rfl] at this
        exact this
      have HP2 : Hid (∀ w, Calls Try.prog 40 #[.string s, .int .i64 12] w fun e w' => e = .returned (.tuple #[.int .i64 (unflip63 (rdI s 12 8)), .int .i64 20, .int .i64 0]) ∧ w = w') := fun w => by
        have := refReadI_any s 12 (by unfold maxLen; omega) (by omega) w
        rw [show rdSpec s 12 8 = (rdI s 12 8, 20, 0) from by unfold rdSpec; rw [if_neg (by omega), if_neg (by omega)]; rfl] at this
        exact this
      have HM := Lib.hid (fun w => rright_any (tellP s) w)
      have EG : Hid (getE s = if RightP (tellP s) then 0 else 14) := Lib.hid (by unfold getE; rw [if_pos h, if_pos hl])
      have EB := Lib.hid (fun hr : RightP (tellP s) => getRet_ok (s := s) (by rw [EG.out, if_pos hr]))
      have EC := Lib.hid (fun hr : ¬ RightP (tellP s) => getRet_bad (s := s) (e := 14) (by rw [EG.out, if_neg hr]) (by decide))
      have HT : Hid (tellP s = ⟨unflip63 (rdI s 4 8), unflip63 (rdI s 12 8), byD s 20 * 16777216 + byD s 21 * 65536 + byD s 22 * 256 + byD s 23, s.extract 24 s.size⟩) := Lib.hid rfl
      have g0 := byD_bd s 20
      have g1 := byD_bd s 21
      have g2 := byD_bd s 22
      have g3 := byD_bd s 23
      have L0 : 20 < s.size := by omega
      have k0 := byteI_at s 20 L0
      have L1 : 21 < s.size := by omega
      have k1 := byteI_at s 21 L1
      have L2 : 22 < s.size := by omega
      have k2 := byteI_at s 22 L2
      have L3 : 23 < s.size := by omega
      have k3 := byteI_at s 23 L3
      rw [byteI_byD] at k0 k1 k2 k3
      have J0 : (20 : Int) < (s.size : Int) := by omega
      have J1 : (21 : Int) < (s.size : Int) := by omega
      have J2 : (22 : Int) < (s.size : Int) := by omega
      have J3 : (23 : Int) < (s.size : Int) := by omega
      have J4 : (24 : Int) ≤ (s.size : Int) := by omega
      have c1 : (layP (s.extract 4 s.size)).toList = s.toList := by rw [hl]
      have HL := Lib.hid hl
      clear EG
      obtain ⟨ls, hls⟩ : ∃ ls, ls = layP (s.extract 4 s.size) := ⟨_, rfl⟩
      rw [← hls] at HX c1
      have c2 : (ls.toList != s.toList) = false := by rw [c1]; simp
      have c3 : (ls.toList == s.toList) = true := by rw [c1]; simp
      rw [HT.out] at HM EB EC
      have HRB := Lib.hid (fun h2 => rightB_true (p := ⟨unflip63 (rdI s 4 8), unflip63 (rdI s 12 8), byD s 20 * 16777216 + byD s 21 * 65536 + byD s 22 * 256 + byD s 23, s.extract 24 s.size⟩) h2)
      have HRF := Lib.hid (fun h2 => rightB_false (p := ⟨unflip63 (rdI s 4 8), unflip63 (rdI s 12 8), byD s 20 * 16777216 + byD s 21 * 65536 + byD s 22 * 256 + byD s 23, s.extract 24 s.size⟩) h2)
      clear hls hl h HT
      generalize unflip63 (rdI s 4 8) = n1 at *
      generalize unflip63 (rdI s 12 8) = n2 at *
      generalize byD s 20 = m0 at *
      generalize byD s 21 = m1 at *
      generalize byD s 22 = m2 at *
      generalize byD s 23 = m3 at *
      unfold pgV at HM EB
      dsimp only at HM EB
      generalize rightB ⟨n1, n2, m0 * 16777216 + m1 * 65536 + m2 * 256 + m3, s.extract 24 s.size⟩ = rb at *
      go_enter Try.func13, Try.ntmps13
      go_upto_region 1 with fail
      rw [← hC]
      generalize u.alloc (.cells #[.int .i64 0, .int .i64 0, .int .i64 0, .string ⟨#[]⟩] 23) = w1 at *
      clear hC
      go_wp2_with fail
      refine (HX.out _).mono ?_
      rintro e w2 ⟨rfl, hb⟩
      have X2 := Lib.hid (heap_stays X1.out hb)
      have B2 := Lib.hid (bthen B1.out hb)
      clear hb
      go_wp2_with fail
      refine (HP1.out _).mono ?_
      rintro e w3 ⟨rfl, rfl⟩
      go_wp2_with fail
      refine (HP2.out _).mono ?_
      rintro e w3 ⟨rfl, rfl⟩
      go_upto_region 7 with fail
      go_region
      go_upto_region 8 with fail
      obtain ⟨w3, hw3⟩ : ∃ w3, w3 = w2.drew := ⟨_, rfl⟩
      have X3 : Hid (w3.heap[C]? = some (.cells #[.int .i64 0, .int .i64 0, .int .i64 0, .string ⟨#[]⟩] 23 (0, 0))) := Lib.hid (by rw [hw3]; exact heap_stays X2.out (bdrew w2))
      have B3 : Hid (Below u.heap.size u w3) := Lib.hid (by rw [hw3]; exact bthen B2.out (bdrew w2))
      rw [← hw3]
      clear hw3 X2 B2 X1 B1
      obtain ⟨n3, hn3⟩ : ∃ n3, n3 = m0 * 16777216 + m1 * 65536 + m2 * 256 + m3 := ⟨_, rfl⟩
      obtain ⟨pb, hpb⟩ : ∃ pb, pb = s.extract 24 s.size := ⟨_, rfl⟩
      rw [← hn3, ← hpb] at EB EC HRB HRF HM
      rw [← hn3]
      clear k0 k1 k2 k3 g0 g1 g2 g3 hn3
      have Y4 := Lib.hid (heap_alloc_new w3 (.cells #[.int .i64 n1, .int .i64 n2, .int .i64 n3, .string pb] 23))
      have X4 := Lib.hid (heap_stays X3.out (balloc w3 (.cells #[.int .i64 n1, .int .i64 n2, .int .i64 n3, .string pb] 23)))
      have B4 := Lib.hid (bthen B3.out (balloc w3 (.cells #[.int .i64 n1, .int .i64 n2, .int .i64 n3, .string pb] 23)))
      obtain ⟨D, hD⟩ : ∃ D, D = w3.heap.size := ⟨_, rfl⟩
      rw [← hD] at Y4
      have HPB := Lib.hid hpb
      clear hpb
      go_upto_region 9 with fail
      rw [← hD, ← HPB.out]
      generalize w3.alloc (.cells #[.int .i64 n1, .int .i64 n2, .int .i64 n3, .string pb] 23) = w4 at *
      clear hD
      obtain ⟨y0, y1, y2, y3⟩ := four_cells Y4.out
      go_wp2_with fail
      refine (HM.out _).mono ?_
      rintro e w5 ⟨rfl, hb⟩
      have X5 := Lib.hid (heap_stays X4.out hb)
      have Y5 := Lib.hid (heap_stays Y4.out hb)
      have B5 := Lib.hid (bthen B4.out hb)
      clear hb y0 y1 y2 y3
      obtain ⟨y0, y1, y2, y3⟩ := four_cells Y5.out
      obtain ⟨x0, x1, x2, x3⟩ := four_cells X5.out
      have xf : ∀ q, w5.frozen? ⟨C, q, none⟩ = false := fun q => Lib.frozen_of_heap X5.out q
      cases rb with
      | true =>
        have E1 := Lib.hid (EB.out (HRB.out rfl))
        clear EB EC HRB HRF
        go_wp2_with fail
        change bodyPost _ _ _ _ _ (World.setCells w5 C 0 [.int .i64 n1, .int .i64 n2, .int .i64 n3, .string pb])
        obtain ⟨t0, t1, t2, t3⟩ := four_cells (put_four X5.out (.int .i64 n1) (.int .i64 n2) (.int .i64 n3) (.string pb))
        have LZ := Lib.hid (B5.out.trans (put_below HC.out [.int .i64 n1, .int .i64 n2, .int .i64 n3, .string pb] 0 w5))
        generalize World.setCells w5 C 0 [.int .i64 n1, .int .i64 n2, .int .i64 n3, .string pb] = w9 at *
        exact bodyPost_ret (v := .tuple #[.agg #[.int .i64 n1, .int .i64 n2, .int .i64 n3, .string pb], .int .i64 0]) (by simp [results, Try.results13, go_sem, t0, t1, t2, t3]) rfl ⟨by rw [E1.out], LZ.out⟩
      | false =>
        have E1 := Lib.hid (EC.out (HRF.out rfl))
        clear EB EC HRB HRF
        go_wp2_with fail
        change bodyPost _ _ _ _ _ (World.setCells w5 C 0 [.int .i64 0, .int .i64 0, .int .i64 0, .string ⟨#[]⟩])
        obtain ⟨t0, t1, t2, t3⟩ := four_cells (put_four X5.out (.int .i64 0) (.int .i64 0) (.int .i64 0) (.string ⟨#[]⟩))
        have LZ := Lib.hid (B5.out.trans (put_below HC.out [.int .i64 0, .int .i64 0, .int .i64 0, .string ⟨#[]⟩] 0 w5))
        generalize World.setCells w5 C 0 [.int .i64 0, .int .i64 0, .int .i64 0, .string ⟨#[]⟩] = w9 at *
        exact bodyPost_ret (v := .tuple #[.agg #[.int .i64 0, .int .i64 0, .int .i64 0, .string ⟨#[]⟩], .int .i64 14]) (by simp [results, Try.results13, go_sem, t0, t1, t2, t3]) rfl ⟨by rw [E1.out], LZ.out⟩
    · have E1 := Lib.hid (getRet_bad (s := s) (e := 14) (by unfold getE; rw [if_pos h, if_neg hl]) (by decide))
      obtain ⟨ls, hls⟩ : ∃ ls, ls = layP (s.extract 4 s.size) := ⟨_, rfl⟩
      rw [← hls] at HX hl
      have c1 : ¬ ls.toList = s.toList := fun h2 => hl (by
        rw [ByteArray.toList_eq, ByteArray.toList_eq] at h2
        exact ByteArray.ext (Array.ext' h2))
      have c2 : (ls.toList != s.toList) = true := by simp [c1]
      have c3 : (ls.toList == s.toList) = false := by simp [c1]
      clear hl h hls
      go_enter Try.func13, Try.ntmps13
      go_upto_region 1 with fail
      rw [← hC]
      generalize u.alloc (.cells #[.int .i64 0, .int .i64 0, .int .i64 0, .string ⟨#[]⟩] 23) = w1 at *
      clear hC
      go_wp2_with fail
      refine (HX.out _).mono ?_
      rintro e w2 ⟨rfl, hb⟩
      have X5 := Lib.hid (heap_stays X1.out hb)
      have B5 := Lib.hid (bthen B1.out hb)
      clear hb
      obtain ⟨x0, x1, x2, x3⟩ := four_cells X5.out
      have xf : ∀ q, w2.frozen? ⟨C, q, none⟩ = false := fun q => Lib.frozen_of_heap X5.out q
      go_wp2_with fail
      change bodyPost _ _ _ _ _ (World.setCells w2 C 0 [.int .i64 0, .int .i64 0, .int .i64 0, .string ⟨#[]⟩])
      obtain ⟨t0, t1, t2, t3⟩ := four_cells (put_four X5.out (.int .i64 0) (.int .i64 0) (.int .i64 0) (.string ⟨#[]⟩))
      have LZ := Lib.hid (B5.out.trans (put_below HC.out [.int .i64 0, .int .i64 0, .int .i64 0, .string ⟨#[]⟩] 0 w2))
      generalize World.setCells w2 C 0 [.int .i64 0, .int .i64 0, .int .i64 0, .string ⟨#[]⟩] = w9 at *
      exact bodyPost_ret (v := .tuple #[.agg #[.int .i64 0, .int .i64 0, .int .i64 0, .string ⟨#[]⟩], .int .i64 14]) (by simp [results, Try.results13, go_sem, t0, t1, t2, t3]) rfl ⟨by rw [E1.out], LZ.out⟩
  · have E1 := Lib.hid (getRet_bad (s := s) (e := 6) (by unfold getE; rw [if_neg h]) (by decide))
    have d1 : ((s.size : Int) != 256) = true := by simp; omega
    clear h
    go_enter Try.func13, Try.ntmps13
    go_upto_region 1 with fail
    rw [← hC]
    generalize u.alloc (.cells #[.int .i64 0, .int .i64 0, .int .i64 0, .string ⟨#[]⟩] 23) = w1 at *
    clear hC
    obtain ⟨x0, x1, x2, x3⟩ := four_cells X1.out
    have xf : ∀ q, w1.frozen? ⟨C, q, none⟩ = false := fun q => Lib.frozen_of_heap X1.out q
    go_wp2_with fail
    change bodyPost _ _ _ _ _ (World.setCells w1 C 0 [.int .i64 0, .int .i64 0, .int .i64 0, .string ⟨#[]⟩])
    obtain ⟨t0, t1, t2, t3⟩ := four_cells (put_four X1.out (.int .i64 0) (.int .i64 0) (.int .i64 0) (.string ⟨#[]⟩))
    have LZ := Lib.hid (B1.out.trans (put_below HC.out [.int .i64 0, .int .i64 0, .int .i64 0, .string ⟨#[]⟩] 0 w1))
    generalize World.setCells w1 C 0 [.int .i64 0, .int .i64 0, .int .i64 0, .string ⟨#[]⟩] = w9 at *
    exact bodyPost_ret (v := .tuple #[.agg #[.int .i64 0, .int .i64 0, .int .i64 0, .string ⟨#[]⟩], .int .i64 6]) (by simp [results, Try.results13, go_sem, t0, t1, t2, t3]) rfl ⟨by rw [E1.out], LZ.out⟩

end Go.Proofs.Ytdmlmjmdpmmcgaa
namespace Go.Proofs.Ytdmlmjmdpmmcgaa
open Go.RowKit
set_option linter.unusedVariables false
set_option linter.unusedSimpArgs false
set_option maxRecDepth 100000

theorem write_free {d : Dk} (hd : d.down = false) (ha : d.arm = 0) {i : Int} (h0 : 0 ≤ i) (h1 : i < (d.n : Int)) (s : ByteArray) :
    writeE d i = 0 ∧ (writeD d i s).down = false ∧ (writeD d i s).arm = 0 ∧ ∀ k : Nat, nowD (writeD d i s) k = if (k : Int) = i then byD s else nowD d k := by
  have hi : ¬ (i < 0 ∨ (d.n : Int) ≤ i) := by omega
  have e : writeD d i s = countD { d with nw := upd d.nw i.toNat (byD s), is := upd d.is i.toNat true } := by
    unfold writeD
    rw [if_neg (by rw [hd]; decide), if_neg hi]
  have ec : countD { d with nw := upd d.nw i.toNat (byD s), is := upd d.is i.toNat true } = { d with nw := upd d.nw i.toNat (byD s), is := upd d.is i.toNat true, calls := d.calls + 1, arm := d.arm - 1 } := by
    unfold countD
    rw [if_neg (show ¬ d.arm = 1 by omega)]
  rw [e, ec]
  refine ⟨?_, hd, by show d.arm - 1 = 0; omega, fun k => ?_⟩
  · unfold writeE
    rw [if_neg (by rw [hd]; decide), if_neg hi]
    unfold countE
    rw [if_neg (by omega)]
  · show (if upd d.is i.toNat true k then upd d.nw i.toNat (byD s) k else d.sf k) = _
    by_cases hk : (k : Int) = i
    · have : k = i.toNat := by omega
      rw [if_pos hk, this]
      simp [upd]
    · have : k ≠ i.toNat := by omega
      rw [if_neg hk]
      simp [upd, this, nowD]
theorem wr_free {d : Dk} (hd : d.down = false) (ha : d.arm = 0) (s : ByteArray) (a : Nat) : ∀ i, a + i ≤ d.n → (wrN d s (a : Int) i).2 = 0 ∧ (wrN d s (a : Int) i).1.down = false ∧ (wrN d s (a : Int) i).1.arm = 0 ∧ ∀ k : Nat, nowD (wrN d s (a : Int) i).1 k = if a ≤ k ∧ k < a + i then byD (quart s (k - a)) else nowD d k
  | 0, _ => ⟨rfl, hd, ha, fun k => by rw [if_neg (by omega)]; rfl⟩
  | i + 1, h => by
    obtain ⟨h1, h2, h3, h4⟩ := wr_free hd ha s a i (by omega)
    have hn := wr_n d s (a : Int) i
    obtain ⟨w1, w2, w3, w4⟩ := write_free h2 h3 (i := (a : Int) + (i : Int)) (by omega) (by rw [hn]; omega) (quart s i)
    have e : wrN d s (a : Int) (i + 1) = (writeD (wrN d s (a : Int) i).1 ((a : Int) + (i : Int)) (quart s i), writeE (wrN d s (a : Int) i).1 ((a : Int) + (i : Int))) := by
      simp only [wrN, if_pos h1]
    rw [e]
    refine ⟨w1, w2, w3, fun k => ?_⟩
    show nowD (writeD (wrN d s (a : Int) i).1 ((a : Int) + (i : Int)) (quart s i)) k = _
    rw [w4 k]
    by_cases hk : (k : Int) = (a : Int) + (i : Int)
    · have : k - a = i := by omega
      rw [if_pos hk, if_pos (by omega), this]
    · rw [if_neg hk, h4 k]
      by_cases h5 : a ≤ k ∧ k < a + i
      · rw [if_pos h5, if_pos (by omega)]
      · rw [if_neg h5, if_neg (by omega)]
theorem allF_ext {f g : Nat → Nat → Int} : ∀ k, (∀ i, i < k → ∀ j, j < 64 → f i j = g i j) → allF f k = allF g k
  | 0, _ => rfl
  | k + 1, h => by
    simp only [allF]
    rw [allF_ext k fun i hi => h i (by omega), sec_ext (h k (by omega))]
theorem all_quart {s : ByteArray} (h : s.size = 256) {f : Nat → Nat → Int} (hf : ∀ i, i < 4 → ∀ j, j < 64 → f i j = byD (quart s i) j) : allF f 4 = s := by
  have e : allF f 4 = allF (imgF s) 4 := allF_ext 4 fun i hi j hj => by rw [hf i hi j hj, byD_quart _ _ _ hj]
  have e2 := all_img s 4 (by omega)
  have e3 : (allF (imgF s) 4).extract 0 s.size = allF (imgF s) 4 := by
    have hs := allF_size (imgF s) 4
    apply byD_ext
    · rw [ByteArray.size_extract, hs]; omega
    · intro j hj
      rw [ByteArray.size_extract, hs] at hj
      rw [byD_cut _ _ _ _ (by omega), Nat.zero_add]
  rw [e, ← e3, e2]
theorem many_in {n : Nat} {id : Int} (h : id < manyP (n : Int)) (h0 : 0 ≤ id) : 2 + 4 * id + 4 ≤ (n : Int) := by
  unfold manyP at h
  by_cases hn : (n : Int) < 2
  · rw [if_pos hn] at h; omega
  · rw [if_neg hn] at h; omega
/-- a page that is written to a disk that is up and not armed -/
theorem writeP_free {d : Dk} (hd : d.down = false) (ha : d.arm = 0) {p : Pg} (hp : putE p = 0) (hm : p.id < manyP (d.n : Int)) :
    (writeP d p).2 = 0 ∧ (writeP d p).1.down = false ∧ (writeP d p).1.arm = 0 ∧ (pageS (writeP d p).1 p.id.toNat = putS p) ∧ ∀ q : Nat, (q : Int) ≠ p.id → pageS (writeP d p).1 q = pageS d q := by
  have hr := (putE_zero.1 hp).1
  have h0 : 0 ≤ p.id := hr.1
  have hin := many_in hm h0
  obtain ⟨a, hA⟩ : ∃ a : Nat, (a : Int) = 2 + 4 * p.id := ⟨(2 + 4 * p.id).toNat, by omega⟩
  have e : writeP d p = wrN d (putS p) (a : Int) 4 := by
    unfold writeP
    rw [if_pos hp, if_neg (by omega), hA]
  obtain ⟨h1, h2, h3, h4⟩ := wr_free hd ha (putS p) a 4 (by omega)
  rw [e]
  refine ⟨h1, h2, h3, ?_, fun q hq => ?_⟩
  · unfold pageS
    refine all_quart (putS_size hp) fun i hi j hj => ?_
    rw [h4, if_pos (by omega)]
    have : 2 + 4 * p.id.toNat + i - a = i := by omega
    rw [this]
  · unfold pageS
    refine allF_ext 4 fun i hi j hj => ?_
    rw [h4, if_neg (by omega)]
/-- it is read as it was written -/
theorem readP_of {d : Dk} (hd : d.down = false) {p : Pg} (hp : putE p = 0) (hm : p.id < manyP (d.n : Int)) (hb : p.id ≤ 9223372036854775807) (hs : pageS d p.id.toNat = putS p) :
    readPE d p.id = 0 ∧ readPP d p.id = { p with pay := padN p.pay 232 } := by
  have hr := (putE_zero.1 hp).1
  have h0 : 0 ≤ p.id := hr.1
  obtain ⟨g1, g2⟩ := get_put hp hb
  have e : readPE d p.id = 0 := by
    unfold readPE
    rw [if_neg (by omega), if_neg (by rw [hd]; decide), hs, if_pos g1, g2, if_pos rfl]
  refine ⟨e, ?_⟩
  unfold readPP
  rw [if_pos e, hs, g2]
/-- two pages of one disk -/
theorem two_pages {d : Dk} (hd : d.down = false) (ha : d.arm = 0) {p q : Pg} (hp : putE p = 0) (hq : putE q = 0) (hm : p.id < manyP (d.n : Int)) (hm2 : q.id < manyP (d.n : Int)) (hb : p.id ≤ 9223372036854775807) (hb2 : q.id ≤ 9223372036854775807) (hne : p.id ≠ q.id) :
    (writeP d p).2 = 0 ∧ (writeP (writeP d p).1 q).2 = 0 ∧ readPE (writeP (writeP d p).1 q).1 p.id = 0 ∧ readPE (writeP (writeP d p).1 q).1 q.id = 0 ∧
      readPP (writeP (writeP d p).1 q).1 p.id = { p with pay := padN p.pay 232 } ∧ readPP (writeP (writeP d p).1 q).1 q.id = { q with pay := padN q.pay 232 } := by
  have h0 : 0 ≤ p.id := (putE_zero.1 hp).1.1
  obtain ⟨a1, a2, a3, a4, a5⟩ := writeP_free hd ha hp hm
  have hn := writeP_n d p
  obtain ⟨b1, b2, b3, b4, b5⟩ := writeP_free a2 a3 hq (by rw [hn]; exact hm2)
  have hn2 := writeP_n (writeP d p).1 q
  have r1 := readP_of (d := (writeP (writeP d p).1 q).1) b2 hp (by rw [hn2, hn]; exact hm) hb (by rw [b5 _ (by omega), a4])
  have r2 := readP_of (d := (writeP (writeP d p).1 q).1) b2 hq (by rw [hn2, hn]; exact hm2) hb2 b4
  exact ⟨a1, b1, r1.1, r2.1, r1.2, r2.2⟩

end Go.Proofs.Ytdmlmjmdpmmcgaa
namespace Go.Proofs.Ytdmlmjmdpmmcgaa
open Go.Shelf Go.RowKit

def renClone : Go.Shelf.Ren := ⟨fun | 316 => 73 | n => n, fun | 9 => 9 | 3 => 3 | 4 => 4 | 37 => 69 | 0 => 0 | 127 => 111 | 5 => 5 | n => n, fun | n => n⟩
theorem laysClone : Go.Proofs.LaysM.n316 Try.prog renClone := {
  mixed := by kernel_rfl
  f316 := Try.func73.trans (congrArg some (by kernel_rfl))
  t0 := Try.underlying0
  a0 := Try.isAgg0
  z0 := Try.sizeOf0
  v0 := Try.zeroValue0
  t3 := Try.underlying3
  a3 := Try.isAgg3
  z3 := Try.sizeOf3
  v3 := Try.zeroValue3
  t4 := Try.underlying4
  a4 := Try.isAgg4
  z4 := Try.sizeOf4
  v4 := Try.zeroValue4
  t9 := Try.underlying9
  a9 := Try.isAgg9
  z9 := Try.sizeOf9
  v9 := Try.zeroValue9
  t37 := Try.underlying69
  a37 := Try.isAgg69
  z37 := Try.sizeOf69
  v37 := Try.zeroValue69
  t127 := Try.underlying111
  a127 := Try.isAgg111
  z127 := Try.sizeOf111
  v127 := Try.zeroValue111
  t5 := Try.underlying5
  a5 := Try.isAgg5
  z5 := Try.sizeOf5
  v5 := Try.zeroValue5
  i0 := by kernel_rfl
  i3 := by kernel_rfl
  i4 := by kernel_rfl
  i5 := by kernel_rfl
  i9 := by kernel_rfl
  i37 := by kernel_rfl
  i127 := by kernel_rfl }
theorem liteClone (s : ByteArray) (w : World) (hlim : s.size ≤ 281474976710656) :
    Calls Try.prog 73 #[.string s] w fun e w' => e = .returned (.string s) ∧ Below w.heap.size w w' := Any.stringslite_Clone laysClone s w hlim
theorem strClone (s : ByteArray) (w : World) (hlim : s.size ≤ 281474976710656) :
    Calls Try.prog 62 #[.string s] w fun e w' => e = .returned (.string s) ∧ Below w.heap.size w w' := by
  go_enter Try.func62, Try.ntmps62
  go_wp2_with (go_at_call 73; refine (liteClone _ _ hlim).mono ?_; rintro e w' ⟨rfl, hb⟩)
  go_ret
  exact ⟨rfl, hb⟩

end Go.Proofs.Ytdmlmjmdpmmcgaa
namespace Go.Proofs.Ytdmlmjmdpmmcgaa
open Go.Shelf Go.RowKit

def renString : Go.Shelf.Ren := ⟨fun | 169 => 77 | n => n, fun | 70 => 102 | 9 => 9 | 0 => 0 | 72 => 104 | 37 => 69 | 127 => 111 | 3 => 3 | 5 => 5 | n => n, fun | n => n⟩
theorem laysString : Go.Proofs.Lays.n169 Try.prog renString := {
  mixed := by kernel_rfl
  f169 := Try.func77.trans (congrArg some (by kernel_rfl))
  t0 := Try.underlying0
  a0 := Try.isAgg0
  z0 := Try.sizeOf0
  v0 := Try.zeroValue0
  t3 := Try.underlying3
  a3 := Try.isAgg3
  z3 := Try.sizeOf3
  v3 := Try.zeroValue3
  t9 := Try.underlying9
  a9 := Try.isAgg9
  z9 := Try.sizeOf9
  v9 := Try.zeroValue9
  t37 := Try.underlying69
  a37 := Try.isAgg69
  z37 := Try.sizeOf69
  v37 := Try.zeroValue69
  t70 := Try.underlying102
  a70 := Try.isAgg102
  z70 := Try.sizeOf102
  v70 := Try.zeroValue102
  t72 := Try.underlying104
  a72 := Try.isAgg104
  z72 := Try.sizeOf104
  v72 := Try.zeroValue104
  t127 := Try.underlying111
  a127 := Try.isAgg111
  z127 := Try.sizeOf111
  v127 := Try.zeroValue111 }
theorem extraString : Builder.Extra Try.prog renString := {
  sizeBuilder := by kernel_rfl
  liesBuilder := by kernel_rfl
  t5 := Try.underlying5
  a5 := Try.isAgg5
  z5 := Try.sizeOf5
  v5 := Try.zeroValue5
  infoByte := by kernel_rfl
  cellsByte := by kernel_rfl
  sizeByte := by kernel_rfl
  neB5 := by decide }
theorem builderString (B b : Nat) (l : List UInt8) (w : World) (h : Lib.IsBuilder 104 5 B b (Lib.byteCells l) w) (hBw : B ≤ w.heap.size) :
    Calls Try.prog 77 #[.pointer (some ⟨b, 0, none⟩)] w fun e w' => e = .returned (.string ⟨l.toArray⟩) ∧ Below B w w' := Any.Builder_String_any laysString extraString B b l w h hBw

theorem sizeBuilder : (Try.prog.info? 104).map (·.size) = some 2 := by kernel_rfl
theorem liesBuilder : liesAt Try.prog Try.prog.depth 104 (2 / Try.prog.cellsOf 104) 0 104 1 = true := by kernel_rfl
theorem infoByte : (Try.prog.info? 5).map (fun i => (i.zero, i.size, i.bytes)) = some (some (.int .u8 0), 1, 1) := by kernel_rfl

set_option maxHeartbeats 1000000 in
set_option maxRecDepth 100000 in
theorem copyCheck_used (b : Nat) (w : World) (h0 : w.cell? ⟨b, 0, none⟩ = some (.pointer (some ⟨b, 0, none⟩))) :
    Calls Try.prog 79 #[.pointer (some ⟨b, 0, none⟩)] w fun e w' => e = .returned (.tuple #[]) ∧ w' = w := by
  obtain ⟨j, hj, _⟩ := Option.map_eq_some_iff.1 sizeBuilder
  go_enter Try.func79, Try.ntmps79
  go_wp2
  rw [Lib.run_neq_ptr_same w _ Try.underlying102 hj]
  go_wp2
  go_end0
  exact ⟨rfl, rfl⟩

set_option maxHeartbeats 1000000 in
set_option maxRecDepth 100000 in
theorem copyCheck_fresh (b : Nat) (w : World) (h0 : w.cell? ⟨b, 0, none⟩ = some (.pointer none)) (hsh : w.shape? b = some (104, 2)) (hfz : w.frozen? ⟨b, 0, none⟩ = false) :
    Calls Try.prog 79 #[.pointer (some ⟨b, 0, none⟩)] w fun e w' => e = .returned (.tuple #[]) ∧ w' = w.setCell ⟨b, 0, none⟩ (.pointer (some ⟨b, 0, none⟩)) := by
  obtain ⟨j, hj, hjs⟩ := Option.map_eq_some_iff.1 sizeBuilder
  go_enter Try.func79, Try.ntmps79
  go_wp2
  rw [Lib.run_to_unsafe w ⟨b, 0, none⟩ Try.underlying102 Try.underlying113 hj (by rw [hjs]; decide) hsh (Nat.zero_lt_succ 1)]
  simp only [Result.andThen]
  rw [Oper.upon_value]
  go_wp2
  rw [run_callFunc_extern Try.func82 (by kernel_rfl) (by kernel_rfl) (by kernel_rfl) (e := Extern.AbiNoEscape.same) (by kernel_rfl)]
  rw [Lib.run_noEscape]
  simp only [Result.andThen]
  rw [Oper.upon_value]
  go_wp2
  rw [Lib.run_from_unsafe w ⟨b, 0, none⟩ Try.underlying113 Try.underlying102 hj hsh liesBuilder]
  simp only [Result.andThen]
  rw [Oper.upon_value]
  go_wp2
  go_end0
  exact ⟨rfl, rfl⟩

theorem copyCheck_any (B b : Nat) (bs : List Value) (w : World) (h : Lib.IsBuilder 104 5 B b bs w) :
    Calls Try.prog 79 #[.pointer (some ⟨b, 0, none⟩)] w fun e w' => e = .returned (.tuple #[]) ∧ (Lib.BuilderAt 104 5 B b (.pointer (some ⟨b, 0, none⟩)) bs w' ∧ Below B w w') := by
  rcases h with h | h
  · refine (copyCheck_fresh b w h.cell0 h.shape h.frozen0).mono ?_
    rintro e w' ⟨rfl, rfl⟩
    exact ⟨rfl, h.used _, (Below.refl B w).setCell (p := ⟨b, 0, none⟩) h.1 _⟩
  · refine (copyCheck_used b w h.cell0).mono ?_
    rintro e w' ⟨rfl, rfl⟩
    exact ⟨rfl, h, Below.refl B _⟩

set_option maxHeartbeats 2000000 in
set_option maxRecDepth 100000 in
theorem writeString (B b : Nat) (bs : List Value) (s : ByteArray) (w : World) (h : Lib.IsBuilder 104 5 B b bs w) (hlen : bs.length + s.size ≤ 140737488355328) (hBw : B ≤ w.heap.size) :
    Calls Try.prog 76 #[.pointer (some ⟨b, 0, none⟩), .string s] w fun e w' => e = .returned (.tuple #[.int .i64 s.size, .nilIface]) ∧ (Lib.BuilderAt 104 5 B b (.pointer (some ⟨b, 0, none⟩)) (bs ++ Lib.strCells s) w' ∧ Below B w w') := by
  obtain ⟨i0, hi, hz0, hz1, hz2⟩ := info_parts infoByte
  go_enter Try.func76, Try.ntmps76
  go_wp2_with (go_at_call 79; refine (copyCheck_any B b bs _ h).mono ?_)
  rintro e w1 ⟨rfl, h1, hb1⟩
  obtain ⟨hB, v, hbk, hown, hne⟩ := h1
  have c0 : w1.cell? ⟨b, 0, none⟩ = some (.pointer (some ⟨b, 0, none⟩)) := by rw [Lib.cell_of_heap hbk]; rfl
  have c1 : w1.cell? ⟨b, 1, none⟩ = some v := by rw [Lib.cell_of_heap hbk]; rfl
  go_wp2_with (at_builtin; refine Lib.wpList_append_own_string _ rfl _ _ 69 9 rfl B 5 i0 Try.underlying69 Try.underlying9 hi hz0 hz1 hz2 _ _ _ rfl hown s rfl ?c3 ?c4 ?c5 ?_)
  case c3 => unfold maxLen; omega
  case c4 => omega
  case c5 => have := hb1.size; omega
  intro v' w2 hown' hgrow _
  have hlt : b < w1.heap.size := by
    rcases Nat.lt_or_ge b w1.heap.size with h' | h'
    · exact h'
    · simp [Array.getElem?_eq_none h'] at hbk
  have hb2 : w2.heap[b]? = some (.cells #[.pointer (some ⟨b, 0, none⟩), v] 104 (0, 0)) := by
    rw [hgrow.block b hlt (fun e => hne e.symm)]
    exact hbk
  have d0 : w2.cell? ⟨b, 0, none⟩ = some (.pointer (some ⟨b, 0, none⟩)) := by rw [Lib.cell_of_heap hb2]; rfl
  have d1 : w2.cell? ⟨b, 1, none⟩ = some v := by rw [Lib.cell_of_heap hb2]; rfl
  have f1 : w2.frozen? ⟨b, 1, none⟩ = false := Lib.frozen_of_heap hb2 1
  obtain ⟨ao, n', cap, rfl⟩ : ∃ ao n' cap, v' = .slice ao n' cap := by
    rcases hown'.2 with ⟨hv, _⟩ | ⟨g, cap, cur, hv, _⟩
    · exact ⟨_, _, _, hv⟩
    · exact ⟨_, _, _, hv⟩
  go_wp2
  go_ret2
  refine ⟨rfl, ?_, ?_⟩
  · exact Lib.BuilderAt.put (T := 104) (e := 5) hB hb2 (bs' := bs ++ Lib.strCells s) (by simpa [Lib.strCells_length] using hown') (by decide)
  · exact (hb1.grown hgrow (by have := hb1.size; omega) (fun k hk => (hown.lt k hk).1)).setCell (p := ⟨b, 1, none⟩) hB _

end Go.Proofs.Ytdmlmjmdpmmcgaa
namespace Go.Proofs.Ytdmlmjmdpmmcgaa
open Go.Shelf Go.RowKit
set_option linter.unusedVariables false

set_option maxHeartbeats 2000000 in
set_option maxRecDepth 1000000 in
theorem growFresh (B b n : Nat) (w : World) (hB : B ≤ b) (hbk : w.heap[b]? = some (.cells #[.pointer (some ⟨b, 0, none⟩), .slice none 0 0] 104 (0, 0))) (hBw : B ≤ w.heap.size) (hn : n ≤ 281474976710656) :
    Calls Try.prog 80 #[.pointer (some ⟨b, 0, none⟩), .int .i64 n] w fun e w' => e = .returned (.tuple #[]) ∧ (Lib.BuilderAt 104 5 B b (.pointer (some ⟨b, 0, none⟩)) [] w' ∧ Below B w w') := by
  obtain ⟨cs, hrun, hle, hmax⟩ := Lib.run_makeNoZero (P := Try.prog) w.drew #[3] 69 5 Try.underlying69 n hn
  have hw : IntKind.i64.wrap (IntKind.i64.wrap 0 + (n : Int)) = n := by
    rw [IntKind.wrap_i64, IntKind.wrap_i64]
    omega
  have hcall : (callFunc 83 #[.int .i64 (IntKind.i64.wrap (IntKind.i64.wrap 0 + (n : Int)))]).run Try.prog w.drew = .ok (.value (.slice (some ⟨w.drew.heap.size, 0, none⟩) n cs.size)) (w.drew.drew.drew.alloc (.cells cs 5)) := by
    rw [hw, run_callFunc_extern Try.func83 (by kernel_rfl) (by kernel_rfl) (by kernel_rfl) (e := Extern.BytealgMakeNoZero.makeNoZero #[3] #[69]) (by kernel_rfl), hrun]
    rfl
  have c1 : w.drew.cell? ⟨b, 1, none⟩ = some (.slice none 0 0) := by
    have : w.drew.heap[b]? = _ := hbk
    rw [Lib.cell_of_heap this]; rfl
  have hlt : b < w.heap.size := by
    rcases Nat.lt_or_ge b w.heap.size with h' | h'
    · exact h'
    · simp [Array.getElem?_eq_none h'] at hbk
  have c2 : (w.alloc (.cells cs 5)).cell? ⟨b, 1, none⟩ = some (.slice none 0 0) := by
    have : (w.alloc (.cells cs 5)).heap[b]? = _ := (Lib.alloc_old w _ b hlt).trans hbk
    rw [Lib.cell_of_heap this]; rfl
  have f2 : (w.alloc (.cells cs 5)).frozen? ⟨b, 1, none⟩ = false := Lib.frozen_of_heap ((Lib.alloc_old w _ b hlt).trans hbk) 1
  have hcopy : ∀ W : World, (Builtin.copy_ #[69, 69] 3 #[.slice (some ⟨w.heap.size, 0, none⟩) 0 cs.size, .slice none 0 0]).run Try.prog W = .ok (goInt 0) W :=
    fun W => run_copy_none W 69 69 3 5 _ _ 0 cs.size 0 0 Try.underlying69 (by kernel_rfl) rfl
  clear hw hlt
  go_enter Try.func80, Try.ntmps80
  go_wp2
  have hfin := Lib.grown_fresh (T := 104) (e := 5) (cs := cs) hB hbk hBw (hmax (by unfold maxLen; omega)) (by decide)
  go_region
  all_goals (go_wp2; go_end0; exact ⟨rfl, hfin⟩)

set_option maxHeartbeats 2000000 in
set_option maxRecDepth 1000000 in
theorem GrowFresh (B b n : Nat) (w : World) (hB : B ≤ b) (hbk : w.heap[b]? = some (.cells #[.pointer none, .slice none 0 0] 104 (0, 0))) (hBw : B ≤ w.heap.size) (hn : n ≤ 281474976710656) :
    Calls Try.prog 75 #[.pointer (some ⟨b, 0, none⟩), .int .i64 n] w fun e w' => e = .returned (.tuple #[]) ∧ (Lib.BuilderAt 104 5 B b (.pointer (some ⟨b, 0, none⟩)) [] w' ∧ Below B w w') := by
  have hbk1 : (w.setCell ⟨b, 0, none⟩ (.pointer (some ⟨b, 0, none⟩))).heap[b]? = some (.cells #[.pointer (some ⟨b, 0, none⟩), .slice none 0 0] 104 (0, 0)) := by
    simp [World.setCell, Array.getElem?_modify, hbk]
  have c1 : (w.setCell ⟨b, 0, none⟩ (.pointer (some ⟨b, 0, none⟩))).cell? ⟨b, 1, none⟩ = some (.slice none 0 0) := by rw [Lib.cell_of_heap hbk1]; rfl
  have hb1 : Below B w (w.setCell ⟨b, 0, none⟩ (.pointer (some ⟨b, 0, none⟩))) := (Below.refl B w).setCell (p := ⟨b, 0, none⟩) hB _
  have hU : Lib.BuilderAt 104 5 B b (.pointer (some ⟨b, 0, none⟩)) [] (w.setCell ⟨b, 0, none⟩ (.pointer (some ⟨b, 0, none⟩))) := ⟨hB, .slice none 0 0, hbk1, World.ownsRow_nil _ _ _ _, by simp [Value.ownBlock]⟩
  have c1' : (w.setCell ⟨b, 0, none⟩ (.pointer (some ⟨b, 0, none⟩))).drew.cell? ⟨b, 1, none⟩ = some (.slice none 0 0) := c1
  go_enter Try.func75, Try.ntmps75
  go_wp2_with (go_at_call 79; refine (copyCheck_fresh b w (by rw [Lib.cell_of_heap hbk]; rfl) (by simp [World.shape?, hbk]) (Lib.frozen_of_heap hbk 0)).mono ?_; rintro e w' ⟨rfl, rfl⟩)
  go_region
  all_goals go_wp2_with (go_at_call 80; refine (growFresh B b n (w.setCell ⟨b, 0, none⟩ (.pointer (some ⟨b, 0, none⟩))).drew hB hbk1 (by simpa [World.setCell, World.drew, -World.drew_eq] using hBw) hn).mono ?_; rintro e w' ⟨rfl, h1, h2⟩)
  all_goals first
    | (go_end0; exact ⟨rfl, h1, hb1.drew.trans h2⟩)
    | (go_end0; exact ⟨rfl, hU.drew, hb1.drew⟩)

end Go.Proofs.Ytdmlmjmdpmmcgaa
