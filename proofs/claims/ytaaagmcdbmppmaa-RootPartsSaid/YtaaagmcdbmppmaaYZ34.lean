/- The contracts of pack.read, ReadU, ReadI and of the document's own ReadU, ReadI. The contract of strings.Clone at this program. -/
import Derived.WalkKit
import Derived.WalkSpells
import Derived.WalkLawsBesides
import Derived.Lib.Hide
import Derived.Shelf.LaysM
import Derived.Shelf.Strconv.Clone
import Derived.Test.YtaaagmcdbmppmaaYPackRefU
import Derived.Test.YtaaagmcdbmppmaaYZ0
import Derived.Test.YtaaagmcdbmppmaaRows
namespace Go.Proofs.Ytaaagmcdbmppmaa
open Go.RowKit
set_option maxRecDepth 100000

set_option maxHeartbeats 400000 in
theorem read_ok (s : ByteArray) (a k : Nat) (hk : k ≤ 8) (hs : s.size ≤ maxLen) (ha : a + k ≤ s.size) (w : World) :
    Calls Try.prog 39 #[.string s, .int .i64 a, .int .i64 k] w fun e w' => e = .returned (.tuple #[.int .u64 (rdI s a k), .int .i64 ((a + k : Nat) : Int), .int .i64 0]) ∧ w = w' := by
  unfold maxLen at hs
  have h1 : ¬ ((a : Int) < 0) := by omega
  have h2 : ¬ ((s.size : Int) < (a : Int)) := by omega
  go_enter Try.func39, Try.ntmps39
  go_wp2_with fail
  go_loop [9, 26] (fun b i => ∃ j : Nat, j ≤ k ∧ i = .int .i64 j ∧ b = .int .u64 (rdI s a j)) (fun _ i => k - (intOf i).toNat)
  case atStart => exact ⟨0, by omega, rfl, rfl⟩
  case round =>
    obtain ⟨j, hj, rfl, rfl⟩ := hrel
    have hb := rdI_bd s a j
    have hc := byteI_bd s (a + j)
    by_cases hlt : j < k
    · go_wp2_with fail
      go_round
      case rel =>
        exact ⟨j + 1, by omega, by go_num, by rw [byteI_at s (a + j) (by omega), shl8_or _ _ hb.1 (rdI_56 s a j (by omega)) hc.1 hc.2]; rfl⟩
      case measure => simp [intOf]; omega
    · obtain rfl : j = k := by omega
      go_wp2_with fail
      go_ret3
      exact ⟨rfl, rfl⟩

set_option maxHeartbeats 400000 in
theorem read_any (s : ByteArray) (a : Int) (k : Nat) (hk : k ≤ 8) (hs : s.size ≤ maxLen) (hw : -9223372036854775808 ≤ a ∧ a ≤ 9223372036854775807) (w : World) :
    Calls Try.prog 39 #[.string s, .int .i64 a, .int .i64 k] w fun e w' => e = rdRet (rdSpec s a k) ∧ w = w' := by
  obtain ⟨hw1, hw2⟩ := hw
  by_cases h1 : a < 0
  · have E : Hid (rdSpec s a k = (0, 0, 3)) := by unfold rdSpec; rw [if_pos (.inl h1)]; exact rfl
    unfold maxLen at hs
    go_enter Try.func39, Try.ntmps39
    go_wp2_with fail
    go_ret3
    exact ⟨by rw [E.out]; rfl, rfl⟩
  by_cases h2 : (s.size : Int) < a
  · have E : Hid (rdSpec s a k = (0, 0, 3)) := by unfold rdSpec; rw [if_pos (.inr h2)]; exact rfl
    unfold maxLen at hs
    go_enter Try.func39, Try.ntmps39
    go_wp2_with fail
    go_ret3
    exact ⟨by rw [E.out]; rfl, rfl⟩
  by_cases h3 : (s.size : Int) - a < (k : Int)
  · have E : Hid (rdSpec s a k = (0, 0, 5)) := by unfold rdSpec; rw [if_neg (by omega), if_pos h3]; exact rfl
    unfold maxLen at hs
    go_enter Try.func39, Try.ntmps39
    go_wp2_with fail
    go_ret3
    exact ⟨by rw [E.out]; rfl, rfl⟩
  obtain ⟨b, rfl⟩ := Int.eq_ofNat_of_zero_le (show 0 ≤ a by omega)
  have E : rdSpec s b k = (rdI s b k, (b : Int) + (k : Int), 0) := by unfold rdSpec; rw [if_neg (by omega), if_neg h3, Int.toNat_natCast]
  rw [E]
  exact read_ok s b k hk hs (by omega) w

theorem read_8 (s : ByteArray) (a : Int) (hs : s.size ≤ maxLen) (hw : -9223372036854775808 ≤ a ∧ a ≤ 9223372036854775807) (w : World) :
    Calls Try.prog 39 #[.string s, .int .i64 a, .int .i64 8] w fun e w' => e = rdRet (rdSpec s a 8) ∧ w = w' := read_any s a 8 (by omega) hs hw w
theorem read_2 (s : ByteArray) (a : Int) (hs : s.size ≤ maxLen) (hw : -9223372036854775808 ≤ a ∧ a ≤ 9223372036854775807) (w : World) :
    Calls Try.prog 39 #[.string s, .int .i64 a, .int .i64 2] w fun e w' => e = rdRet (rdSpec s a 2) ∧ w = w' := read_any s a 2 (by omega) hs hw w

theorem readU_any (s : ByteArray) (a : Int) (hs : s.size ≤ maxLen) (hw : -9223372036854775808 ≤ a ∧ a ≤ 9223372036854775807) (w : World) :
    Calls Try.prog 44 #[.string s, .int .i64 a] w fun e w' => e = rdRet (rdSpec s a 8) ∧ w = w' := by
  have H := Lib.hid (read_8 s a hs hw)
  generalize rdSpec s a 8 = x at H ⊢
  obtain ⟨x0, x1, x2⟩ := x
  unfold rdRet at H ⊢
  clear hs hw
  go_enter Try.func44, Try.ntmps44
  go_wp2_with (go_at_call 39; refine (H.out _).mono ?_; rintro e w' ⟨rfl, rfl⟩)
  go_ret3
  exact ⟨rfl, rfl⟩


theorem readI_any (s : ByteArray) (a : Int) (hs : s.size ≤ maxLen) (hw : -9223372036854775808 ≤ a ∧ a ≤ 9223372036854775807) (w : World) :
    Calls Try.prog 25 #[.string s, .int .i64 a] w fun e w' => e = rdIRet (rdISpec (rdSpec s a 8)) ∧ w = w' := by
  have H := Lib.hid (read_8 s a hs hw)
  generalize rdSpec s a 8 = x at H ⊢
  obtain ⟨x0, x1, x2⟩ := x
  unfold rdRet at H
  clear hs hw
  by_cases h0 : x2 = 0
  · subst h0
    have E : Hid (rdISpec (x0, x1, 0) = (unflip63 x0, x1, 0)) := by unfold rdISpec; simp [Hid]
    go_enter Try.func25, Try.ntmps25
    go_wp2_with (go_at_call 39; refine (H.out _).mono ?_; rintro e w' ⟨rfl, rfl⟩)
    go_ret3
    exact ⟨by rw [E.out]; rfl, rfl⟩
  · have E : Hid (rdISpec (x0, x1, x2) = (0, 0, x2)) := by unfold rdISpec; simp [Hid, h0]
    have hne : (x2 != 0) = true := by simp [h0]
    go_enter Try.func25, Try.ntmps25
    go_wp2_with (go_at_call 39; refine (H.out _).mono ?_; rintro e w' ⟨rfl, rfl⟩)
    go_ret3
    exact ⟨by rw [E.out]; rfl, rfl⟩

end Go.Proofs.Ytaaagmcdbmppmaa
namespace Go.Proofs.Ytaaagmcdbmppmaa
open Go.Shelf Go.RowKit

def renClone : Go.Shelf.Ren := ⟨fun | 316 => 51 | n => n, fun | 9 => 9 | 3 => 3 | 4 => 4 | 37 => 56 | 0 => 0 | 127 => 76 | 5 => 5 | n => n, fun | n => n⟩
theorem laysClone : Go.Proofs.LaysM.n316 Try.prog renClone := {
  mixed := by kernel_rfl
  f316 := Try.func51.trans (congrArg some (by kernel_rfl))
  t0 := Try.underlying0
  a0 := Try.isAgg0
  z0 := Try.sizeOf0
  v0 := Try.zeroValue0
  t3 := Try.underlying3
  a3 := Try.isAgg3
  z3 := Try.sizeOf3
  v3 := Try.zeroValue3
  t4 := Try.underlying4
  a4 := Try.isAgg4
  z4 := Try.sizeOf4
  v4 := Try.zeroValue4
  t9 := Try.underlying9
  a9 := Try.isAgg9
  z9 := Try.sizeOf9
  v9 := Try.zeroValue9
  t37 := Try.underlying56
  a37 := Try.isAgg56
  z37 := Try.sizeOf56
  v37 := Try.zeroValue56
  t127 := Try.underlying76
  a127 := Try.isAgg76
  z127 := Try.sizeOf76
  v127 := Try.zeroValue76
  t5 := Try.underlying5
  a5 := Try.isAgg5
  z5 := Try.sizeOf5
  v5 := Try.zeroValue5
  i0 := by kernel_rfl
  i3 := by kernel_rfl
  i4 := by kernel_rfl
  i5 := by kernel_rfl
  i9 := by kernel_rfl
  i37 := by kernel_rfl
  i127 := by kernel_rfl }
theorem liteClone (s : ByteArray) (w : World) (hlim : s.size ≤ 281474976710656) :
    Calls Try.prog 51 #[.string s] w fun e w' => e = .returned (.string s) ∧ Below w.heap.size w w' := Any.stringslite_Clone laysClone s w hlim
theorem strClone (s : ByteArray) (w : World) (hlim : s.size ≤ 281474976710656) :
    Calls Try.prog 40 #[.string s] w fun e w' => e = .returned (.string s) ∧ Below w.heap.size w w' := by
  go_enter Try.func40, Try.ntmps40
  go_wp2_with (go_at_call 51; refine (liteClone _ _ hlim).mono ?_; rintro e w' ⟨rfl, hb⟩)
  go_ret
  exact ⟨rfl, hb⟩

end Go.Proofs.Ytaaagmcdbmppmaa
