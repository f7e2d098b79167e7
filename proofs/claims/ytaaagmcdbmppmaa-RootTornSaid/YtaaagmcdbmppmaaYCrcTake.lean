/- The contracts of crc.take, crc.More, crc.Sum, and of the document's own Sum. -/
import Derived.WalkKit
import Derived.WalkSpells
import Derived.WalkLawsBesides
import Derived.Lib.Hide
import Derived.WalkSmall
import Derived.Test.YtaaagmcdbmppmaaRows
import Derived.Test.YtaaagmcdbmppmaaYCrcMath
namespace Go.Proofs.Ytaaagmcdbmppmaa
open Go.RowKit

theorem u32_wrap (n : Nat) (h : n < 4294967296) : IntKind.u32.wrap (n : Int) = (n : Int) := by
  unfold IntKind.wrap; simp [IntKind.bits, IntKind.signed]; omega
theorem bits_xor_u32 (x y : Nat) (hx : x < 4294967296) (hy : y < 4294967296) : bits .xor .u32 (x : Int) (y : Int) = ((x ^^^ y : Nat) : Int) := by
  have h := Nat.xor_lt_two_pow (n := 32) hx hy
  show IntKind.u32.wrap (((BitVec.ofInt 32 (x : Int) ^^^ BitVec.ofInt 32 (y : Int)).toNat : Nat) : Int) = _
  rw [BitVec.toNat_xor, BitVec.toNat_ofInt, BitVec.toNat_ofInt]
  have ex : ((x : Int) % ((2 ^ 32 : Nat) : Int)).toNat = x := by omega
  have ey : ((y : Int) % ((2 ^ 32 : Nat) : Int)).toNat = y := by omega
  rw [ex, ey]
  exact u32_wrap _ h
theorem bits_and_u32 (x y : Nat) (hx : x < 4294967296) (hy : y < 4294967296) : bits .and .u32 (x : Int) (y : Int) = ((x &&& y : Nat) : Int) := by
  have h := Nat.and_lt_two_pow (n := 32) x hy
  show IntKind.u32.wrap (((BitVec.ofInt 32 (x : Int) &&& BitVec.ofInt 32 (y : Int)).toNat : Nat) : Int) = _
  rw [BitVec.toNat_and, BitVec.toNat_ofInt, BitVec.toNat_ofInt]
  have ex : ((x : Int) % ((2 ^ 32 : Nat) : Int)).toNat = x := by omega
  have ey : ((y : Int) % ((2 ^ 32 : Nat) : Int)).toNat = y := by omega
  rw [ex, ey]
  exact u32_wrap _ h
/-- all bits turned -/
theorem not_u32 (x : Nat) (h : x < 4294967296) : bits .xor .u32 IntKind.u32.max (x : Int) = ((4294967295 - x : Nat) : Int) := by
  show IntKind.u32.wrap (((BitVec.ofInt 32 IntKind.u32.max ^^^ BitVec.ofInt 32 (x : Int)).toNat : Nat) : Int) = _
  rw [show BitVec.ofInt 32 IntKind.u32.max = BitVec.allOnes 32 from by decide, BitVec.allOnes_xor, BitVec.toNat_not, BitVec.toNat_ofInt]
  have ex : ((x : Int) % ((2 ^ 32 : Nat) : Int)).toNat = x := by omega
  rw [ex]
  exact u32_wrap _ (by omega)

/-- the test of one bit, as take has it -/
theorem take_test (r c j : Nat) (hr : r < 4294967296) (hc : c < 256) :
    (bits .and .u32 (bits .xor .u32 (r : Int) ((c : Int) / 2 ^ j % 4294967296)) 1 == 1) = !decide (r % 2 = c / 2 ^ j % 2) := by
  have hq : c / 2 ^ j < 4294967296 := Nat.lt_of_le_of_lt (Nat.div_le_self _ _) (by omega)
  have e : ((c : Int) / 2 ^ j % 4294967296) = ((c / 2 ^ j : Nat) : Int) := by
    have e1 : ((c : Int) / 2 ^ j) = ((c / 2 ^ j : Nat) : Int) := by simp
    rw [e1]
    generalize c / 2 ^ j = q at hq
    omega
  rw [e, bits_xor_u32 _ _ hr hq]
  have hx := Nat.xor_lt_two_pow (n := 32) hr hq
  have e2 := bits_and_u32 (r ^^^ c / 2 ^ j) 1 hx (by decide)
  rw [show ((1 : Nat) : Int) = 1 from rfl] at e2
  rw [e2, Nat.and_one_is_mod]
  generalize c / 2 ^ j = q
  have e3 : (r ^^^ q) % 2 = (r % 2) ^^^ (q % 2) := Nat.xor_mod_two_pow (n := 1)
  rw [e3]
  rcases Nat.mod_two_eq_zero_or_one r with h1 | h1 <;> rcases Nat.mod_two_eq_zero_or_one q with h2 | h2 <;> rw [h1, h2] <;> decide

set_option maxHeartbeats 400000 in
theorem take_any (r c : Nat) (hr : r < 4294967296) (hc : c < 256) (w : World) :
    Calls Try.prog 60 #[.int .u32 r, .int .u8 c] w fun e w' => e = .returned (.int .u32 (regN r c 8)) ∧ w = w' := by
  go_enter Try.func60, Try.ntmps60
  go_wp2_with fail
  go_loop [0, 7] (fun x i => ∃ j : Nat, j ≤ 8 ∧ i = .int .i64 j ∧ x = .int .u32 (regN r c j)) (fun _ i => 8 - (intOf i).toNat)
  case atStart => exact ⟨0, by omega, rfl, rfl⟩
  case round =>
    obtain ⟨j, hj, rfl, rfl⟩ := hrel
    have hl := reg_lt (c := c) hr j
    by_cases hlt : j < 8
    · have HT := Lib.hid (take_test (regN r c j) c j hl hc)
      have hx := bits_xor_u32 (regN r c j / 2) 2197175160 (by omega) (by decide)
      have HX : Hid (bits .xor .u32 ((regN r c j : Int) / 2) 2197175160 = ((regN r c j / 2 ^^^ 2197175160 : Nat) : Int)) := hx
      have E : Hid (regN r c (j + 1) = stepN (regN r c j) (c / 2 ^ j % 2)) := rfl
      clear hx
      generalize regN r c j = q at *
      by_cases hq : q % 2 = c / 2 ^ j % 2
      · have ht := HT.out
        rw [decide_eq_true hq] at ht
        have E2 : Hid (regN r c (j + 1) = q / 2) := by show _ = _; rw [E.out]; unfold stepN; rw [if_pos hq]
        clear HT HX E hq
        go_wp2_with fail
        go_round
        case rel => exact ⟨j + 1, by omega, by go_num, by rw [E2.out]; rfl⟩
        case measure => simp [intOf]; omega
      · have ht := HT.out
        rw [decide_eq_false hq] at ht
        have E2 : Hid (regN r c (j + 1) = q / 2 ^^^ 2197175160) := by show _ = _; rw [E.out]; unfold stepN; rw [if_neg hq]
        clear HT E hq
        go_wp2_with fail
        go_round
        case rel => exact ⟨j + 1, by omega, by go_num, by rw [E2.out, ← HX.out]⟩
        case measure => simp [intOf]; omega
    · obtain rfl : j = 8 := by omega
      go_wp2_with fail
      go_ret
      exact ⟨rfl, rfl⟩

set_option maxHeartbeats 400000 in
theorem more_any (n : Nat) (s : ByteArray) (hn : n < 4294967296) (hs : s.size ≤ maxLen) (w : World) :
    Calls Try.prog 54 #[.int .u32 n, .string s] w fun e w' => e = .returned (.int .u32 ((4294967295 - regL (4294967295 - n) s.data.toList : Nat) : Int)) ∧ w = w' := by
  unfold maxLen at hs
  obtain ⟨r, hr⟩ : ∃ r, r = 4294967295 - n := ⟨_, rfl⟩
  have hr2 : r < 4294967296 := by omega
  have HN : Hid (bits .xor .u32 IntKind.u32.max (n : Int) = (r : Int)) := by show _ = _; rw [not_u32 n hn, hr]
  rw [← hr]
  clear hr
  go_enter Try.func54, Try.ntmps54
  go_wp2_with fail
  rw [HN.out]
  go_loop [5, 11] (fun x i => ∃ j : Nat, j ≤ s.size ∧ i = .int .i64 j ∧ x = .int .u32 (regL r (s.data.toList.take j))) (fun _ i => s.size - (intOf i).toNat)
  case atStart => exact ⟨0, by omega, rfl, rfl⟩
  case round =>
    obtain ⟨j, hj, rfl, rfl⟩ := hrel
    have hl := regL_lt (s.data.toList.take j) hr2
    by_cases hlt : j < s.size
    · have E : Hid (regL r (s.data.toList.take (j + 1)) = regN (regL r (s.data.toList.take j)) s[j].toNat 8) := regL_snoc r s.data.toList j (by simpa using hlt)
      generalize regL r (s.data.toList.take j) = q at *
      go_wp2_with (go_at_call 60; refine (take_any _ _ hl (UInt8.toNat_lt _) _).mono ?_; rintro e w' ⟨rfl, rfl⟩)
      go_round
      case rel => exact ⟨j + 1, by omega, by go_num, by rw [E.out]⟩
      case measure => simp [intOf]; omega
    · obtain rfl : j = s.size := by omega
      have e : s.data.toList.take s.size = s.data.toList := List.take_of_length_le (by simp)
      rw [e] at hl ⊢
      clear e
      have HX := Lib.hid (not_u32 (regL r s.data.toList) hl)
      obtain ⟨q, hq⟩ : ∃ q, q = regL r s.data.toList := ⟨_, rfl⟩
      rw [← hq] at HX hl ⊢
      have HQ := Lib.hid hq
      clear hq
      go_wp2_with fail
      go_ret
      exact ⟨by rw [← HQ.out, ← HX.out]; rfl, rfl⟩

theorem sum_any (s : ByteArray) (hs : s.size ≤ maxLen) (w : World) :
    Calls Try.prog 47 #[.string s] w fun e w' => e = .returned (.int .u32 (crcN s.data.toList)) ∧ w = w' := by
  have h := more_any 0 s (by omega) hs
  have H := Lib.hid h
  have e : 4294967295 - regL (4294967295 - 0) s.data.toList = crcN s.data.toList := rfl
  rw [e] at H
  clear h e
  generalize crcN s.data.toList = q at H ⊢
  go_enter Try.func47, Try.ntmps47
  go_wp2_with (go_at_call 54; refine (H.out _).mono ?_; rintro e w' ⟨rfl, rfl⟩)
  go_ret
  exact ⟨rfl, rfl⟩

theorem bit_num (c k : Nat) (hc : c < 256) : ((c : Int) / 2 ^ k % 4294967296 % 2) = ((c / 2 ^ k % 2 : Nat) : Int) := by
  have hq : c / 2 ^ k < 4294967296 := Nat.lt_of_le_of_lt (Nat.div_le_self _ _) (by omega)
  have e1 : ((c : Int) / 2 ^ k) = ((c / 2 ^ k : Nat) : Int) := by simp
  rw [e1]
  generalize c / 2 ^ k = q at hq
  omega


end Go.Proofs.Ytaaagmcdbmppmaa
