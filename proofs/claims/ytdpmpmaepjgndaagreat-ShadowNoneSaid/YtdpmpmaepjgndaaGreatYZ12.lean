/- The walk of ShadowDoes, whatever the program's store is made of. The contracts of crc.take, crc.More, crc.Sum, and of the document's own Sum. The contract of crc.checkOf: the four bytes of the check, as an array. The contracts of crc.Lay and of the document's own Lay. -/
import Derived.WalkKit
import Derived.WalkSpells
import Derived.WalkLawsBesides
import Derived.Lib.Hide
import Derived.WalkSmall
import Derived.Lib.Builder
import Derived.Laws.Tables
import Derived.Laws.CopyOwn
import Derived.Lib.BufferWrite
import Derived.Laws.IdiomStrings
import Derived.Laws.BytesArg
import Derived.Test.YtdpmpmaepjgndaaGreatYZ6
import Derived.Test.YtdpmpmaepjgndaaGreatYZ11
import Derived.Test.YtdpmpmaepjgndaaGreatRows
import Derived.Test.YtdpmpmaepjgndaaGreatYZ0
namespace Go.Proofs.YtdpmpmaepjgndaaGreat
open Go.RowKit Go.Deep
set_option linter.unusedVariables false
set_option linter.unusedSimpArgs false
set_option maxRecDepth 100000

section
variable {PM : StM} {PF PC : FlM}
theorem both_bs {base D P P2 Q : Nat} {x : Stt} {S : Nat → Bool} {u u2 : World} (h : Bs14 PM base D P Q x 0 S u) {k : Int} (hL : Lim x k) (hk : k ≤ 10000) {kind l : Int} {s : ByteArray} {nxt : List Slt} {ok : Prop} (hb : Both14 PM PF base D P2 Q x (doX x kind l s) nxt 0 S ok u u2) : ok ∧ Lim (doX x kind l s) (k + 1) ∧ (∃ S2, Bs14 PM base D P2 Q (doX x kind l s) 0 S2 u2) ∧ Below base u u2 := by
  obtain ⟨⟨r1, r2⟩, b, k, S2, n2, d2, h2⟩ := hb
  obtain ⟨o1, o2⟩ := okx_do h.ok hL hk kind l s
  rcases h2 with ⟨hok, a2, ha, hp⟩ | ⟨ha, _⟩
  · rw [ha rfl] at hp
    exact ⟨hok, o2, ⟨S2, hp, r1, d2, o1, Nat.le_trans h.sz b.size⟩, b⟩
  · exact absurd rfl ha
set_option maxHeartbeats 6400000 in
theorem does14_walk (I : Sh14 PM PF PC) (p : Nat) (hp : p < 256) (n : Nat) (A : Nat → Int × Int × ByteArray) (ao : Option Addr) (cap : Nat) (u : World) (ha : SaAt u.heap.size n A ao cap u) : Calls Tryz.prog 3 #[.int .u8 (p : Int), .slice ao n cap] u fun r u' => r = .returned (.bool true) ∧ Below u.heap.size u u' := by
  have HI := Lib.hid I
  have HA := Lib.hid ha
  have HAW := Lib.hid (fun w => awake14_any I w)
  obtain ⟨m, hm⟩ : ∃ m, m = p % 14 + 1 := ⟨_, rfl⟩
  have W0 : ((p : Int) % 14) + 1 = (m : Int) := by omega
  have W1 : IntKind.i64.wrap ((p : Int) % 14) = (p : Int) % 14 := by rw [IntKind.wrap_i64]; omega
  have W2 : IntKind.i64.wrap ((p : Int) % 14 + 1) = (m : Int) := by rw [IntKind.wrap_i64]; omega
  have W3 : Int.tmod (p : Int) 14 = (p : Int) % 14 := by rw [Int.tmod_eq_emod_of_nonneg (by omega)]
  have HBG := Lib.hid (begun14_any I m (by omega) (by omega) u)
  have hc := ha.c
  clear ha I hm W0
  go_enter Tryz.func3, Tryz.ntmps3
  go_wp2_with fail
  refine (HBG.out).mono ?_
  rintro e w1 ⟨D, P, Q, S, rfl, hbs, hb1⟩
  have BS := Lib.hid hbs
  have B1 := Lib.hid hb1
  clear hbs hb1 HBG
  go_wp2_with fail
  refine (HAW.out _).mono ?_
  rintro e w2 ⟨rfl, hb2⟩
  have BS2 := Lib.hid (BS.out.below HI.out hb2)
  have B2 := Lib.hid (bthen B1.out hb2)
  clear hb2 BS
  go_wp2_with fail
  go_loopw [7, 9] (fun v i wr => ∃ (j P : Nat) (x : Stt) (S : Nat → Bool), j ≤ n ∧ j ≤ 40 ∧ v = .pointer (some ⟨P, 0, none⟩) ∧ i = .int .i64 j ∧ Hid (Lim x (1 + (j : Int))) ∧ Hid (Bs14 PM u.heap.size D P Q x 0 S wr) ∧ Hid (Below u.heap.size u wr)) (fun _ i _ => n - (intOf i).toNat)
  case atStart => exact ⟨0, P, _, S, Nat.zero_le _, by omega, rfl, rfl, Lib.hid ⟨by show (1 : Int) ≤ 1 + 0; omega, by show (64 : Int) ≤ 64 * (1 + 0); omega⟩, BS2, B2⟩
  case round =>
    clear BS2 B2
    obtain ⟨j, P, x, S, hj, hj40, rfl, rfl, HE, HBS, HB⟩ := hrel
    by_cases hlt : j < n
    · have hj1 : (j : Int) < (n : Int) := by omega
      have hj2 : (0 : Int) ≤ (j : Int) := by omega
      have d1 : decide ((j : Int) < (n : Int)) = true := decide_eq_true hj1
      by_cases h40 : j < 40
      · have d2 : decide ((j : Int) < 40) = true := decide_eq_true (by omega)
        obtain ⟨BA, oA, ha, hBA, hcl⟩ := (HA.out.below HB.out).x (by omega)
        subst ha
        obtain ⟨y0, y1, y2⟩ := hcl j hlt
        clear hcl
        generalize A j = t at *
        obtain ⟨kind, l, s⟩ := t
        dsimp only at y0 y1 y2
        have HSH := Lib.hid (short14_any kind l s wr)
        by_cases hs : s.size < 500
        · have HS := Lib.hid hs
          rw [decide_eq_true hs] at HSH
          clear hs
          go_wp2_with fail
          refine (HSH.out).mono ?_
          rintro e w3 ⟨rfl, hb3⟩
          have BS3 := Lib.hid (HBS.out.below HI.out hb3)
          have B3 := Lib.hid (bthen HB.out hb3)
          have HD := Lib.hid (do14_any HI.out BS3.out kind l s (by have := HS.out; omega))
          have z0 := cell_stays hb3 y0
          have z1 := cell_stays hb3 y1
          have z2 := cell_stays hb3 y2
          clear hb3 y0 y1 y2
          go_wp2_with fail
          refine (HD.out).mono ?_
          rintro e w4 ⟨P4, b4, rfl, _, hbo⟩
          obtain ⟨rfl, q2, ⟨S4, q3⟩, q4⟩ := both_bs BS3.out HE.out (by omega) hbo
          have E4 : Hid (Lim (doX x kind l s) (1 + ((j + 1 : Nat) : Int))) := Lib.hid (q2.up (by omega))
          have BS4 := Lib.hid q3
          have B4 := Lib.hid (B3.out.trans q4)
          have HSM := Lib.hid (same14_any HI.out q3)
          clear hbo q2 q3 q4 z0 z1 z2
          go_wp2_with fail
          refine (HSM.out).mono ?_
          rintro e w5 ⟨rfl, hb5⟩
          have BS5 := Lib.hid (BS4.out.below HI.out hb5)
          have B5 := Lib.hid (bthen B4.out hb5)
          clear hb5
          go_wp2_with fail
          go_roundw
          case rel => exact ⟨j + 1, P4, _, S4, hlt, by omega, rfl, by go_num, E4, BS5, B5⟩
          case measure => simp [intOf]; omega
        · rw [decide_eq_false hs] at HSH
          clear hs
          go_wp2_with fail
          refine (HSH.out).mono ?_
          rintro e w3 ⟨rfl, hb3⟩
          have BS3 := Lib.hid (HBS.out.below HI.out hb3)
          have B3 := Lib.hid (bthen HB.out hb3)
          have HSM := Lib.hid (same14_any HI.out BS3.out)
          clear hb3 y0 y1 y2
          go_wp2_with fail
          refine (HSM.out).mono ?_
          rintro e w5 ⟨rfl, hb5⟩
          have BS5 := Lib.hid (BS3.out.below HI.out hb5)
          have B5 := Lib.hid (bthen B3.out hb5)
          clear hb5
          go_wp2_with fail
          go_roundw
          case rel => exact ⟨j + 1, P, x, S, hlt, by omega, rfl, by go_num, Lib.hid (HE.out.up (by omega)), BS5, B5⟩
          case measure => simp [intOf]; omega
      · have d2 : decide ((j : Int) < 40) = false := decide_eq_false (by omega)
        go_wp2_with fail
        go_ret
        exact ⟨rfl, HB.out⟩
    · have d1 : decide ((j : Int) < (n : Int)) = false := decide_eq_false (by omega)
      go_wp2_with fail
      go_ret
      exact ⟨rfl, HB.out⟩
end

end Go.Proofs.YtdpmpmaepjgndaaGreat
namespace Go.Proofs.YtdpmpmaepjgndaaGreat
open Go.RowKit

theorem u32_wrap (n : Nat) (h : n < 4294967296) : IntKind.u32.wrap (n : Int) = (n : Int) := by
  unfold IntKind.wrap; simp [IntKind.bits, IntKind.signed]; omega
theorem bits_xor_u32 (x y : Nat) (hx : x < 4294967296) (hy : y < 4294967296) : bits .xor .u32 (x : Int) (y : Int) = ((x ^^^ y : Nat) : Int) := by
  have h := Nat.xor_lt_two_pow (n := 32) hx hy
  show IntKind.u32.wrap (((BitVec.ofInt 32 (x : Int) ^^^ BitVec.ofInt 32 (y : Int)).toNat : Nat) : Int) = _
  rw [BitVec.toNat_xor, BitVec.toNat_ofInt, BitVec.toNat_ofInt]
  have ex : ((x : Int) % ((2 ^ 32 : Nat) : Int)).toNat = x := by omega
  have ey : ((y : Int) % ((2 ^ 32 : Nat) : Int)).toNat = y := by omega
  rw [ex, ey]
  exact u32_wrap _ h
theorem bits_and_u32 (x y : Nat) (hx : x < 4294967296) (hy : y < 4294967296) : bits .and .u32 (x : Int) (y : Int) = ((x &&& y : Nat) : Int) := by
  have h := Nat.and_lt_two_pow (n := 32) x hy
  show IntKind.u32.wrap (((BitVec.ofInt 32 (x : Int) &&& BitVec.ofInt 32 (y : Int)).toNat : Nat) : Int) = _
  rw [BitVec.toNat_and, BitVec.toNat_ofInt, BitVec.toNat_ofInt]
  have ex : ((x : Int) % ((2 ^ 32 : Nat) : Int)).toNat = x := by omega
  have ey : ((y : Int) % ((2 ^ 32 : Nat) : Int)).toNat = y := by omega
  rw [ex, ey]
  exact u32_wrap _ h
/-- all bits turned -/
theorem not_u32 (x : Nat) (h : x < 4294967296) : bits .xor .u32 IntKind.u32.max (x : Int) = ((4294967295 - x : Nat) : Int) := by
  show IntKind.u32.wrap (((BitVec.ofInt 32 IntKind.u32.max ^^^ BitVec.ofInt 32 (x : Int)).toNat : Nat) : Int) = _
  rw [show BitVec.ofInt 32 IntKind.u32.max = BitVec.allOnes 32 from by decide, BitVec.allOnes_xor, BitVec.toNat_not, BitVec.toNat_ofInt]
  have ex : ((x : Int) % ((2 ^ 32 : Nat) : Int)).toNat = x := by omega
  rw [ex]
  exact u32_wrap _ (by omega)

/-- the test of one bit, as take has it -/
theorem take_test (r c j : Nat) (hr : r < 4294967296) (hc : c < 256) :
    (bits .and .u32 (bits .xor .u32 (r : Int) ((c : Int) / 2 ^ j % 4294967296)) 1 == 1) = !decide (r % 2 = c / 2 ^ j % 2) := by
  have hq : c / 2 ^ j < 4294967296 := Nat.lt_of_le_of_lt (Nat.div_le_self _ _) (by omega)
  have e : ((c : Int) / 2 ^ j % 4294967296) = ((c / 2 ^ j : Nat) : Int) := by
    have e1 : ((c : Int) / 2 ^ j) = ((c / 2 ^ j : Nat) : Int) := by simp
    rw [e1]
    generalize c / 2 ^ j = q at hq
    omega
  rw [e, bits_xor_u32 _ _ hr hq]
  have hx := Nat.xor_lt_two_pow (n := 32) hr hq
  have e2 := bits_and_u32 (r ^^^ c / 2 ^ j) 1 hx (by decide)
  rw [show ((1 : Nat) : Int) = 1 from rfl] at e2
  rw [e2, Nat.and_one_is_mod]
  generalize c / 2 ^ j = q
  have e3 : (r ^^^ q) % 2 = (r % 2) ^^^ (q % 2) := Nat.xor_mod_two_pow (n := 1)
  rw [e3]
  rcases Nat.mod_two_eq_zero_or_one r with h1 | h1 <;> rcases Nat.mod_two_eq_zero_or_one q with h2 | h2 <;> rw [h1, h2] <;> decide

set_option maxHeartbeats 400000 in
theorem take_any (r c : Nat) (hr : r < 4294967296) (hc : c < 256) (w : World) :
    Calls Tryz.prog 193 #[.int .u32 r, .int .u8 c] w fun e w' => e = .returned (.int .u32 (regN r c 8)) ∧ w = w' := by
  go_enter Tryz.func193, Tryz.ntmps193
  go_wp2_with fail
  go_loop [0, 7] (fun x i => ∃ j : Nat, j ≤ 8 ∧ i = .int .i64 j ∧ x = .int .u32 (regN r c j)) (fun _ i => 8 - (intOf i).toNat)
  case atStart => exact ⟨0, by omega, rfl, rfl⟩
  case round =>
    obtain ⟨j, hj, rfl, rfl⟩ := hrel
    have hl := reg_lt (c := c) hr j
    by_cases hlt : j < 8
    · have HT := Lib.hid (take_test (regN r c j) c j hl hc)
      have hx := bits_xor_u32 (regN r c j / 2) 2197175160 (by omega) (by decide)
      have HX : Hid (bits .xor .u32 ((regN r c j : Int) / 2) 2197175160 = ((regN r c j / 2 ^^^ 2197175160 : Nat) : Int)) := hx
      have E : Hid (regN r c (j + 1) = stepN (regN r c j) (c / 2 ^ j % 2)) := rfl
      clear hx
      generalize regN r c j = q at *
      by_cases hq : q % 2 = c / 2 ^ j % 2
      · have ht := HT.out
        rw [decide_eq_true hq] at ht
        have E2 : Hid (regN r c (j + 1) = q / 2) := by show _ = _; rw [E.out]; unfold stepN; rw [if_pos hq]
        clear HT HX E hq
        go_wp2_with fail
        go_round
        case rel => exact ⟨j + 1, by omega, by go_num, by rw [E2.out]; rfl⟩
        case measure => simp [intOf]; omega
      · have ht := HT.out
        rw [decide_eq_false hq] at ht
        have E2 : Hid (regN r c (j + 1) = q / 2 ^^^ 2197175160) := by show _ = _; rw [E.out]; unfold stepN; rw [if_neg hq]
        clear HT E hq
        go_wp2_with fail
        go_round
        case rel => exact ⟨j + 1, by omega, by go_num, by rw [E2.out, ← HX.out]⟩
        case measure => simp [intOf]; omega
    · obtain rfl : j = 8 := by omega
      go_wp2_with fail
      go_ret
      exact ⟨rfl, rfl⟩

set_option maxHeartbeats 400000 in
theorem more_any (n : Nat) (s : ByteArray) (hn : n < 4294967296) (hs : s.size ≤ maxLen) (w : World) :
    Calls Tryz.prog 187 #[.int .u32 n, .string s] w fun e w' => e = .returned (.int .u32 ((4294967295 - regL (4294967295 - n) s.data.toList : Nat) : Int)) ∧ w = w' := by
  unfold maxLen at hs
  obtain ⟨r, hr⟩ : ∃ r, r = 4294967295 - n := ⟨_, rfl⟩
  have hr2 : r < 4294967296 := by omega
  have HN : Hid (bits .xor .u32 IntKind.u32.max (n : Int) = (r : Int)) := by show _ = _; rw [not_u32 n hn, hr]
  rw [← hr]
  clear hr
  go_enter Tryz.func187, Tryz.ntmps187
  go_wp2_with fail
  rw [HN.out]
  go_loop [5, 11] (fun x i => ∃ j : Nat, j ≤ s.size ∧ i = .int .i64 j ∧ x = .int .u32 (regL r (s.data.toList.take j))) (fun _ i => s.size - (intOf i).toNat)
  case atStart => exact ⟨0, by omega, rfl, rfl⟩
  case round =>
    obtain ⟨j, hj, rfl, rfl⟩ := hrel
    have hl := regL_lt (s.data.toList.take j) hr2
    by_cases hlt : j < s.size
    · have E : Hid (regL r (s.data.toList.take (j + 1)) = regN (regL r (s.data.toList.take j)) s[j].toNat 8) := regL_snoc r s.data.toList j (by simpa using hlt)
      generalize regL r (s.data.toList.take j) = q at *
      go_wp2_with (go_at_call 193; refine (take_any _ _ hl (UInt8.toNat_lt _) _).mono ?_; rintro e w' ⟨rfl, rfl⟩)
      go_round
      case rel => exact ⟨j + 1, by omega, by go_num, by rw [E.out]⟩
      case measure => simp [intOf]; omega
    · obtain rfl : j = s.size := by omega
      have e : s.data.toList.take s.size = s.data.toList := List.take_of_length_le (by simp)
      rw [e] at hl ⊢
      clear e
      have HX := Lib.hid (not_u32 (regL r s.data.toList) hl)
      obtain ⟨q, hq⟩ : ∃ q, q = regL r s.data.toList := ⟨_, rfl⟩
      rw [← hq] at HX hl ⊢
      have HQ := Lib.hid hq
      clear hq
      go_wp2_with fail
      go_ret
      exact ⟨by rw [← HQ.out, ← HX.out]; rfl, rfl⟩

theorem sum_any (s : ByteArray) (hs : s.size ≤ maxLen) (w : World) :
    Calls Tryz.prog 176 #[.string s] w fun e w' => e = .returned (.int .u32 (crcN s.data.toList)) ∧ w = w' := by
  have h := more_any 0 s (by omega) hs
  have H := Lib.hid h
  have e : 4294967295 - regL (4294967295 - 0) s.data.toList = crcN s.data.toList := rfl
  rw [e] at H
  clear h e
  generalize crcN s.data.toList = q at H ⊢
  go_enter Tryz.func176, Tryz.ntmps176
  go_wp2_with (go_at_call 187; refine (H.out _).mono ?_; rintro e w' ⟨rfl, rfl⟩)
  go_ret
  exact ⟨rfl, rfl⟩

theorem bit_num (c k : Nat) (hc : c < 256) : ((c : Int) / 2 ^ k % 4294967296 % 2) = ((c / 2 ^ k % 2 : Nat) : Int) := by
  have hq : c / 2 ^ k < 4294967296 := Nat.lt_of_le_of_lt (Nat.div_le_self _ _) (by omega)
  have e1 : ((c : Int) / 2 ^ k) = ((c / 2 ^ k : Nat) : Int) := by simp
  rw [e1]
  generalize c / 2 ^ k = q at hq
  omega
/-- bit i of a text, as the document's own way asks it -/
theorem refbit_any (s : ByteArray) (i : Nat) (hs : s.size ≤ maxLen) (hi : i < 8 * s.size) (hb : i < 9223372036854775808) (w : World) :
    Calls Tryz.prog 135 #[.string s, .int .i64 i] w fun e w' => e = .returned (.int .u32 (bitAt s.data.toList i)) ∧ w = w' := by
  unfold maxLen at hs
  have hlt : i / 8 < s.size := by omega
  have e1 : s.data.toList.getD (i / 8) 0 = s[i / 8] := by
    have h2 : i / 8 < s.data.toList.length := by simpa using hlt
    simp only [List.getD, List.getElem?_eq_getElem h2, Option.getD_some]
    rfl
  have E : Hid (bitAt s.data.toList i = s[i / 8].toNat / 2 ^ (i % 8) % 2) := by show _ = _; unfold bitAt; rw [e1]
  clear e1
  go_enter Tryz.func135, Tryz.ntmps135
  go_wp2_with fail
  go_ret
  refine ⟨?_, rfl⟩
  rw [E.out, ← bit_num s[i / 8].toNat (i % 8) (UInt8.toNat_lt _)]
  rfl

set_option maxHeartbeats 400000 in
theorem refSum_any (s : ByteArray) (hs : s.size ≤ 140737488355328) (w : World) :
    Calls Tryz.prog 96 #[.string s] w fun e w' => e = .returned (.int .u32 (crcN s.data.toList)) ∧ w = w' := by
  have HF : Hid (4294967295 - regCb s.data.toList (8 * s.size) = crcN s.data.toList) := by
    have h := regB_full s.data.toList
    have e : s.data.toList.length = s.size := by simp
    rw [e] at h
    exact h
  have hm : s.size ≤ maxLen := by unfold maxLen; omega
  have HB := Lib.hid (refbit_any s)
  have HM := Lib.hid hm
  clear hm
  go_enter Tryz.func96, Tryz.ntmps96
  go_wp2_with fail
  go_loop [3, 4] (fun x i => ∃ j : Nat, j ≤ 8 * s.size ∧ i = .int .i64 j ∧ x = .int .u32 (regCb s.data.toList j)) (fun _ i => 8 * s.size - (intOf i).toNat)
  case atStart => exact ⟨0, by omega, rfl, rfl⟩
  case round =>
    obtain ⟨j, hj, rfl, rfl⟩ := hrel
    have hl := regB_lt s.data.toList j
    have ht := bitAt_lt s.data.toList j
    by_cases hlt : j < 8 * s.size
    · have hx := bits_xor_u32 (regCb s.data.toList j / 2) 2197175160 (by omega) (by decide)
      have HX : Hid (bits .xor .u32 ((regCb s.data.toList j : Int) / 2) 2197175160 = ((regCb s.data.toList j / 2 ^^^ 2197175160 : Nat) : Int)) := hx
      have E : Hid (regCb s.data.toList (j + 1) = stepN (regCb s.data.toList j) (bitAt s.data.toList j)) := rfl
      have HB1 := Lib.hid (HB.out j HM.out hlt (by omega))
      clear hx
      generalize regCb s.data.toList j = q at hl HX E ⊢
      generalize bitAt s.data.toList j = b at ht E HB1
      by_cases hq : q % 2 = b
      · have hd : ((q : Int) % 2 != (b : Int)) = false := by simp; omega
        have E2 : Hid (regCb s.data.toList (j + 1) = q / 2) := by show _ = _; rw [E.out]; unfold stepN; rw [if_pos hq]
        clear HX E hq
        go_wp2_with (go_at_call 135; refine (HB1.out _).mono ?_; rintro e w' ⟨rfl, rfl⟩)
        go_round
        case rel => exact ⟨j + 1, by omega, by go_num, by rw [E2.out]; rfl⟩
        case measure => simp [intOf]; omega
      · have hd : ((q : Int) % 2 != (b : Int)) = true := by simp; omega
        have E2 : Hid (regCb s.data.toList (j + 1) = q / 2 ^^^ 2197175160) := by show _ = _; rw [E.out]; unfold stepN; rw [if_neg hq]
        clear E hq
        go_wp2_with (go_at_call 135; refine (HB1.out _).mono ?_; rintro e w' ⟨rfl, rfl⟩)
        go_round
        case rel => exact ⟨j + 1, by omega, by go_num, by rw [E2.out, ← HX.out]⟩
        case measure => simp [intOf]; omega
    · obtain rfl : j = 8 * s.size := by omega
      obtain ⟨q, hq⟩ : ∃ q, q = regCb s.data.toList (8 * s.size) := ⟨_, rfl⟩
      rw [← hq] at hl HF ⊢
      clear hq
      go_wp2_with fail
      go_ret
      exact ⟨by rw [← HF.out, show ((4294967295 - q : Nat) : Int) = 4294967295 - (q : Int) from by omega]; rfl, rfl⟩

end Go.Proofs.YtdpmpmaepjgndaaGreat
namespace Go.Proofs.YtdpmpmaepjgndaaGreat
open Go.RowKit

/-- byte i of a check -/
def chkI (n : Nat) (i : Nat) : Int := ((n / 256 ^ i % 256 : Nat) : Int)
/-- the check's bytes when j of them have been laid -/
def chkRow (n j : Nat) : Array Value := #[.int .u8 (if 0 < j then chkI n 0 else 0), .int .u8 (if 1 < j then chkI n 1 else 0), .int .u8 (if 2 < j then chkI n 2 else 0), .int .u8 (if 3 < j then chkI n 3 else 0)]
def chkAgg (n : Nat) : Value := .agg #[.int .u8 (chkI n 0), .int .u8 (chkI n 1), .int .u8 (chkI n 2), .int .u8 (chkI n 3)]

/-- the two blocks of checkOf when j bytes have been laid -/
def ChkAt (w wr : World) (n j : Nat) : Prop :=
  wr.heap[w.heap.size]? = some (.cells (chkRow 0 0) 179 (0, 0)) ∧ wr.heap[w.heap.size + 1]? = some (.cells (chkRow n j) 179 (0, 0)) ∧ Below w.heap.size w wr

theorem chk_start (w : World) (n : Nat) : ChkAt w ((w.alloc (.cells #[.int .u8 0, .int .u8 0, .int .u8 0, .int .u8 0] 179)).alloc (.cells #[.int .u8 0, .int .u8 0, .int .u8 0, .int .u8 0] 179)) n 0 := by
  refine ⟨?_, ?_, ((Below.refl _ _).alloc (Nat.le_refl _) _).alloc (by simp) _⟩
  · rw [heap_alloc_old _ _ (by simp), heap_alloc_new]; rfl
  · have := heap_alloc_new (w.alloc (.cells #[.int .u8 0, .int .u8 0, .int .u8 0, .int .u8 0] 179)) (.cells #[.int .u8 0, .int .u8 0, .int .u8 0, .int .u8 0] 179)
    rw [World.size_alloc] at this
    exact this

theorem chk_set (n j : Nat) (h : j < 4) : (chkRow n j).setIfInBounds j (.int .u8 (chkI n j)) = chkRow n (j + 1) := by
  rcases (by omega : j = 0 ∨ j = 1 ∨ j = 2 ∨ j = 3) with rfl | rfl | rfl | rfl <;> simp [chkRow]
theorem chk_step {w wr : World} {n j : Nat} (h : j < 4) (k : ChkAt w wr n j) : ChkAt w (wr.setCell ⟨w.heap.size + 1, j, none⟩ (.int .u8 (chkI n j))) n (j + 1) := by
  obtain ⟨h1, h2, h3⟩ := k
  refine ⟨?_, ?_, h3.setCell (p := ⟨w.heap.size + 1, j, none⟩) (by simp) _⟩
  · rw [setCell_eq_setRow wr _ j _ _ _ _ h2, setRow_other _ _ _ _ (by omega)]; exact h1
  · rw [setCell_eq_setRow wr _ j _ _ _ _ h2, ← chk_set n j h]; exact setRow_heap wr _ _ _ _ _ h2

theorem shr_byte (n j : Nat) : (n : Int) / 2 ^ (8 * j) % 256 = chkI n j := by
  unfold chkI
  have e : (2 : Nat) ^ (8 * j) = 256 ^ j := by rw [Nat.pow_mul]
  have e1 : ((n : Int) / 2 ^ (8 * j)) = ((n / 2 ^ (8 * j) : Nat) : Int) := by simp
  rw [e1, e]
  omega

set_option maxHeartbeats 400000 in
theorem checkOf_any (s : ByteArray) (hs : s.size ≤ maxLen) (w : World) :
    Calls Tryz.prog 152 #[.string s] w fun e w' => e = .returned (chkAgg (crcN s.data.toList)) ∧ Below w.heap.size w w' := by
  have H := Lib.hid (sum_any s hs)
  have hn := crcN_lt s.data.toList
  generalize crcN s.data.toList = n at H hn ⊢
  clear hs
  go_enter Tryz.func152, Tryz.ntmps152
  go_wp2_with (go_at_call 176; refine (H.out _).mono ?_; rintro e w' ⟨rfl, rfl⟩)
  have H1 := Lib.hid (chk_start w n)
  go_loopw [8] (fun i wr => ∃ j : Nat, j ≤ 4 ∧ i = .int .i64 j ∧ ChkAt w wr n j) (fun i _ => 4 - (intOf i).toNat)
  case atStart => exact ⟨0, Nat.zero_le _, rfl, H1.out⟩
  case round =>
    obtain ⟨j, hj, rfl, hl⟩ := hrel
    by_cases hlt : j < 4
    · have HS := Lib.hid (chk_step hlt hl)
      have hfz : wr.frozen? ⟨w.heap.size + 1, j, none⟩ = false := Lib.frozen_of_heap hl.2.1 j
      obtain ⟨v, hc⟩ : ∃ v, wr.cell? ⟨w.heap.size + 1, j, none⟩ = some v := by
        rw [Lib.cell_of_heap hl.2.1]
        exact ⟨_, Array.getElem?_eq_getElem (by simp [chkRow]; omega)⟩
      have HE := Lib.hid (shr_byte n j)
      clear hl
      go_wp2_with fail
      go_roundw
      case rel => exact ⟨j + 1, by omega, by go_num, by rw [HE.out]; exact HS.out⟩
      case measure => simp [intOf]; omega
    · obtain rfl : j = 4 := by omega
      obtain ⟨h1, h2, h3⟩ := hl
      have c0 : wr.cell? ⟨w.heap.size + 1, 0, none⟩ = some (.int .u8 (chkI n 0)) := by rw [Lib.cell_of_heap h2]; rfl
      have c1 : wr.cell? ⟨w.heap.size + 1, 1, none⟩ = some (.int .u8 (chkI n 1)) := by rw [Lib.cell_of_heap h2]; rfl
      have c2 : wr.cell? ⟨w.heap.size + 1, 2, none⟩ = some (.int .u8 (chkI n 2)) := by rw [Lib.cell_of_heap h2]; rfl
      have c3 : wr.cell? ⟨w.heap.size + 1, 3, none⟩ = some (.int .u8 (chkI n 3)) := by rw [Lib.cell_of_heap h2]; rfl
      have d0 : wr.cell? ⟨w.heap.size, 0, none⟩ = some (.int .u8 0) := by rw [Lib.cell_of_heap h1]; rfl
      have d1 : wr.cell? ⟨w.heap.size, 1, none⟩ = some (.int .u8 0) := by rw [Lib.cell_of_heap h1]; rfl
      have d2 : wr.cell? ⟨w.heap.size, 2, none⟩ = some (.int .u8 0) := by rw [Lib.cell_of_heap h1]; rfl
      have d3 : wr.cell? ⟨w.heap.size, 3, none⟩ = some (.int .u8 0) := by rw [Lib.cell_of_heap h1]; rfl
      have f0 : wr.frozen? ⟨w.heap.size, 0, none⟩ = false := Lib.frozen_of_heap h1 0
      have f1 : wr.frozen? ⟨w.heap.size, 1, none⟩ = false := Lib.frozen_of_heap h1 1
      have f2 : wr.frozen? ⟨w.heap.size, 2, none⟩ = false := Lib.frozen_of_heap h1 2
      have f3 : wr.frozen? ⟨w.heap.size, 3, none⟩ = false := Lib.frozen_of_heap h1 3
      have HB := Lib.hid h3
      clear h1 h2 h3
      go_wp2_with fail
      exact bodyPost_ret (v := chkAgg n) (by simp [results, Tryz.results152, go_sem, d0, d1, d2, d3, chkAgg]) rfl ⟨rfl, (((HB.out.setCell (p := ⟨w.heap.size, 0, none⟩) (Nat.le_refl _) _).setCell (p := ⟨w.heap.size, 1, none⟩) (Nat.le_refl _) _).setCell (p := ⟨w.heap.size, 2, none⟩) (Nat.le_refl _) _).setCell (p := ⟨w.heap.size, 3, none⟩) (Nat.le_refl _) _⟩

end Go.Proofs.YtdpmpmaepjgndaaGreat
namespace Go.Proofs.YtdpmpmaepjgndaaGreat
open Go.RowKit

theorem info_byte : (Tryz.prog.info? 5).map (fun i => (i.zero, i.size, i.bytes)) = some (some (.int .u8 0), 1, 1) := by kernel_rfl
theorem size_byte : (Tryz.prog.info? 5).map (·.size) = some 1 := by kernel_rfl

theorem add_at (b o i : Nat) : (⟨b, o, none⟩ : Addr).add i = ⟨b, o + i, none⟩ := by unfold Addr.add; split <;> simp_all

/-- the four cells of a check -/
def chkCells (n : Nat) : List Value := [.int .u8 (chkI n 0), .int .u8 (chkI n 1), .int .u8 (chkI n 2), .int .u8 (chkI n 3)]
theorem chkCells_eq (n : Nat) : chkCells n = Lib.byteCells (le4 n) := by
  unfold chkCells Lib.byteCells le4 chkI
  simp
theorem chkCells_len (n : Nat) : (chkCells n).length = 4 := rfl

/-- the row that make gives, known whole -/
theorem made_row {w : World} {base g n : Nat} {e : TypeId} (h : w.ownsRow base e 1 (.slice (some ⟨g, 0, none⟩) n n) n (madeCells #[Value.int .u8 0] n).toList) :
    w.heap[g]? = some (.cells (List.replicate n (Value.int .u8 0)).toArray e (0, 0)) := by
  rcases h.2 with ⟨h1, _⟩ | ⟨g', cap, cur, h1, _, h2, h3, _, h4, h5⟩
  · simp at h1
  · simp only [Value.slice.injEq, Option.some.injEq, Addr.mk.injEq, and_true, true_and] at h1
    obtain ⟨rfl, rfl⟩ := h1
    rw [h2]
    rw [toList_madeCells_one, Nat.mul_one] at h5
    have e : cur.toList = List.replicate n (Value.int .u8 0) := by
      rw [← h5]
      exact (List.take_of_length_le (by simp; omega)).symm
    rw [← e]

theorem lay_row1 (n k : Nat) : splice (List.replicate (4 + k) (Value.int .u8 0)) 0 (chkCells n) = chkCells n ++ List.replicate k (Value.int .u8 0) := by
  unfold splice
  rw [chkCells_len]
  simp
theorem lay_row2 (n : Nat) (l : List UInt8) (z : Value) :
    ((chkCells n ++ List.replicate l.length z).toArray.toList.take 4 ++ Lib.byteCells l ++ (chkCells n ++ List.replicate l.length z).toArray.toList.drop (4 + l.length)) = Lib.byteCells (le4 n ++ l) := by
  have h4 := chkCells_len n
  have e1 : (chkCells n ++ List.replicate l.length z).take 4 = chkCells n := by rw [← h4]; exact List.take_left
  have e2 : (chkCells n ++ List.replicate l.length z).drop (4 + l.length) = [] := List.drop_of_length_le (by simp [h4])
  simp only [e1, e2, List.append_nil]
  rw [chkCells_eq]
  simp [Lib.byteCells]

/-- the cells of a row of bytes -/
theorem bytes_cells {w : World} {g : Nat} {e : TypeId} {fz : Nat × Nat} {l : List UInt8} (h : w.heap[g]? = some (.cells (Lib.byteCells l).toArray e fz)) :
    ∀ j (hj : j < l.length), w.cell? ((⟨g, 0, none⟩ : Addr).add j) = some (.int .u8 (l[j].toNat : Int)) := by
  intro j hj
  rw [add_at, Nat.zero_add, Lib.cell_of_heap h]
  simp [Lib.byteCells, List.getElem?_eq_getElem hj]

theorem chk_cells {w : World} {g n : Nat} {e : TypeId} {fz : Nat × Nat} {r : List Value} (h : w.heap[g]? = some (.cells (chkCells n ++ r).toArray e fz)) :
    ∀ j (hj : j < (le4 n).length), w.cell? ((⟨g, 0, none⟩ : Addr).add j) = some (.int .u8 ((le4 n)[j].toNat : Int)) := by
  intro j hj
  rw [add_at, Nat.zero_add, Lib.cell_of_heap h, chkCells_eq]
  rw [List.getElem?_toArray, List.getElem?_append_left (by simpa [Lib.byteCells] using hj)]
  simp [Lib.byteCells, List.getElem?_eq_getElem hj]

/-- 'copy(b, check[:])' -/
theorem copy_chk {w2 : World} {g c n k base : Nat} (K : w2.heap[g]? = some (.cells (List.replicate (4 + k) (Value.int .u8 0)).toArray 5 (0, 0)))
    (C : w2.heap[c]? = some (.cells (chkCells n).toArray 179 (0, 0))) (hbg : base ≤ g) :
    ∃ w3, (Builtin.copy_ #[97, 97] 3 #[.slice (some ⟨g, 0, none⟩) (4 + k) (4 + k), .slice (some ⟨c, 0, none⟩) 4 4]).run Tryz.prog w2 = .ok (.int .i64 4) w3 ∧
      w3.heap[g]? = some (.cells (chkCells n ++ List.replicate k (Value.int .u8 0)).toArray 5 (0, 0)) ∧ Below base w2 w3 := by
  have h := run_copy_row (P := Tryz.prog) w2 97 97 3 5 g 0 (4 + k) (4 + k) ⟨c, 0, none⟩ 4 4 _ 5 (chkCells n) Tryz.underlying97 size_byte K
    (by rw [chkCells_len]; exact (Nat.min_eq_left (by omega)).symm)
    (fun j v hj => by rw [add_at, Nat.zero_add, Lib.cell_of_heap C]; simpa using hj)
    (by rw [chkCells_len]; simp)
    (by intro v hv; simp only [chkCells, List.mem_cons, List.not_mem_nil, or_false] at hv; rcases hv with rfl | rfl | rfl | rfl <;> rfl)
  refine ⟨_, h, ?_, below_setRow (Below.refl _ _) hbg _⟩
  rw [setRow_heap w2 g _ _ _ _ K, ← lay_row1 n k]
  rfl

/-- 'copy(b[4:], s)' -/
theorem copy_str {w3 : World} {g n base : Nat} (s : ByteArray) (K : w3.heap[g]? = some (.cells (chkCells n ++ List.replicate s.size (Value.int .u8 0)).toArray 5 (0, 0))) (hbg : base ≤ g) :
    ∃ w4, (Builtin.copy_ #[97, 9] 3 #[.slice (some ⟨g, 4, none⟩) s.size s.size, .string s]).run Tryz.prog w3 = .ok (.int .i64 s.size) w4 ∧
      w4.heap[g]? = some (.cells (Lib.byteCells (le4 n ++ s.data.toList)).toArray 5 (0, 0)) ∧ Below base w3 w4 := by
  have hl : s.data.toList.length = s.size := by simp
  have h := Lib.run_copy_row_string (P := Tryz.prog) w3 97 9 3 5 g 4 s.size s.size s _ 5 Tryz.underlying97 size_byte K (Nat.le_refl _) (by simp [chkCells_len])
  refine ⟨_, h, ?_, below_setRow (Below.refl _ _) hbg _⟩
  rw [setRow_heap w3 g _ _ _ _ K]
  have e := lay_row2 n s.data.toList (Value.int .u8 0)
  rw [hl] at e
  rw [e]

set_option maxRecDepth 100000 in
set_option maxHeartbeats 400000 in
theorem lay_any (s : ByteArray) (hs : s.size ≤ 140737488355328) (w : World) :
    Calls Tryz.prog 115 #[.string s] w fun e w' => e = .returned (.string ⟨(laidL s.data.toList).toArray⟩) ∧ Below w.heap.size w w' := by
  obtain ⟨i0, hi, hz0, hz1, hz2⟩ := info_parts info_byte
  have H := Lib.hid (checkOf_any s (by unfold maxLen; omega))
  obtain ⟨n, hn⟩ : ∃ n, n = crcN s.data.toList := ⟨_, rfl⟩
  rw [← hn] at H
  have HN := Lib.hid hn
  clear hn
  unfold chkAgg at H
  go_enter Tryz.func115, Tryz.ntmps115
  go_wp2_with fail
  refine (H.out _).mono ?_
  rintro e w1 ⟨rfl, hb1⟩
  go_wp2_with (at_make; refine wpList_make_full _ rfl _ _ _ rfl w.heap.size 5 i0 (.int .u8 0) 1 Tryz.underlying97 hi hz0 hz1 .i64 .i64 _ _ (4 + s.size) rfl rfl (by omega) (by omega) (by rw [hz2]; omega) (by unfold maxLen; omega) (by have := hb1.size; simp; omega) ?_)
  intro w2 hown hgr
  have K := made_row hown
  have C : w2.heap[w1.heap.size]? = some (.cells (chkCells n).toArray 179 (0, 0)) := by
    rw [hgr.block w1.heap.size (by simp) (by simp), heap_alloc_new]
    rfl
  have hB2 : Below w.heap.size w w2 := (hb1.alloc hb1.size _).grown hgr (by have := hb1.size; simp; omega) (by simp)
  have HZ : w.heap.size ≤ w1.heap.size + 1 := by have := hb1.size; omega
  obtain ⟨w3, hr3, K3, hB3⟩ := copy_chk K C HZ
  obtain ⟨w4, hr4, K4, hB4⟩ := copy_str s K3 HZ
  have hcv := run_convert_bytes_back (P := Tryz.prog) w4 97 9 5 ⟨w1.heap.size + 1, 0, none⟩ (4 + s.size) (le4 n ++ s.data.toList) Tryz.underlying97 Tryz.underlying5 Tryz.underlying9 (bytes_cells K4)
  have HB := Lib.hid ((hB2.trans hB3).trans hB4)
  have HB3 := Lib.hid (hB2.trans hB3)
  have hr5 := Lib.run_copy_empty_string (P := Tryz.prog) w3 97 9 3 5 (some ⟨w1.heap.size + 1, 0, none⟩) 0 0 ByteArray.empty Tryz.underlying97 (by rw [size_byte]; rfl) rfl
  have hcv3 := run_convert_bytes_back (P := Tryz.prog) w3 97 9 5 ⟨w1.heap.size + 1, 0, none⟩ 4 (le4 n) Tryz.underlying97 Tryz.underlying5 Tryz.underlying9 (chk_cells K3)
  rw [le4_len] at hcv3
  rw [show (le4 n ++ s.data.toList).length = 4 + s.size from by simp [le4_len]] at hcv
  clear hown hgr hi hz0 hz1 hz2 hb1 K C hB2 K3 hB3 K4 hB4
  go_wp2_with fail
  · go_ret
    exact ⟨by unfold laidL; rw [← HN.out, h, show ByteArray.empty.data.toList = [] from rfl, List.append_nil]; rfl, HB3.out⟩
  · go_ret
    exact ⟨by unfold laidL; rw [← HN.out]; rfl, HB.out⟩

theorem bytes_append (a : List UInt8) (s : ByteArray) : (⟨(a ++ s.data.toList).toArray⟩ : ByteArray) = ⟨a.toArray⟩ ++ s := by
  apply ByteArray.ext
  simp
/-- the four bytes, as the document's own way divides them out -/
theorem le4_nums (n : Nat) (h : n < 4294967296) : strOfNums [(n : Int) % 256, (n : Int) / 256 % 256, (n : Int) / 65536 % 256, (n : Int) / 16777216] = ⟨(le4 n).toArray⟩ := by
  unfold strOfNums le4
  simp only [List.map_cons, List.map_nil]
  have e0 : ((n : Int) % 256).toNat = n % 256 := by omega
  have e1 : ((n : Int) / 256 % 256).toNat = n / 256 % 256 := by omega
  have e2 : ((n : Int) / 65536 % 256).toNat = n / 65536 % 256 := by omega
  have e3 : ((n : Int) / 16777216).toNat = n / 16777216 % 256 := by omega
  rw [e0, e1, e2, e3]

set_option maxHeartbeats 400000 in
theorem refLay_any (s : ByteArray) (hs : s.size ≤ 140737488355328) (w : World) :
    Calls Tryz.prog 51 #[.string s] w fun e w' => e = .returned (.string ⟨(laidL s.data.toList).toArray⟩) ∧ Below w.heap.size w w' := by
  have H := Lib.hid (refSum_any s hs)
  obtain ⟨n, hn⟩ : ∃ n, n = crcN s.data.toList := ⟨_, rfl⟩
  have hlt := crcN_lt s.data.toList
  rw [← hn] at H hlt
  have HN := Lib.hid hn
  clear hn
  have hcv := run_convert_bytes_arg (P := Tryz.prog) (w.alloc (.cells #[.int .u8 ((n : Int) % 256), .int .u8 ((n : Int) / 256 % 256), .int .u8 ((n : Int) / 65536 % 256), .int .u8 ((n : Int) / 16777216)] 5)) 97 5 Tryz.underlying97 Tryz.underlying5 w.heap.size 0 4 4 [(n : Int) % 256, (n : Int) / 256 % 256, (n : Int) / 65536 % 256, (n : Int) / 16777216] rfl
    (by intro i hi; rcases (by omega : i = 0 ∨ i = 1 ∨ i = 2 ∨ i = 3) with rfl | rfl | rfl | rfl <;> simp) 9 Tryz.underlying9
  rw [le4_nums n hlt] at hcv
  have hz : (ByteArray.mk (le4 n).toArray).size ≤ 4 := by show (le4 n).toArray.size ≤ 4; simp [le4_len]
  go_enter Tryz.func51, Tryz.ntmps51
  go_wp2_with (go_at_call 96; refine (H.out _).mono ?_; rintro e w' ⟨rfl, rfl⟩)
  go_ret
  exact ⟨by unfold laidL; rw [← HN.out, bytes_append]; rfl, (Below.refl _ _).alloc (Nat.le_refl _) _⟩

end Go.Proofs.YtdpmpmaepjgndaaGreat
