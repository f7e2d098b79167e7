/- One bit turned: the mathematics of CrcBits. -/
import Derived.Test.YtifoeolklmlbnaaCrcLaws2
namespace Go.Proofs.Ytifoeolklmlbnaa
open Go.RowKit

theorem oneBit_xor (c j : Nat) : OneBit j c (c ^^^ 2 ^ j) := by
  refine ⟨?_, fun i hi => ?_⟩
  · rw [← Nat.toNat_testBit, ← Nat.toNat_testBit, Nat.testBit_xor, Nat.testBit_two_pow_self]
    cases Nat.testBit c j <;> simp
  · rw [← Nat.toNat_testBit, ← Nat.toNat_testBit, Nat.testBit_xor, Nat.testBit_two_pow_of_ne (fun e => hi e.symm), Bool.xor_false]

theorem set_split (l : List UInt8) (i : Nat) (d : UInt8) (hi : i < l.length) : l.set i d = l.take i ++ d :: l.drop (i + 1) := by
  rw [List.set_eq_take_append_cons_drop, if_pos hi]
theorem self_split (l : List UInt8) (i : Nat) (hi : i < l.length) : l = l.take i ++ l[i] :: l.drop (i + 1) := by
  rw [List.getElem_cons_drop, List.take_append_drop]

/-- bytes of which one bit is turned have another check -/
theorem crc_set (l : List UInt8) (i j : Nat) (d : UInt8) (hi : i < l.length) (hj : j < 8) (hd : d.toNat = l[i].toNat ^^^ 2 ^ j) : crcN (l.set i d) ≠ crcN l := by
  have h := crcN_diff (l.take i) l[i] d (l.drop (i + 1)) hj (by rw [hd]; exact oneBit_xor _ _)
  rw [← set_split l i d hi, ← self_split l i hi] at h
  exact fun e => h e.symm
theorem turned_ne {c d : UInt8} {j : Nat} (hd : d.toNat = c.toNat ^^^ 2 ^ j) : d ≠ c := by
  intro e
  have h := (oneBit_xor c.toNat j).1
  rw [← hd, e] at h
  exact h rfl

theorem laid_len (l : List UInt8) : (laidL l).length = 4 + l.length := by simp [laidL, le4_len]
theorem laid_drop (l : List UInt8) : (laidL l).drop 4 = l := by unfold laidL; rw [← le4_len (crcN l)]; exact List.drop_left
theorem laid_take (l : List UInt8) : (laidL l).take 4 = le4 (crcN l) := by unfold laidL; rw [← le4_len (crcN l)]; exact List.take_left
theorem laid_at (l : List UInt8) (i : Nat) (hi : i < l.length) : (laidL l)[4 + i]'(by rw [laid_len]; omega) = l[i] := by
  unfold laidL
  rw [List.getElem_append_right (by rw [le4_len]; omega)]
  simp [le4_len]
theorem set_drop (l : List UInt8) (i : Nat) (d : UInt8) (h : 4 ≤ i) : ((laidL l).set i d).drop 4 = l.set (i - 4) d := by
  rw [List.drop_set, if_neg (by omega), laid_drop]

/-- laid ones, wherever the bit is, are found -/
theorem cut_turned (l : List UInt8) (i j : Nat) (d : UInt8) (hi : i < (laidL l).length) (hj : j < 8) (hd : d.toNat = (laidL l)[i].toNat ^^^ 2 ^ j) :
    cutSpec ⟨((laidL l).set i d).toArray⟩ = (⟨#[]⟩, 14) := by
  have hl := laid_len l
  refine cutSpec_bad _ (by show 4 ≤ ((laidL l).set i d).toArray.size; simp; omega) ?_
  show (laidL l).set i d ≠ laidL (((laidL l).set i d).drop 4)
  intro e
  by_cases h : i < 4
  · rw [List.drop_set, if_pos h, laid_drop] at e
    have h2 : ((laidL l).set i d)[i]? = (laidL l)[i]? := by rw [e]
    rw [List.getElem?_set_self hi, List.getElem?_eq_getElem hi] at h2
    exact turned_ne hd (Option.some.inj h2)
  · rw [set_drop l i d (by omega)] at e
    have h2 := congrArg (List.take 4) e
    rw [List.take_set_of_le (by omega), laid_take, laid_take] at h2
    have h3 := le4_inj (crcN_lt _) (crcN_lt _) h2
    have hi2 : i - 4 < l.length := by omega
    refine crc_set l (i - 4) j d hi2 hj ?_ h3.symm
    rw [hd]
    have h4 := laid_at l (i - 4) hi2
    have h5 : (laidL l)[4 + (i - 4)]'(by omega) = (laidL l)[i] := by congr 1; omega
    rw [← h4, h5]

theorem bits_xor_u8 (x y : Nat) (hx : x < 256) (hy : y < 256) : bits .xor .u8 (x : Int) (y : Int) = ((x ^^^ y : Nat) : Int) := by
  have h := Nat.xor_lt_two_pow (n := 8) hx hy
  show IntKind.u8.wrap (((BitVec.ofInt 8 (x : Int) ^^^ BitVec.ofInt 8 (y : Int)).toNat : Nat) : Int) = _
  rw [BitVec.toNat_xor, BitVec.toNat_ofInt, BitVec.toNat_ofInt]
  have ex : ((x : Int) % ((2 ^ 8 : Nat) : Int)).toNat = x := by omega
  have ey : ((y : Int) % ((2 ^ 8 : Nat) : Int)).toNat = y := by omega
  rw [ex, ey]
  generalize x ^^^ y = z at h
  unfold IntKind.wrap; simp [IntKind.bits, IntKind.signed]; omega

end Go.Proofs.Ytifoeolklmlbnaa
