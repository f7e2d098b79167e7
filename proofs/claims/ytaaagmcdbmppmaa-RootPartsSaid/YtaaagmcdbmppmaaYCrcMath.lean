/- The plain mathematics of layer 3 (crc): the check's register as a number, bit by bit. No Go, no program. -/
import Derived.WalkKit
import Derived.WalkSpells
namespace Go.Proofs.Ytaaagmcdbmppmaa
open Go.RowKit

/-- the register behind one more bit -/
def stepN (r b : Nat) : Nat := if r % 2 = b then r / 2 else (r / 2) ^^^ 2197175160
/-- the register behind the lowest k bits of a byte -/
def regN (r c : Nat) : Nat → Nat
  | 0 => r
  | k + 1 => stepN (regN r c k) (c / 2 ^ k % 2)
/-- the register behind bytes -/
def regL (r : Nat) : List UInt8 → Nat
  | [] => r
  | c :: l => regL (regN r c.toNat 8) l
/-- the check of bytes, as Sum tells it -/
def crcN (l : List UInt8) : Nat := 4294967295 - regL 4294967295 l

theorem step_lt {r b : Nat} (h : r < 4294967296) : stepN r b < 4294967296 := by
  unfold stepN
  split
  · omega
  · exact Nat.xor_lt_two_pow (n := 32) (by omega) (by decide)
theorem reg_lt {r c : Nat} (h : r < 4294967296) (k : Nat) : regN r c k < 4294967296 := by
  induction k with
  | zero => exact h
  | succ k ih => exact step_lt ih
theorem regL_lt {r : Nat} (l : List UInt8) (h : r < 4294967296) : regL r l < 4294967296 := by
  induction l generalizing r with
  | nil => exact h
  | cons c l ih => exact ih (reg_lt h 8)
theorem crcN_lt (l : List UInt8) : crcN l < 4294967296 := by unfold crcN; omega

theorem regL_append (r : Nat) (a b : List UInt8) : regL r (a ++ b) = regL (regL r a) b := by
  induction a generalizing r with
  | nil => rfl
  | cons c l ih => exact ih _

/-- the polynomial's highest bit tells whether it was xored -/
theorem step_top {r : Nat} (b : Nat) (h : r < 4294967296) : stepN r b / 2147483648 = if r % 2 = b then 0 else 1 := by
  unfold stepN
  split
  · omega
  · have e := Nat.xor_div_two_pow (a := r / 2) (b := 2197175160) (n := 31)
    rw [show (2 : Nat) ^ 31 = 2147483648 from by decide] at e
    rw [e, show r / 2 / 2147483648 = 0 from by omega]
    decide
theorem xor_cancel {a b c : Nat} (h : a ^^^ c = b ^^^ c) : a = b := by
  have := congrArg (· ^^^ c) h
  simpa [Nat.xor_assoc] using this
/-- unlike registers stay unlike -/
theorem step_inj {r q b : Nat} (hr : r < 4294967296) (hq : q < 4294967296) (hb : b < 2) (h : stepN r b = stepN q b) : r = q := by
  have t1 := step_top b hr
  have t2 := step_top b hq
  rw [h] at t1
  rw [t1] at t2
  by_cases c1 : r % 2 = b <;> by_cases c2 : q % 2 = b
  · unfold stepN at h
    rw [if_pos c1, if_pos c2] at h
    omega
  · rw [if_pos c1, if_neg c2] at t2; omega
  · rw [if_neg c1, if_pos c2] at t2; omega
  · unfold stepN at h
    rw [if_neg c1, if_neg c2] at h
    have := xor_cancel h
    omega
/-- unlike bits make unlike registers -/
theorem step_bit {r a b : Nat} (hr : r < 4294967296) (ha : a < 2) (hb : b < 2) (h : stepN r a = stepN r b) : a = b := by
  have t1 := step_top a hr
  have t2 := step_top b hr
  rw [h] at t1
  rw [t1] at t2
  by_cases c1 : r % 2 = a <;> by_cases c2 : r % 2 = b
  · omega
  · rw [if_pos c1, if_neg c2] at t2; omega
  · rw [if_neg c1, if_pos c2] at t2; omega
  · omega

theorem reg_inj {r q c : Nat} (hr : r < 4294967296) (hq : q < 4294967296) (k : Nat) (h : regN r c k = regN q c k) : r = q := by
  induction k with
  | zero => exact h
  | succ k ih => exact ih (step_inj (reg_lt hr k) (reg_lt hq k) (Nat.mod_lt _ (by decide)) h)
theorem regL_inj {r q : Nat} (l : List UInt8) (hr : r < 4294967296) (hq : q < 4294967296) (h : regL r l = regL q l) : r = q := by
  induction l generalizing r q with
  | nil => exact h
  | cons c l ih =>
    have h1 := reg_lt (c := c.toNat) hr 8
    have h2 := reg_lt (c := c.toNat) hq 8
    exact reg_inj hr hq 8 (ih h1 h2 h)

/-- two bytes that differ in the bit k alone -/
def OneBit (k c d : Nat) : Prop := c / 2 ^ k % 2 ≠ d / 2 ^ k % 2 ∧ ∀ j, j ≠ k → c / 2 ^ j % 2 = d / 2 ^ j % 2
theorem reg_same {r c d k : Nat} (h : OneBit k c d) (j : Nat) (hj : j ≤ k) : regN r c j = regN r d j := by
  induction j with
  | zero => rfl
  | succ j ih => simp only [regN]; rw [ih (by omega), h.2 j (by omega)]
theorem reg_diff {r c d k : Nat} (hr : r < 4294967296) (h : OneBit k c d) (j : Nat) (hj : k < j) : regN r c j ≠ regN r d j := by
  induction j with
  | zero => omega
  | succ j ih =>
    simp only [regN]
    intro e
    by_cases hk : k = j
    · subst hk
      rw [reg_same h k (Nat.le_refl _)] at e
      exact h.1 (step_bit (reg_lt hr k) (Nat.mod_lt _ (by decide)) (Nat.mod_lt _ (by decide)) e)
    · rw [h.2 j (by omega)] at e
      exact ih (by omega) (step_inj (reg_lt hr j) (reg_lt hr j) (Nat.mod_lt _ (by decide)) e)
/-- one bit that is turned is found -/
theorem regL_diff {r k : Nat} (a : List UInt8) (c d : UInt8) (b : List UInt8) (hr : r < 4294967296) (hk : k < 8) (h : OneBit k c.toNat d.toNat) : regL r (a ++ c :: b) ≠ regL r (a ++ d :: b) := by
  rw [regL_append, regL_append]
  show regL (regN (regL r a) c.toNat 8) b ≠ regL (regN (regL r a) d.toNat 8) b
  intro e
  have hl := regL_lt a hr
  have h1 := reg_lt (c := c.toNat) hl 8
  have h2 := reg_lt (c := d.toNat) hl 8
  have h3 := reg_diff hl h 8 hk
  generalize regN (regL r a) c.toNat 8 = x at h1 h3 e
  generalize regN (regL r a) d.toNat 8 = y at h2 h3 e
  exact h3 (regL_inj b h1 h2 e)
theorem crcN_diff {k : Nat} (a : List UInt8) (c d : UInt8) (b : List UInt8) (hk : k < 8) (h : OneBit k c.toNat d.toNat) : crcN (a ++ c :: b) ≠ crcN (a ++ d :: b) := by
  intro e
  have h1 := regL_diff (r := 4294967295) a c d b (by omega) hk h
  have h2 := regL_lt (r := 4294967295) (a ++ c :: b) (by omega)
  have h3 := regL_lt (r := 4294967295) (a ++ d :: b) (by omega)
  unfold crcN at e
  generalize regL 4294967295 (a ++ c :: b) = x at h1 h2 e
  generalize regL 4294967295 (a ++ d :: b) = y at h1 h3 e
  omega

/-- a number's four bytes, the lowest first -/
def le4 (n : Nat) : List UInt8 := [UInt8.ofNat (n % 256), UInt8.ofNat (n / 256 % 256), UInt8.ofNat (n / 65536 % 256), UInt8.ofNat (n / 16777216 % 256)]
theorem le4_len (n : Nat) : (le4 n).length = 4 := rfl
theorem ofNat_mod (n : Nat) : (UInt8.ofNat (n % 256)).toNat = n % 256 := by simp
theorem le4_inj {m n : Nat} (hm : m < 4294967296) (hn : n < 4294967296) (h : le4 m = le4 n) : m = n := by
  unfold le4 at h
  simp only [List.cons.injEq, and_true] at h
  obtain ⟨h0, h1, h2, h3⟩ := h
  have e0 := congrArg UInt8.toNat h0
  have e1 := congrArg UInt8.toNat h1
  have e2 := congrArg UInt8.toNat h2
  have e3 := congrArg UInt8.toNat h3
  rw [ofNat_mod, ofNat_mod] at e0 e1 e2 e3
  omega
/-- bytes with their check ahead -/
def laidL (l : List UInt8) : List UInt8 := le4 (crcN l) ++ l

/-- the register at bit i of a text, as the document's own way goes -/
def bitAt (l : List UInt8) (i : Nat) : Nat := (l.getD (i / 8) 0).toNat / 2 ^ (i % 8) % 2
def regCb (l : List UInt8) : Nat → Nat
  | 0 => 4294967295
  | i + 1 => stepN (regCb l i) (bitAt l i)
theorem regB_lt (l : List UInt8) (i : Nat) : regCb l i < 4294967296 := by
  induction i with
  | zero => simp [regCb]
  | succ i ih => exact step_lt ih
theorem bitAt_lt (l : List UInt8) (i : Nat) : bitAt l i < 2 := Nat.mod_lt _ (by decide)
theorem regB_byte (l : List UInt8) (j k : Nat) (hk : k ≤ 8) : regCb l (8 * j + k) = regN (regCb l (8 * j)) (l.getD j 0).toNat k := by
  induction k with
  | zero => rfl
  | succ k ih =>
    show stepN (regCb l (8 * j + k)) (bitAt l (8 * j + k)) = stepN _ _
    rw [ih (by omega)]
    unfold bitAt
    rw [show (8 * j + k) / 8 = j from by omega, show (8 * j + k) % 8 = k from by omega]
theorem regL_snoc (r : Nat) (l : List UInt8) (j : Nat) (h : j < l.length) : regL r (l.take (j + 1)) = regN (regL r (l.take j)) l[j].toNat 8 := by
  rw [List.take_succ_eq_append_getElem h, regL_append]; rfl
theorem regB_take (l : List UInt8) (j : Nat) (hj : j ≤ l.length) : regCb l (8 * j) = regL 4294967295 (l.take j) := by
  induction j with
  | zero => rfl
  | succ j ih =>
    rw [show 8 * (j + 1) = 8 * j + 8 from by omega, regB_byte l j 8 (Nat.le_refl _), ih (by omega)]
    rw [regL_snoc _ _ j (by omega)]
    have e : l.getD j 0 = l[j] := by simp [List.getD, List.getElem?_eq_getElem (show j < l.length by omega)]
    rw [e]
theorem regB_full (l : List UInt8) : 4294967295 - regCb l (8 * l.length) = crcN l := by
  rw [regB_take l _ (Nat.le_refl _), List.take_length]; rfl

end Go.Proofs.Ytaaagmcdbmppmaa
