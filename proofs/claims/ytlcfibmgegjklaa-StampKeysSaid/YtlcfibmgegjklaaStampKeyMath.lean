/- A stamp's key: plain mathematics. -/
import Derived.Test.YtlcfibmgegjklaaStampLaws2
import Derived.Test.YtlcfibmgegjklaaPackByteMath
namespace Go.Proofs.Ytlcfibmgegjklaa
open Go.RowKit

/-- a time's bits -/
def bitsI (x : Nat) : Int := if x < 9223372036854775808 then (x : Int) + 9223372036854775808 else 18446744073709551615 - (x : Int)
/-- the other way -/
def timeN (n : Int) : Nat := if n < 9223372036854775808 then (18446744073709551615 - n).toNat else (n - 9223372036854775808).toNat

theorem bitsI_bd (x : Nat) (h : x < 18446744073709551616) : 0 ≤ bitsI x ∧ bitsI x ≤ 18446744073709551615 := by unfold bitsI; split <;> omega
theorem timeN_bd (n : Int) (h : 0 ≤ n) (h2 : n ≤ 18446744073709551615) : timeN n < 18446744073709551616 := by unfold timeN; split <;> omega
theorem time_bits (x : Nat) (h : x < 18446744073709551616) : timeN (bitsI x) = x := by unfold timeN bitsI; split <;> split <;> omega
theorem bits_time (n : Int) (h : 0 ≤ n) (h2 : n ≤ 18446744073709551615) : bitsI (timeN n) = n := by unfold timeN bitsI; split <;> split <;> omega

theorem ford_lo (x : Nat) (h : x < 9223372036854775808) : ford x = (x : Int) := by
  unfold ford sgn rung
  have e : x / 9223372036854775808 % 2 = 0 := by omega
  have e2 : x % 9223372036854775808 = x := by omega
  rw [e, e2]; rfl
theorem ford_hi (x : Nat) (h : 9223372036854775808 ≤ x) (h2 : x < 18446744073709551616) : ford x = 9223372036854775808 - (x : Int) := by
  unfold ford sgn rung
  have e : x / 9223372036854775808 % 2 = 1 := by omega
  rw [e]
  simp only [beq_self_eq_true, if_true]
  omega
theorem sgn_lo (x : Nat) (h : x < 9223372036854775808) : sgn x = false := by
  unfold sgn
  have e : x / 9223372036854775808 % 2 = 0 := by omega
  rw [e]; rfl
theorem sgn_hi (x : Nat) (h : 9223372036854775808 ≤ x) (h2 : x < 18446744073709551616) : sgn x = true := by
  unfold sgn
  have e : x / 9223372036854775808 % 2 = 1 := by omega
  rw [e]; rfl

/-- what 'Norm' gives of a number -/
def normT (x : Nat) : Nat := if ford x = 0 then 0 else x
theorem normSpec_num (x : Nat) (h : isNum x) : normSpec x = (normT x, 0) := by
  unfold normSpec normT; rw [if_pos h]; split <;> rfl
theorem normSpec_nan (x : Nat) (h : ¬ isNum x) : normSpec x = (0, 7) := by unfold normSpec; rw [if_neg h]
theorem normT_bd (x : Nat) (h : x < 18446744073709551616) : normT x < 18446744073709551616 := by unfold normT; split <;> omega
theorem normT_ford (x : Nat) : ford (normT x) = ford x := by unfold normT; split; rw [ford_zero]; omega; rfl
theorem normT_num (x : Nat) (h : isNum x) : isNum (normT x) := by unfold normT; split; exact isNum_zero; exact h
/-- times as they are kept: bits in their order -/
theorem bits_ford (x : Nat) (h : x < 18446744073709551616) : bitsI (normT x) = if 0 ≤ ford x then ford x + 9223372036854775808 else ford x + 9223372036854775807 := by
  unfold normT
  by_cases c : x < 9223372036854775808
  · rw [ford_lo x c]
    split
    · rename_i e; rw [if_pos (by omega)]; unfold bitsI; rw [if_pos (by omega)]; omega
    · rw [if_pos (by omega)]; unfold bitsI; rw [if_pos c]
  · rw [ford_hi x (by omega) h]
    split
    · rename_i e; rw [if_pos (by omega)]; unfold bitsI; rw [if_pos (by omega)]; omega
    · rw [if_neg (by omega)]; unfold bitsI; rw [if_neg c]; omega

/-- is it a time as it is kept? -/
def isKept (x : Nat) : Prop := isNum x ∧ (ford x ≠ 0 ∨ sgn x = false)
instance (x : Nat) : Decidable (isKept x) := by unfold isKept; exact inferInstance
theorem kept_iff (x : Nat) (h : x < 18446744073709551616) (hn : isNum x) : isKept x ↔ normT x = x := by
  unfold isKept normT
  by_cases c : x < 9223372036854775808
  · rw [ford_lo x c, sgn_lo x c]
    constructor
    · intro _; split <;> omega
    · intro _; exact ⟨hn, .inr rfl⟩
  · rw [ford_hi x (by omega) h, sgn_hi x (by omega) h]
    constructor
    · rintro ⟨_, k | k⟩
      · rw [if_neg k]
      · cases k
    · intro k
      refine ⟨hn, .inl ?_⟩
      intro e
      rw [if_pos e] at k
      omega

/-- the three parts of a key -/
def keyNums (t : Nat) (src n : Int) : List Int := beI 8 (bitsI t) ++ beI 8 (flip63 src) ++ beI 8 (flip63 n)
def keySpec (s : Stp) : ByteArray × Int := if isNum s.t then (strOfNums (keyNums (normT s.t) s.src s.n), 0) else (⟨#[]⟩, 7)

theorem keyNums_len (t : Nat) (src n : Int) : (keyNums t src n).length = 24 := by unfold keyNums; simp [beI_len]
theorem key_size (t : Nat) (src n : Int) : (strOfNums (keyNums t src n)).size = 24 := by rw [strOfNums_size, keyNums_len]

/-- what any bytes are, read as a stamp -/
def readSpec (s : ByteArray) (a : Int) : Stp × Int × Int :=
  if a < 0 ∨ (s.size : Int) < a then (⟨0, 0, 0⟩, 0, 3)
  else if (s.size : Int) - a < 24 then (⟨0, 0, 0⟩, 0, 5)
  else if isKept (timeN (rdI s a.toNat 8)) then (⟨timeN (rdI s a.toNat 8), unflip63 (rdI s (a.toNat + 8) 8), unflip63 (rdI s (a.toNat + 16) 8)⟩, a + 24, 0)
  else (⟨0, 0, 0⟩, 0, 7)

theorem rdI8_nonneg (s : ByteArray) (a : Nat) : 0 ≤ rdI s a 8 := (rdI_bd s a 8).1

/-- the bytes that stand at a place are the key of what is read there -/
theorem key_there (s : ByteArray) (a : Nat) (h : a + 24 ≤ s.size) : strOfNums (keyNums (timeN (rdI s a 8)) (unflip63 (rdI s (a + 8) 8)) (unflip63 (rdI s (a + 16) 8))) = s.extract a (a + 24) := by
  rw [extract_nums s a 24 h]
  unfold keyNums
  rw [bits_time _ (rdI8_nonneg s a) (rdI8_bd s a), flip_unflip _ (rdI8_nonneg s _) (rdI8_bd s _), flip_unflip _ (rdI8_nonneg s _) (rdI8_bd s _), beI_rdI, beI_rdI, beI_rdI]
  rw [show (24 : Nat) = 8 + 8 + 8 from rfl, numsAt_add, numsAt_add]

theorem strOfNums_inj {xs ys : List Int} (hx : ∀ x ∈ xs, 0 ≤ x ∧ x ≤ 255) (hy : ∀ x ∈ ys, 0 ≤ x ∧ x ≤ 255) (h : strOfNums xs = strOfNums ys) : xs = ys := by
  have hl : xs.map toU8 = ys.map toU8 := by rw [← strOfNums_toList, ← strOfNums_toList, h]
  clear h
  induction xs generalizing ys with
  | nil => cases ys with
    | nil => rfl
    | cons _ _ => simp at hl
  | cons x xs ih => cases ys with
    | nil => simp at hl
    | cons y ys =>
      simp only [List.map_cons, List.cons.injEq] at hl
      have bx := hx x (by simp)
      have by' := hy y (by simp)
      have e := (toU8_eq x y bx.1 (by omega) by'.1 (by omega)).1 hl.1
      rw [e, ih (fun z hz => hx z (by simp [hz])) (fun z hz => hy z (by simp [hz])) hl.2]

theorem keyNums_mem (t : Nat) (src n : Int) : ∀ x ∈ keyNums t src n, 0 ≤ x ∧ x ≤ 255 := by
  intro x hx
  unfold keyNums at hx
  simp only [List.mem_append] at hx
  rcases hx with (h | h) | h
  · exact beI_mem _ _ _ h
  · exact beI_mem _ _ _ h
  · exact beI_mem _ _ _ h

/-- unlike times have unlike keys -/
theorem key_time {t u : Nat} {a b c d : Int} (ht : t < 18446744073709551616) (hu : u < 18446744073709551616) (h : strOfNums (keyNums t a b) = strOfNums (keyNums u c d)) : t = u := by
  have e := strOfNums_inj (keyNums_mem t a b) (keyNums_mem u c d) h
  unfold keyNums at e
  rw [List.append_assoc, List.append_assoc] at e
  have e2 := (List.append_inj e (by rw [beI_len, beI_len])).1
  have b1 := bitsI_bd t ht
  have b2 := bitsI_bd u hu
  have p : (256 : Int) ^ 8 = 18446744073709551616 := by decide
  have e3 := beI_inj 8 _ _ b1.1 (by rw [p]; omega) b2.1 (by rw [p]; omega) e2
  rw [← time_bits t ht, ← time_bits u hu, e3]

end Go.Proofs.Ytlcfibmgegjklaa
