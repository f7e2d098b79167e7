/- The page table as payloads: parts of it, there and back. Plain mathematics. -/
import Derived.Test.YtaaagmcdbmppmaaYRtMath
namespace Go.Proofs.Ytaaagmcdbmppmaa
open Go.RowKit
set_option linter.unusedVariables false
set_option linter.unusedSimpArgs false
set_option maxRecDepth 100000

/-- a physical page; below 0: none -/
def clampP (x : Int) : Int := if x < 0 then -1 else x
theorem clampP_max (x : Int) : clampP x = max x (-1) := by unfold clampP; split <;> omega
/-- a part of a table -/
def partT (l : List Int) (p : Nat) : List Int := (l.drop (116 * p)).take 116
theorem partT_len (l : List Int) (p : Nat) : (partT l p).length = min 116 (l.length - 116 * p) := by unfold partT; rw [List.length_take, List.length_drop]
theorem partT_at (l : List Int) (p i : Nat) (h : i < (partT l p).length) : (partT l p)[i] = l[116 * p + i]'(by rw [partT_len] at h; omega) := by
  have : ∀ (h2 : i < ((l.drop (116 * p)).take 116).length), ((l.drop (116 * p)).take 116)[i] = l[116 * p + i]'(by rw [partT_len] at h; omega) := fun h2 => by rw [List.getElem_take, List.getElem_drop]
  exact this h
def partE (l : List Int) (p : Int) : Int := if p < 0 ∨ needR (l.length : Int) ≤ p then 3 else if ∃ x ∈ partT l p.toNat, 1023 < x then 2 else 0
def partS (l : List Int) (p : Nat) : ByteArray := strOfNums (twosL ((partT l p).map fun x => clampP x + 1))
theorem partS_size (l : List Int) (p : Nat) : (partS l p).size = 2 * (partT l p).length := by unfold partS; rw [strOfNums_size, twosL_len, List.length_map]
/-- the i-th number of a payload -/
def numP (s : ByteArray) (i : Nat) : Int := byD s (2 * i) * 256 + byD s (2 * i + 1)
theorem numP_bd (s : ByteArray) (i : Nat) : 0 ≤ numP s i ∧ numP s i ≤ 65535 := by
  have := byD_bd s (2 * i)
  have := byD_bd s (2 * i + 1)
  unfold numP; omega
def tellL (s : ByteArray) (m : Nat) : List Int := (List.range m).map fun i => numP s i - 1
theorem tellL_len (s : ByteArray) (m : Nat) : (tellL s m).length = m := by simp [tellL]
def tellE (s : ByteArray) (m : Int) : Int := if m < 0 ∨ 116 < m then 2 else if (s.size : Int) < 2 * m then 5 else if ∃ i, i < m.toNat ∧ 1024 < numP s i then 14 else 0
theorem numP_part {l : List Int} {p i : Nat} (h : i < (partT l p).length) (hx : ∀ x ∈ partT l p, x ≤ 1023) : numP (partS l p) i = clampP (partT l p)[i] + 1 := by
  have hl : i < ((partT l p).map fun x => clampP x + 1).length := by rw [List.length_map]; exact h
  obtain ⟨e1, e2⟩ := twosL_at _ i hl
  have hlen : (twosL ((partT l p).map fun x => clampP x + 1)).length = 2 * (partT l p).length := by rw [twosL_len, List.length_map]
  unfold numP partS
  rw [byD_nums _ (twosL_bd _) _ (by omega), byD_nums _ (twosL_bd _) _ (by omega)]
  rw [List.getD_eq_getElem?_getD, List.getElem?_eq_getElem (by omega)] at e1 e2
  simp only [Option.getD_some] at e1 e2
  rw [e1, e2, List.getElem_map]
  have hb := hx _ (List.getElem_mem h)
  have hc : -1 ≤ clampP (partT l p)[i] ∧ clampP (partT l p)[i] ≤ 1023 := by unfold clampP; split <;> omega
  omega
/-- a part goes there and back -/
theorem part_back {l : List Int} {p : Nat} (hx : ∀ x ∈ partT l p, x ≤ 1023) : tellE (partS l p) ((partT l p).length : Int) = 0 ∧ tellL (partS l p) (partT l p).length = (partT l p).map clampP := by
  have hlen := partT_len l p
  have hs := partS_size l p
  constructor
  · unfold tellE
    rw [if_neg (by omega), if_neg (by omega), if_neg]
    rintro ⟨i, hi, hgt⟩
    have hi2 : i < (partT l p).length := by omega
    rw [numP_part hi2 hx] at hgt
    have hb := hx _ (List.getElem_mem hi2)
    have hc : clampP (partT l p)[i] ≤ 1023 := by unfold clampP; split <;> omega
    omega
  · apply List.ext_getElem (by rw [tellL_len, List.length_map])
    intro i h1' h2
    have h1 : i < (partT l p).length := by rw [tellL_len] at h1'; exact h1'
    have e : ∀ (h3 : i < ((List.range (partT l p).length).map fun i => numP (partS l p) i - 1).length), ((List.range (partT l p).length).map fun i => numP (partS l p) i - 1)[i] = numP (partS l p) i - 1 := fun h3 => by rw [List.getElem_map, List.getElem_range]
    rw [show (tellL (partS l p) (partT l p).length)[i] = numP (partS l p) i - 1 from e h1', List.getElem_map, numP_part h1 hx]
    omega
/-- the parts ahead of the k-th, one behind the other -/
theorem parts_all (l : List Int) : ∀ k : Nat, (l.take (116 * k)).map clampP ++ (partT l k).map clampP = (l.take (116 * (k + 1))).map clampP := fun k => by
  rw [← List.map_append]
  congr 1
  unfold partT
  rw [show 116 * (k + 1) = 116 * k + 116 by omega, List.take_add]
theorem need_all {n : Nat} : (n : Int) ≤ 116 * needR (n : Int) ∧ (∀ k : Nat, (k : Int) < needR (n : Int) → 116 * k < n) := by
  unfold needR
  constructor
  · split <;> omega
  · intro k hk
    split at hk <;> omega

end Go.Proofs.Ytaaagmcdbmppmaa
