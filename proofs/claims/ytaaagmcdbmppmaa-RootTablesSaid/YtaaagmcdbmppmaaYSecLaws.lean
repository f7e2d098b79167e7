/- What any crash may leave of a disk's sectors. Plain mathematics. -/
import Derived.Test.YtaaagmcdbmppmaaYSecMath
namespace Go.Proofs.Ytaaagmcdbmppmaa
open Go.RowKit
set_option maxRecDepth 100000

theorem looseN_mono (is : Nat → Bool) {i j : Nat} (h : i ≤ j) : looseN is i ≤ looseN is j := by
  induction j with
  | zero => obtain rfl : i = 0 := by omega
            exact Nat.le_refl _
  | succ j ih =>
    by_cases e : i = j + 1
    · rw [e]; exact Nat.le_refl _
    · exact Nat.le_trans (ih (by omega)) (by simp only [looseN]; omega)
theorem looseN_lt {is : Nat → Bool} {i j : Nat} (h : i < j) (hi : is i = true) : looseN is i < looseN is j := by
  have := looseN_mono is (show i + 1 ≤ j by omega)
  simp only [looseN, hi, if_true] at this
  omega
/-- loose sectors have unlike numbers -/
theorem looseN_inj {is : Nat → Bool} {i j : Nat} (hi : is i = true) (hj : is j = true) (h : looseN is i = looseN is j) : i = j := by
  rcases Nat.lt_trichotomy i j with a | a | a
  · have := looseN_lt a hi; omega
  · exact a
  · have := looseN_lt a hj; omega
/-- a sector that was safe is as it was -/
theorem crash_safe {d : Dk} {keep : List Bool} {t b : Int} {i : Nat} (h : d.is i = false) : crashF d keep t b i = d.sf i := by simp [crashF, h]
/-- a loose one is new, or old, or it is the one that is torn -/
theorem crash_loose {d : Dk} {keep : List Bool} {t b : Int} {i : Nat} (h : d.is i = true) : sec (crashF d keep t b i) = sec (d.nw i) ∨ sec (crashF d keep t b i) = sec (d.sf i) ∨ (looseN d.is i : Int) = t := by
  unfold crashF
  rw [if_pos h]
  by_cases e : (looseN d.is i : Int) = t
  · exact Or.inr (Or.inr e)
  · unfold keepN
    rw [if_neg e]
    split
    · refine Or.inl (sec_ext fun j hj => ?_)
      unfold tornF; rw [if_pos hj]
    · refine Or.inr (Or.inl (sec_ext fun j hj => ?_))
      unfold tornF; rw [if_neg (by omega)]
theorem crash_some {d : Dk} {keep : List Bool} {t b : Int} {i : Nat} (h : d.is i = true) : ∃ k, k ≤ 64 ∧ crashF d keep t b i = tornF k (d.nw i) (d.sf i) := by
  unfold crashF; rw [if_pos h]
  exact ⟨_, keepN_le keep t b _, rfl⟩
/-- behind the first byte that is not new all bytes are old -/
theorem torn_rest {k m : Nat} {f g : Nat → Int} (h : tornF k f g m ≠ f m) : ∀ j, m ≤ j → tornF k f g j = g j := by
  intro j hj
  have : ¬ m < k := by
    intro hm
    apply h
    unfold tornF; rw [if_pos hm]
  unfold tornF; rw [if_neg (by omega)]
/-- how many of the first n are neither new nor old -/
def tornN (p : Nat → Bool) : Nat → Nat
  | 0 => 0
  | n + 1 => tornN p n + (if p n then 1 else 0)
theorem tornN_none {p : Nat → Bool} {n : Nat} (h : ∀ i, i < n → p i = false) : tornN p n = 0 := by
  induction n with
  | zero => rfl
  | succ n ih => simp only [tornN]; rw [ih fun i hi => h i (by omega), h n (by omega)]; rfl
theorem tornN_one {p : Nat → Bool} (h : ∀ i j, p i = true → p j = true → i = j) (n : Nat) : tornN p n ≤ 1 := by
  induction n with
  | zero => exact Nat.zero_le _
  | succ n ih =>
    simp only [tornN]
    by_cases e : p n = true
    · rw [tornN_none (p := p) (n := n), if_pos e]
      · omega
      · intro i hi
        cases c : p i with
        | false => rfl
        | true => have := h i n c e; omega
    · rw [if_neg e]; omega
def tornP (d : Dk) (keep : List Bool) (t b : Int) (i : Nat) : Bool := d.is i && !(decide (sec (crashF d keep t b i) = sec (d.sf i)) || decide (sec (crashF d keep t b i) = sec (d.nw i)))
theorem torn_one (d : Dk) (keep : List Bool) (t b : Int) (n : Nat) : tornN (tornP d keep t b) n ≤ 1 := by
  refine tornN_one (fun i j hi hj => ?_) n
  have key : ∀ k, tornP d keep t b k = true → d.is k = true ∧ (looseN d.is k : Int) = t := by
    intro k hk
    simp only [tornP, Bool.and_eq_true, Bool.not_eq_true', Bool.or_eq_false_iff, decide_eq_false_iff_not] at hk
    refine ⟨hk.1, ?_⟩
    rcases crash_loose (keep := keep) (t := t) (b := b) hk.1 with h | h | h
    · exact absurd h hk.2.2
    · exact absurd h hk.2.1
    · exact h
  obtain ⟨a1, a2⟩ := key i hi
  obtain ⟨b1, b2⟩ := key j hj
  exact looseN_inj a1 b1 (by omega)
/-- the bytes from the first one on that is not new are old -/
theorem torn_tail {k m : Nat} {f g : Nat → Int} (hf : SecF f) (hg : SecF g) (hm : m < 64) (h : tornF k f g m ≠ f m) : (sec (tornF k f g)).extract m 64 = (sec g).extract m 64 := by
  have s1 : ∀ u : Nat → Int, ((sec u).extract m 64).size = 64 - m := fun u => by rw [ByteArray.size_extract, sec_size]; omega
  apply byD_ext (by rw [s1, s1])
  intro j hj
  rw [s1] at hj
  rw [byD_cut _ _ _ _ (by omega), byD_cut _ _ _ _ (by omega), byD_sec (torn_sec hf hg) (by omega), byD_sec hg (by omega)]
  exact torn_rest h _ (by omega)
/-- an image's bytes as sectors -/
def imgF (s : ByteArray) (i : Nat) : Nat → Int := fun j => byD s (64 * i + j)
theorem img_sec (s : ByteArray) (i : Nat) : SecF (imgF s i) := fun _ _ => byD_bd s _
/-- the first k sectors, one behind the other -/
def allF (f : Nat → Nat → Int) : Nat → ByteArray
  | 0 => ByteArray.empty
  | k + 1 => allF f k ++ sec (f k)
theorem allF_size (f : Nat → Nat → Int) (k : Nat) : (allF f k).size = 64 * k := by
  induction k with
  | zero => rfl
  | succ k ih => simp only [allF]; rw [ByteArray.size_append, ih, sec_size]; omega
theorem byD_all {f : Nat → Nat → Int} (h : ∀ i, SecF (f i)) : ∀ (k j : Nat), j < 64 * k → byD (allF f k) j = f (j / 64) (j % 64)
  | 0, j, hj => by omega
  | k + 1, j, hj => by
    simp only [allF]
    rw [byD_app, allF_size]
    split
    · rename_i c; exact byD_all h k j c
    · rename_i c
      rw [byD_sec (h k) (by omega), show j / 64 = k by omega, show j % 64 = j - 64 * k by omega]
theorem all_img (s : ByteArray) (k : Nat) (h : s.size ≤ 64 * k) : (allF (imgF s) k).extract 0 s.size = s := by
  have e : ((allF (imgF s) k).extract 0 s.size).size = s.size := by rw [ByteArray.size_extract, allF_size]; omega
  apply byD_ext e
  intro j hj
  rw [e] at hj
  rw [byD_cut _ _ _ _ (by omega), Nat.zero_add, byD_all (img_sec s) k j (by omega)]
  unfold imgF
  congr 1; omega
theorem all_zero (s : ByteArray) (k j : Nat) (h : s.size ≤ j) (hj : j < 64 * k) : byD (allF (imgF s) k) j = 0 := by
  rw [byD_all (img_sec s) k j hj]
  unfold imgF
  exact byD_out (by omega)

end Go.Proofs.Ytaaagmcdbmppmaa
