/- A map of pages: each free, in use, fresh or leaving; what calls do to it, what is kept. Plain mathematics. -/
import Derived.WalkKit
namespace Go.Proofs.Ytbjmdejnipleoaa
set_option linter.unusedVariables false
set_option linter.unusedSimpArgs false

def fupd (K : Nat → Nat) (i k : Nat) : Nat → Nat := fun j => if j = i then k else K j
theorem fupd_at (K : Nat → Nat) (i k : Nat) : fupd K i k i = k := by simp [fupd]
theorem fupd_else (K : Nat → Nat) (i k j : Nat) (h : j ≠ i) : fupd K i k j = K j := by simp [fupd, h]
/-- the first free one of the first n; n: there is none -/
def firstN (K : Nat → Nat) : Nat → Nat
  | 0 => 0
  | n + 1 => if firstN K n < n then firstN K n else if K n = 0 then n else n + 1
theorem firstN_le (K : Nat → Nat) (n : Nat) : firstN K n ≤ n := by
  induction n with
  | zero => exact Nat.le_refl _
  | succ n ih =>
    simp only [firstN]
    split
    · omega
    · split <;> omega
theorem firstN_some {K : Nat → Nat} {n : Nat} (h : firstN K n < n) : K (firstN K n) = 0 := by
  induction n with
  | zero => omega
  | succ n ih =>
    simp only [firstN] at h ⊢
    by_cases c : firstN K n < n
    · rw [if_pos c]; exact ih c
    · rw [if_neg c] at h ⊢
      by_cases e : K n = 0
      · rw [if_pos e]; exact e
      · rw [if_neg e] at h; omega
theorem firstN_ahead {K : Nat → Nat} {n : Nat} : ∀ j, j < firstN K n → K j ≠ 0 := by
  induction n with
  | zero => intro j hj; simp [firstN] at hj
  | succ n ih =>
    intro j hj
    simp only [firstN] at hj
    by_cases c : firstN K n < n
    · rw [if_pos c] at hj; exact ih j hj
    · rw [if_neg c] at hj
      have hn : firstN K n = n := by have := firstN_le K n; omega
      by_cases e : K n = 0
      · rw [if_pos e] at hj; exact ih j (by omega)
      · rw [if_neg e] at hj
        by_cases e2 : j = n
        · rw [e2]; exact e
        · exact ih j (by omega)
/-- none is free ahead of i, i is: it is the first -/
theorem firstN_of {K : Nat → Nat} {n i : Nat} (h : i < n) (h0 : K i = 0) (ha : ∀ j, j < i → K j ≠ 0) : firstN K n = i := by
  rcases Nat.lt_trichotomy (firstN K n) i with c | c | c
  · exact absurd (firstN_some (by omega)) (ha _ c)
  · exact c
  · exact absurd h0 (firstN_ahead i c)
theorem firstN_none {K : Nat → Nat} {n : Nat} (ha : ∀ j, j < n → K j ≠ 0) : firstN K n = n := by
  have h := firstN_le K n
  rcases Nat.lt_or_ge (firstN K n) n with c | c
  · exact absurd (firstN_some c) (ha _ c)
  · omega
def turnF (K : Nat → Nat) (fresh leaving : Nat) : Nat → Nat := fun i => if K i = 2 then fresh else if K i = 3 then leaving else K i
def inF (n : Nat) (i : Int) : Prop := 0 ≤ i ∧ i < (n : Int)
instance (n : Nat) (i : Int) : Decidable (inF n i) := by unfold inF; infer_instance
def useE (n : Nat) (K : Nat → Nat) (i : Int) : Int := if inF n i then (if K i.toNat = 0 then 0 else 10) else 3
def useF (n : Nat) (K : Nat → Nat) (i : Int) : Nat → Nat := if inF n i then (if K i.toNat = 0 then fupd K i.toNat 1 else K) else K
def takeE (n : Nat) (K : Nat → Nat) : Int := if firstN K n < n then 0 else 11
def takeI (n : Nat) (K : Nat → Nat) : Int := if firstN K n < n then (firstN K n : Int) else 0
def takeF (n : Nat) (K : Nat → Nat) : Nat → Nat := if firstN K n < n then fupd K (firstN K n) 2 else K
def leaveE (n : Nat) (K : Nat → Nat) (i : Int) : Int := if inF n i then (if K i.toNat = 1 ∨ K i.toNat = 2 then 0 else 9) else 3
def leaveF (n : Nat) (K : Nat → Nat) (i : Int) : Nat → Nat := if inF n i then (if K i.toNat = 1 then fupd K i.toNat 3 else if K i.toNat = 2 then fupd K i.toNat 0 else K) else K
/-- each is one of four -/
def FourF (K : Nat → Nat) : Prop := ∀ i, K i < 4
theorem FourF.upd {K : Nat → Nat} (h : FourF K) (i : Nat) {k : Nat} (hk : k < 4) : FourF (fupd K i k) := fun j => by
  unfold fupd; split
  · exact hk
  · exact h j
theorem FourF.use {n : Nat} {K : Nat → Nat} (h : FourF K) (i : Int) : FourF (useF n K i) := by
  unfold useF; split
  · split
    · exact h.upd _ (by omega)
    · exact h
  · exact h
theorem FourF.take {n : Nat} {K : Nat → Nat} (h : FourF K) : FourF (takeF n K) := by
  unfold takeF; split
  · exact h.upd _ (by omega)
  · exact h
theorem FourF.leave {n : Nat} {K : Nat → Nat} (h : FourF K) (i : Int) : FourF (leaveF n K i) := by
  unfold leaveF; split
  · split
    · exact h.upd _ (by omega)
    · split
      · exact h.upd _ (by omega)
      · exact h
  · exact h
theorem FourF.turn {K : Nat → Nat} (h : FourF K) {a b : Nat} (ha : a < 4) (hb : b < 4) : FourF (turnF K a b) := fun i => by
  unfold turnF; split
  · exact ha
  · split
    · exact hb
    · exact h i

/-! ### those of a kind, rising -/
def listF (K : Nat → Nat) (k : Nat) : Nat → List Nat
  | 0 => []
  | n + 1 => listF K k n ++ (if K n = k then [n] else [])
def cntF (K : Nat → Nat) (k n : Nat) : Nat := (listF K k n).length
theorem cntF_succ (K : Nat → Nat) (k n : Nat) : cntF K k (n + 1) = cntF K k n + (if K n = k then 1 else 0) := by
  unfold cntF; simp only [listF, List.length_append]; split <;> rfl
theorem cntF_le (K : Nat → Nat) (k n : Nat) : cntF K k n ≤ n := by
  induction n with
  | zero => exact Nat.le_refl _
  | succ n ih => rw [cntF_succ]; split <;> omega
theorem mem_listF {K : Nat → Nat} {k n i : Nat} : i ∈ listF K k n ↔ i < n ∧ K i = k := by
  induction n with
  | zero => simp [listF]
  | succ n ih =>
    simp only [listF, List.mem_append, ih]
    by_cases c : K n = k
    · rw [if_pos c]
      simp only [List.mem_singleton]
      constructor
      · rintro (⟨a, b⟩ | rfl)
        · exact ⟨by omega, b⟩
        · exact ⟨by omega, c⟩
      · rintro ⟨a, b⟩
        by_cases e : i = n
        · exact .inr e
        · exact .inl ⟨by omega, b⟩
    · rw [if_neg c]
      simp only [List.not_mem_nil, or_false]
      constructor
      · rintro ⟨a, b⟩; exact ⟨by omega, b⟩
      · rintro ⟨a, b⟩
        refine ⟨?_, b⟩
        have : i ≠ n := by rintro rfl; exact c b
        omega
theorem listF_ext {K K2 : Nat → Nat} {k n : Nat} (h : ∀ i, i < n → (K i = k ↔ K2 i = k)) : listF K k n = listF K2 k n := by
  induction n with
  | zero => rfl
  | succ n ih =>
    simp only [listF]
    rw [ih fun i hi => h i (by omega)]
    have := h n (by omega)
    by_cases c : K n = k
    · rw [if_pos c, if_pos (this.1 c)]
    · rw [if_neg c, if_neg (fun e => c (this.2 e))]
theorem listF_nil {K : Nat → Nat} {k n : Nat} (h : ∀ i, i < n → K i ≠ k) : listF K k n = [] := by
  induction n with
  | zero => rfl
  | succ n ih => simp only [listF]; rw [ih fun i hi => h i (by omega), if_neg (h n (by omega))]; rfl
theorem listF_pair (K : Nat → Nat) (k n : Nat) : (listF K k n).Pairwise (· < ·) := by
  induction n with
  | zero => exact List.Pairwise.nil
  | succ n ih =>
    simp only [listF]
    refine List.pairwise_append.2 ⟨ih, ?_, fun a ha b hb => ?_⟩
    · split
      · exact List.pairwise_singleton _ _
      · exact List.Pairwise.nil
    · have h1 := (mem_listF.1 ha).1
      split at hb
      · rw [List.mem_singleton] at hb; omega
      · exact absurd hb List.not_mem_nil
/-- how often i stands among those of kind k: once, or never -/
theorem count_listF (K : Nat → Nat) (k n i : Nat) : (listF K k n).count i = if i < n ∧ K i = k then 1 else 0 := by
  induction n with
  | zero => simp [listF]
  | succ n ih =>
    simp only [listF, List.count_append, ih]
    by_cases e : i = n
    · subst e
      rw [if_neg (by omega)]
      by_cases c : K i = k
      · rw [if_pos c, if_pos ⟨by omega, c⟩]; simp
      · rw [if_neg c, if_neg (fun h => c h.2)]; rfl
    · have h0 : (if K n = k then [n] else []).count i = 0 := by
        split
        · exact List.count_eq_zero.2 (by simp [e])
        · rfl
      rw [h0, Nat.add_zero]
      by_cases c : i < n ∧ K i = k
      · rw [if_pos c, if_pos ⟨by omega, c.2⟩]
      · rw [if_neg c, if_neg (fun h => c ⟨by omega, h.2⟩)]

/-! ### what was committed -/
/-- since the commit that left K0 -/
structure SinceF (n : Nat) (K0 K : Nat → Nat) : Prop where
  used : ∀ i, i < n → K0 i = 1 → K i = 1 ∨ K i = 3
  free : ∀ i, i < n → K0 i = 0 → K i = 0 ∨ K i = 2
theorem SinceF.refl (n : Nat) (K : Nat → Nat) : SinceF n K K := ⟨fun _ _ h => .inl h, fun _ _ h => .inl h⟩
theorem SinceF.take {n : Nat} {K0 K : Nat → Nat} (h : SinceF n K0 K) (h0 : ∀ i, i < n → K0 i = 0 ∨ K0 i = 1) : SinceF n K0 (takeF n K) := by
  unfold takeF
  split
  · rename_i c
    have hz := firstN_some c
    refine ⟨fun i hi hu => ?_, fun i hi hf => ?_⟩
    · have : i ≠ firstN K n := by
        rintro rfl
        rcases h.used _ hi hu with e | e <;> omega
      rw [fupd_else _ _ _ _ this]
      exact h.used i hi hu
    · by_cases e : i = firstN K n
      · rw [e, fupd_at]; exact .inr rfl
      · rw [fupd_else _ _ _ _ e]; exact h.free i hi hf
  · exact h
theorem SinceF.leave {n : Nat} {K0 K : Nat → Nat} (h : SinceF n K0 K) (h0 : ∀ i, i < n → K0 i = 0 ∨ K0 i = 1) (i : Int) : SinceF n K0 (leaveF n K i) := by
  unfold leaveF
  split
  · split
    · rename_i hin c
      refine ⟨fun j hj hu => ?_, fun j hj hf => ?_⟩
      · by_cases e : j = i.toNat
        · rw [e, fupd_at]; exact .inr rfl
        · rw [fupd_else _ _ _ _ e]; exact h.used j hj hu
      · have : j ≠ i.toNat := by
          rintro rfl
          rcases h.free _ hj hf with e | e <;> omega
        rw [fupd_else _ _ _ _ this]; exact h.free j hj hf
    · split
      · rename_i hin c1 c
        refine ⟨fun j hj hu => ?_, fun j hj hf => ?_⟩
        · have : j ≠ i.toNat := by
            rintro rfl
            rcases h.used _ hj hu with e | e <;> omega
          rw [fupd_else _ _ _ _ this]; exact h.used j hj hu
        · by_cases e : j = i.toNat
          · rw [e, fupd_at]; exact .inl rfl
          · rw [fupd_else _ _ _ _ e]; exact h.free j hj hf
      · exact h
  · exact h
theorem SinceF.abort {n : Nat} {K0 K : Nat → Nat} (h : SinceF n K0 K) (h0 : ∀ i, i < n → K0 i = 0 ∨ K0 i = 1) : ∀ i, i < n → turnF K 0 1 i = K0 i := fun i hi => by
  unfold turnF
  rcases h0 i hi with e | e
  · rcases h.free i hi e with c | c
    · rw [if_neg (by omega), if_neg (by omega), c, e]
    · rw [if_pos c, e]
  · rcases h.used i hi e with c | c
    · rw [if_neg (by omega), if_neg (by omega), c, e]
    · rw [if_neg (by omega), if_pos c, e]
theorem SinceF.turn {n : Nat} {K0 K : Nat → Nat} (h : SinceF n K0 K) (h0 : ∀ i, i < n → K0 i = 0 ∨ K0 i = 1) : SinceF n K0 (turnF K 0 1) :=
  ⟨fun i hi e => .inl ((h.abort h0 i hi).trans e), fun i hi e => .inl ((h.abort h0 i hi).trans e)⟩
/-- what is taken was not in use -/
theorem SinceF.taken {n : Nat} {K0 K : Nat → Nat} (h : SinceF n K0 K) (hc : firstN K n < n) : K0 (firstN K n) ≠ 1 := fun e => by
  have := firstN_some hc
  rcases h.used _ hc e with c | c <;> omega
theorem commit_two {K : Nat → Nat} (h : FourF K) (i : Nat) : turnF K 1 0 i = 0 ∨ turnF K 1 0 i = 1 := by
  have := h i
  unfold turnF
  split
  · exact .inr rfl
  · split
    · exact .inl rfl
    · omega

end Go.Proofs.Ytbjmdejnipleoaa
