/- A few logical pages in frames: what a pool's calls do. Plain mathematics. What the program's pool does, where it parts from the document's own (if all frames are held, nothing changes); and what every call of a pool keeps. Plain mathematics. -/
import Derived.Test.YtmflkkkbahghgaaGreatYZ1
namespace Go.Proofs.YtmflkkkbahghgaaGreat
open Go.RowKit
set_option linter.unusedVariables false
set_option linter.unusedSimpArgs false
set_option maxRecDepth 100000

/-- a frame: its page (below 0: none), its payload, how often it is held, dirty, used -/
structure Frm where
  pg : Int
  b : ByteArray
  held : Nat
  di : Bool
  us : Bool
def noF : Frm := ⟨-1, ByteArray.empty, 0, false, false⟩
def frA (f : List Frm) (i : Nat) : Frm := f.getD i noF
theorem frA_in {f : List Frm} {i : Nat} (h : i < f.length) : frA f i = f[i] := by
  unfold frA
  rw [List.getD_eq_getElem?_getD, List.getElem?_eq_getElem h]
  rfl
theorem frA_out {f : List Frm} {i : Nat} (h : f.length ≤ i) : frA f i = noF := by
  unfold frA
  rw [List.getD_eq_getElem?_getD, List.getElem?_eq_none h]
  rfl
theorem frA_set (f : List Frm) (i : Nat) (x : Frm) (k : Nat) : frA (f.set i x) k = if k = i ∧ i < f.length then x else frA f k := by
  unfold frA
  rw [List.getD_eq_getElem?_getD, List.getD_eq_getElem?_getD, List.getElem?_set]
  by_cases c : i = k
  · subst c
    rw [if_pos rfl]
    by_cases h : i < f.length
    · rw [if_pos h, if_pos ⟨rfl, h⟩]; rfl
    · rw [if_neg h, if_neg (fun e => h e.2), List.getElem?_eq_none (by omega)]
  · rw [if_neg c, if_neg (fun e => c e.1.symm)]
theorem frA_ext {f g : List Frm} (hl : f.length = g.length) (h : ∀ i, i < f.length → frA f i = frA g i) : f = g := by
  apply List.ext_getElem hl
  intro i h1 h2
  have := h i h1
  rwa [frA_in h1, frA_in h2] at this
/-- the least one below n of which it is so; n: of none -/
def lstP (p : Nat → Bool) : Nat → Nat
  | 0 => 0
  | n + 1 => if lstP p n < n then lstP p n else if p n then n else n + 1
theorem lstP_le (p : Nat → Bool) (n : Nat) : lstP p n ≤ n := by
  induction n with
  | zero => exact Nat.le_refl _
  | succ n ih => simp only [lstP]; split
                 · omega
                 · split <;> omega
theorem lstP_ahead {p : Nat → Bool} {n : Nat} : ∀ j, j < lstP p n → p j = false := by
  induction n with
  | zero => intro j hj; simp [lstP] at hj
  | succ n ih =>
    intro j hj
    simp only [lstP] at hj
    by_cases c : lstP p n < n
    · rw [if_pos c] at hj; exact ih j hj
    · rw [if_neg c] at hj
      have hn : lstP p n = n := by have := lstP_le p n; omega
      by_cases e : p n = true
      · rw [if_pos e] at hj; exact ih j (by omega)
      · rw [if_neg e] at hj
        by_cases e2 : j = n
        · subst e2; simpa using e
        · exact ih j (by omega)
theorem lstP_at {p : Nat → Bool} {n : Nat} (h : lstP p n < n) : p (lstP p n) = true := by
  induction n with
  | zero => omega
  | succ n ih =>
    simp only [lstP] at h ⊢
    by_cases c : lstP p n < n
    · rw [if_pos c]; exact ih c
    · rw [if_neg c] at h ⊢
      by_cases e : p n = true
      · rw [if_pos e]; exact e
      · rw [if_neg e] at h; omega
theorem lstP_of {p : Nat → Bool} {n i : Nat} (h : i ≤ n) (hn : i = n ∨ p i = true) (ha : ∀ j, j < i → p j = false) : lstP p n = i := by
  have h1 := lstP_le p n
  rcases Nat.lt_trichotomy (lstP p n) i with c | c | c
  · have := lstP_at (p := p) (n := n) (by omega)
    rw [ha _ c] at this
    cases this
  · exact c
  · rcases hn with rfl | hn
    · omega
    · rw [lstP_ahead i c] at hn; cases hn
def hasF (f : List Frm) (l : Int) (i : Nat) : Bool := (frA f i).pg == l
/-- the frame that has a page; behind the last one: none has -/
def fndF (f : List Frm) (l : Int) : Nat := if 0 ≤ l then lstP (hasF f l) f.length else f.length
def emptyF (f : List Frm) (i : Nat) : Bool := decide ((frA f i).pg < 0)
def heldB (f : List Frm) (i : Nat) : Bool := decide (0 < (frA f i).held)
def heldF (f : List Frm) : Nat := cntB (heldB f) f.length
theorem fndF_le (f : List Frm) (l : Int) : fndF f l ≤ f.length := by
  unfold fndF
  split
  · exact lstP_le _ _
  · exact Nat.le_refl _
theorem fndF_has {f : List Frm} {l : Int} (h : fndF f l < f.length) : 0 ≤ l ∧ (frA f (fndF f l)).pg = l := by
  unfold fndF at h ⊢
  by_cases c : 0 ≤ l
  · rw [if_pos c] at h ⊢
    have := lstP_at h
    exact ⟨c, by simpa [hasF] using this⟩
  · rw [if_neg c] at h; omega
theorem fndF_no {f : List Frm} {l : Int} (h : fndF f l = f.length) (hl : 0 ≤ l) {i : Nat} (hi : i < f.length) : (frA f i).pg ≠ l := by
  unfold fndF at h
  rw [if_pos hl] at h
  have := lstP_ahead (p := hasF f l) (n := f.length) i (by omega)
  simpa [hasF] using this

/-- a pool: its store, its frames, its hand -/
structure Plt where
  x : Stt
  f : List Frm
  hand : Nat
/-- the frame i is written, if it is dirty -/
def bakE (p : Plt) (i : Nat) : Int := if (frA p.f i).di then putWE p.x (frA p.f i).pg (frA p.f i).b else 0
def bakP (p : Plt) (i : Nat) : Plt := if (frA p.f i).di then { p with x := putWX p.x (frA p.f i).pg (frA p.f i).b, f := if putWE p.x (frA p.f i).pg (frA p.f i).b = 0 then p.f.set i { frA p.f i with di := false } else p.f } else p
/-- the hand goes round, at most k frames -/
def vicN (n : Nat) : Nat → List Frm → Nat → List Frm × Nat × Nat
  | 0, f, h => (f, h, n)
  | k + 1, f, h =>
    if (frA f h).held = 0 ∧ (frA f h).us = false then (f, (h + 1) % n, h)
    else vicN n k (if (frA f h).held = 0 then f.set h { frA f h with us := false } else f) ((h + 1) % n)
def vicP (p : Plt) : Plt × Nat :=
  if lstP (emptyF p.f) p.f.length < p.f.length then (p, lstP (emptyF p.f) p.f.length)
  else ({ p with f := (vicN p.f.length (2 * p.f.length + 1) p.f p.hand).1, hand := (vicN p.f.length (2 * p.f.length + 1) p.f p.hand).2.1 }, (vicN p.f.length (2 * p.f.length + 1) p.f p.hand).2.2)
/-- what comes when no frame has the page, and it is there -/
def newR (p : Plt) (l : Int) (b : ByteArray) : Plt × ByteArray × Int :=
  if (vicP p).2 < p.f.length then
    if bakE (vicP p).1 (vicP p).2 = 0 then ({ bakP (vicP p).1 (vicP p).2 with f := (bakP (vicP p).1 (vicP p).2).f.set (vicP p).2 ⟨l, b, 1, false, true⟩ }, b, 0)
    else (bakP (vicP p).1 (vicP p).2, ByteArray.empty, bakE (vicP p).1 (vicP p).2)
  else ((vicP p).1, ByteArray.empty, 12)
def holR (p : Plt) (l : Int) : Plt × ByteArray × Int :=
  if fndF p.f l < p.f.length then ({ p with f := p.f.set (fndF p.f l) { frA p.f (fndF p.f l) with held := (frA p.f (fndF p.f l)).held + 1, us := true } }, (frA p.f (fndF p.f l)).b, 0)
  else if inS p.x.now l then newR p l (slA p.x.now l.toNat).b
  else (p, ByteArray.empty, 3)
def pinE (p : Plt) (l : Int) : Int := if fndF p.f l < p.f.length ∧ 0 < (frA p.f (fndF p.f l)).held then 0 else 16
def letP (p : Plt) (l : Int) : Plt := if pinE p l = 0 then { p with f := p.f.set (fndF p.f l) { frA p.f (fndF p.f l) with held := (frA p.f (fndF p.f l)).held - 1 } } else p
def setE (p : Plt) (l : Int) (s : ByteArray) : Int := if 232 < s.size then 4 else pinE p l
def setP (p : Plt) (l : Int) (s : ByteArray) : Plt := if setE p l s = 0 then { p with f := p.f.set (fndF p.f l) { frA p.f (fndF p.f l) with b := fullP s, di := true, us := true } } else p
def getR (p : Plt) (l : Int) : Plt × ByteArray × Int := if (holR p l).2.2 = 0 then (letP (holR p l).1 l, (holR p l).2.1, 0) else holR p l
def putE15 (p : Plt) (l : Int) (s : ByteArray) : Int := if 232 < s.size then 4 else (holR p l).2.2
def putP (p : Plt) (l : Int) (s : ByteArray) : Plt := if 232 < s.size then p else if (holR p l).2.2 = 0 then letP (setP (holR p l).1 l s) l else (holR p l).1
def drpE (p : Plt) (l : Int) : Int := if pinE p l = 0 then 16 else dropSE p.x l
def drpP (p : Plt) (l : Int) : Plt := if drpE p l = 0 then { p with x := dropSX p.x l, f := if fndF p.f l < p.f.length then p.f.set (fndF p.f l) noF else p.f } else p
def evcE (p : Plt) (i : Int) : Int := if i < 0 ∨ (p.f.length : Int) ≤ i then 3 else if (frA p.f i.toNat).pg < 0 then 0 else if 0 < (frA p.f i.toNat).held then 16 else bakE p i.toNat
def evcP (p : Plt) (i : Int) : Plt := if i < 0 ∨ (p.f.length : Int) ≤ i then p else if (frA p.f i.toNat).pg < 0 then p else if 0 < (frA p.f i.toNat).held then p else if bakE p i.toNat = 0 then { bakP p i.toNat with f := (bakP p i.toNat).f.set i.toNat noF } else bakP p i.toNat
/-- the frames from i on are written, k of them -/
def basP : Nat → Nat → Plt → Plt × Int
  | 0, i, p => (p, 0)
  | k + 1, i, p => if bakE p i = 0 then basP k (i + 1) (bakP p i) else (bakP p i, bakE p i)
def cmtE (p : Plt) : Int := if 0 < heldF p.f then 16 else if (basP p.f.length 0 p).2 = 0 then comSE (basP p.f.length 0 p).1.x else (basP p.f.length 0 p).2
def cmtP (p : Plt) : Plt := if 0 < heldF p.f then p else if (basP p.f.length 0 p).2 = 0 then { (basP p.f.length 0 p).1 with x := comSX (basP p.f.length 0 p).1.x } else (basP p.f.length 0 p).1
def aboP (p : Plt) : Plt := { p with x := aboSX p.x, f := List.replicate p.f.length noF }
def nwpP (p : Plt) (s : ByteArray) : Plt := { p with x := newX p.x s }
/-- a call -/
def do15 (p : Plt) (kind l : Int) (s : ByteArray) : Plt :=
  if kind = 0 ∨ kind = 1 then nwpP p s else if kind = 2 then (holR p l).1 else if kind = 3 then letP p l else if kind = 4 then setP p l s
  else if kind = 5 ∨ kind = 6 ∨ kind = 7 then (getR p l).1 else if kind = 11 then drpP p l else if kind = 12 then evcP p l else if kind = 13 then cmtP p else if kind = 14 then aboP p else putP p l s

/-! ### what stays: how many frames there are, and what is held -/
theorem bakP_len (p : Plt) (i : Nat) : (bakP p i).f.length = p.f.length := by
  unfold bakP
  split
  · dsimp only
    split
    · rw [List.length_set]
    · rfl
  · rfl
theorem bakP_hand (p : Plt) (i : Nat) : (bakP p i).hand = p.hand := by
  unfold bakP
  split <;> rfl
theorem bakP_at (p : Plt) (i k : Nat) : (frA (bakP p i).f k).pg = (frA p.f k).pg ∧ (frA (bakP p i).f k).held = (frA p.f k).held ∧ (frA (bakP p i).f k).b = (frA p.f k).b ∧ (frA (bakP p i).f k).us = (frA p.f k).us := by
  unfold bakP
  split
  · dsimp only
    split
    · rw [frA_set]
      split
      · next h => rw [h.1]; exact ⟨rfl, rfl, rfl, rfl⟩
      · exact ⟨rfl, rfl, rfl, rfl⟩
    · exact ⟨rfl, rfl, rfl, rfl⟩
  · exact ⟨rfl, rfl, rfl, rfl⟩
theorem vicN_len (n : Nat) : ∀ (k : Nat) (f : List Frm) (h : Nat), (vicN n k f h).1.length = f.length
  | 0, _, _ => rfl
  | k + 1, f, h => by
    simp only [vicN]
    split
    · rfl
    · rw [vicN_len n k]
      split
      · rw [List.length_set]
      · rfl
/-- the frames but for what was used -/
theorem vicN_at (n : Nat) : ∀ (k : Nat) (f : List Frm) (h i : Nat), (frA (vicN n k f h).1 i).pg = (frA f i).pg ∧ (frA (vicN n k f h).1 i).held = (frA f i).held ∧ (frA (vicN n k f h).1 i).b = (frA f i).b ∧ (frA (vicN n k f h).1 i).di = (frA f i).di
  | 0, _, _, _ => ⟨rfl, rfl, rfl, rfl⟩
  | k + 1, f, h, i => by
    simp only [vicN]
    split
    · exact ⟨rfl, rfl, rfl, rfl⟩
    · obtain ⟨e1, e2, e3, e4⟩ := vicN_at n k (if (frA f h).held = 0 then f.set h { frA f h with us := false } else f) ((h + 1) % n) i
      rw [e1, e2, e3, e4]
      split
      · rw [frA_set]
        split
        · next h9 => rw [h9.1]; exact ⟨rfl, rfl, rfl, rfl⟩
        · exact ⟨rfl, rfl, rfl, rfl⟩
      · exact ⟨rfl, rfl, rfl, rfl⟩
theorem vicN_hand (n : Nat) (hn : 0 < n) : ∀ (k : Nat) (f : List Frm) (h : Nat), h < n → (vicN n k f h).2.1 < n
  | 0, _, _, h => h
  | k + 1, f, h, hh => by
    simp only [vicN]
    split
    · exact Nat.mod_lt _ hn
    · exact vicN_hand n hn k _ _ (Nat.mod_lt _ hn)
/-- what goes isn't held -/
theorem vicN_free (n : Nat) : ∀ (k : Nat) (f : List Frm) (h : Nat), h < n → (vicN n k f h).2.2 < n → (frA (vicN n k f h).1 (vicN n k f h).2.2).held = 0 ∧ (vicN n k f h).2.2 < n
  | 0, f, h, _, h2 => absurd h2 (Nat.lt_irrefl n)
  | k + 1, f, h, hh, h2 => by
    simp only [vicN] at h2 ⊢
    by_cases c : (frA f h).held = 0 ∧ (frA f h).us = false
    · rw [if_pos c] at h2 ⊢
      exact ⟨c.1, h2⟩
    · rw [if_neg c] at h2 ⊢
      exact vicN_free n k _ _ (Nat.mod_lt _ (by omega)) h2
end Go.Proofs.YtmflkkkbahghgaaGreat
namespace Go.Proofs.YtmflkkkbahghgaaGreat
open Go.RowKit
set_option linter.unusedVariables false
set_option linter.unusedSimpArgs false
set_option maxRecDepth 100000

/-! ### the hand finds a frame, if one is held by nobody -/
def dstP (n h i : Nat) : Nat := if h ≤ i then i - h else i + n - h
theorem next_mod {n h : Nat} (hh : h < n) : (h + 1) % n = if h + 1 = n then 0 else h + 1 := by
  by_cases c : h + 1 = n
  · rw [if_pos c, c, Nat.mod_self]
  · rw [if_neg c, Nat.mod_eq_of_lt (by omega)]
theorem dstP_next {n h i : Nat} (hh : h < n) (hi : i < n) (hne : h ≠ i) : dstP n ((h + 1) % n) i + 1 = dstP n h i := by
  rw [next_mod hh]
  unfold dstP
  by_cases c : h + 1 = n
  · rw [if_pos c]
    split <;> split <;> omega
  · rw [if_neg c]
    split <;> split <;> omega
theorem vicN_found {n i : Nat} (hi : i < n) : ∀ (k : Nat) (f : List Frm) (h : Nat), f.length = n → h < n → (frA f i).held = 0 → dstP n h i + (if (frA f i).us then n else 0) < k → (vicN n k f h).2.2 < n
  | 0, _, _, _, _, _, hk => by omega
  | k + 1, f, h, hl, hh, hz, hk => by
    simp only [vicN]
    by_cases c : (frA f h).held = 0 ∧ (frA f h).us = false
    · rw [if_pos c]; exact hh
    · rw [if_neg c]
      have hm : (h + 1) % n < n := Nat.mod_lt _ (by omega)
      by_cases e : h = i
      · subst e
        have hu : (frA f h).us = true := by
          cases q : (frA f h).us with
          | true => rfl
          | false => exact absurd ⟨hz, q⟩ c
        rw [hu, if_pos rfl] at hk
        rw [if_pos hz]
        have hx : frA (f.set h { frA f h with us := false }) h = { frA f h with us := false } := by rw [frA_set, if_pos (show h = h ∧ h < f.length from ⟨rfl, by omega⟩)]
        refine vicN_found hi k _ _ (by rw [List.length_set]; exact hl) hm (by rw [hx]; exact hz) ?_
        have h1 : dstP n ((h + 1) % n) h < n := by
          unfold dstP
          split <;> omega
        rw [hx]
        show dstP n ((h + 1) % n) h + 0 < k
        omega
      · have hd := dstP_next hh hi e
        by_cases g : (frA f h).held = 0
        · rw [if_pos g]
          have hx : frA (f.set h { frA f h with us := false }) i = frA f i := by rw [frA_set, if_neg (fun q => e q.1.symm)]
          exact vicN_found hi k _ _ (by rw [List.length_set]; exact hl) hm (by rw [hx]; exact hz) (by rw [hx]; omega)
        · rw [if_neg g]
          exact vicN_found hi k f _ hl hm hz (by omega)
theorem vicN_all {n : Nat} {f : List Frm} (ha : ∀ i, i < n → 0 < (frA f i).held) : ∀ (k h : Nat), h < n → (vicN n k f h).2.2 = n
  | 0, _, _ => rfl
  | k + 1, h, hh => by
    simp only [vicN]
    have := ha h hh
    rw [if_neg (fun c => by omega), if_neg (by omega)]
    exact vicN_all ha k _ (Nat.mod_lt _ (by omega))
theorem vicP_found {p : Plt} (hh : p.hand < p.f.length) {i : Nat} (hi : i < p.f.length) (hz : (frA p.f i).held = 0) : (vicP p).2 < p.f.length := by
  unfold vicP
  split
  · assumption
  · refine vicN_found hi _ _ _ rfl hh hz ?_
    unfold dstP
    split <;> split <;> omega
theorem vicP_none {p : Plt} (hh : p.hand < p.f.length) (ha : ∀ i, i < p.f.length → 0 < (frA p.f i).held) (he : ∀ i, i < p.f.length → 0 ≤ (frA p.f i).pg) : (vicP p).2 = p.f.length := by
  unfold vicP
  split
  · next c =>
    have h1 := lstP_at c
    have h2 := he _ c
    simp [emptyF] at h1
    omega
  · exact vicN_all ha _ _ hh

/-! ### the program's calls -/
def newQ (p : Plt) (l : Int) (b : ByteArray) : Plt × ByteArray × Int := if (vicP p).2 < p.f.length then newR p l b else (p, ByteArray.empty, 12)
def holQ (p : Plt) (l : Int) : Plt × ByteArray × Int :=
  if fndF p.f l < p.f.length then ({ p with f := p.f.set (fndF p.f l) { frA p.f (fndF p.f l) with held := (frA p.f (fndF p.f l)).held + 1, us := true } }, (frA p.f (fndF p.f l)).b, 0)
  else if inS p.x.now l then newQ p l (slA p.x.now l.toNat).b
  else (p, ByteArray.empty, 3)
def getQ (p : Plt) (l : Int) : Plt × ByteArray × Int := if (holQ p l).2.2 = 0 then (letP (holQ p l).1 l, (holQ p l).2.1, 0) else holQ p l
def putQE (p : Plt) (l : Int) (s : ByteArray) : Int := if 232 < s.size then 4 else (holQ p l).2.2
def putQ (p : Plt) (l : Int) (s : ByteArray) : Plt := if 232 < s.size then p else if (holQ p l).2.2 = 0 then letP (setP (holQ p l).1 l s) l else (holQ p l).1
/-- a call of the program's -/
def doQ (p : Plt) (kind l : Int) (s : ByteArray) : Plt :=
  if kind = 0 ∨ kind = 1 then nwpP p s else if kind = 2 then (holQ p l).1 else if kind = 3 then letP p l else if kind = 4 then setP p l s
  else if kind = 5 ∨ kind = 6 ∨ kind = 7 then (getQ p l).1 else if kind = 11 then drpP p l else if kind = 12 then evcP p l else if kind = 13 then cmtP p else if kind = 14 then aboP p else putQ p l s
/-- held by nobody -/
def NoH (p : Plt) : Prop := ∀ i, (frA p.f i).held = 0
theorem newQ_eq {p : Plt} (hh : p.hand < p.f.length) (hz : NoH p) (l : Int) (b : ByteArray) : newQ p l b = newR p l b := by
  unfold newQ
  rw [if_pos (vicP_found hh hh (hz _))]
theorem holQ_eq {p : Plt} (hh : p.hand < p.f.length) (hz : NoH p) (l : Int) : holQ p l = holR p l := by
  unfold holQ holR
  rw [newQ_eq hh hz]
theorem getQ_eq {p : Plt} (hh : p.hand < p.f.length) (hz : NoH p) (l : Int) : getQ p l = getR p l := by
  unfold getQ getR
  rw [holQ_eq hh hz]
theorem putQ_eq {p : Plt} (hh : p.hand < p.f.length) (hz : NoH p) (l : Int) (s : ByteArray) : putQ p l s = putP p l s ∧ putQE p l s = putE15 p l s := by
  unfold putQ putP putQE putE15
  rw [holQ_eq hh hz]
  exact ⟨rfl, rfl⟩
theorem doQ_eq {p : Plt} (hh : p.hand < p.f.length) (hz : NoH p) (kind l : Int) (s : ByteArray) : doQ p kind l s = do15 p kind l s := by
  unfold doQ do15
  rw [holQ_eq hh hz, getQ_eq hh hz, (putQ_eq hh hz l s).1]

/-! ### what all calls keep -/
def OkF (h : Nat) (x : Frm) : Prop := x = noF ∨ (0 ≤ x.pg ∧ x.b.size = 232 ∧ x.held ≤ h)
def PayS (l : List Slt) : Prop := ∀ i, (slA l i).b.size ≤ 232 ∧ ((slA l i).is = true → (slA l i).b.size = 232)
/-- limits: the disk's calls, the epoch, how often a frame is held -/
structure OkW (c : Nat) (e : Int) (h : Nat) (p : Plt) : Prop where
  now : p.x.now.length ≤ 512
  old : p.x.old.length ≤ 512
  many : 0 ≤ p.x.many ∧ p.x.many ≤ 1000
  ep : 1 ≤ p.x.ep ∧ p.x.ep ≤ e
  cl : p.x.cl ≤ c
  len : 1 ≤ p.f.length ∧ p.f.length ≤ 32
  hand : p.hand < p.f.length
  fr : ∀ i, OkF h (frA p.f i)
  pn : PayS p.x.now
  po : PayS p.x.old
theorem OkF.up {h h2 : Nat} {x : Frm} (k : OkF h x) (hh : h ≤ h2) : OkF h2 x := by
  rcases k with k | ⟨k1, k2, k3⟩
  · exact .inl k
  · exact .inr ⟨k1, k2, Nat.le_trans k3 hh⟩
theorem OkF.held {h : Nat} {x : Frm} (k : OkF h x) : x.held ≤ h := by
  rcases k with rfl | k
  · exact Nat.zero_le _
  · exact k.2.2
theorem OkF.size {h : Nat} {x : Frm} (k : OkF h x) : x.b.size ≤ 232 := by
  rcases k with rfl | k
  · exact Nat.zero_le _
  · exact Nat.le_of_eq k.2.1
theorem OkF.none {h : Nat} {x : Frm} (k : OkF h x) (hp : x.pg < 0) : x = noF := by
  rcases k with k | k
  · exact k
  · have := k.1; omega
theorem OkF.some {h : Nat} {x : Frm} (k : OkF h x) (hp : 0 ≤ x.pg) : x.b.size = 232 := by
  rcases k with rfl | k
  · exact absurd hp (by decide)
  · exact k.2.1
theorem PayS.set {l : List Slt} (h : PayS l) (i : Nat) {x : Slt} (h1 : x.b.size ≤ 232) (h2 : x.is = true → x.b.size = 232) : PayS (setS l i x) := by
  intro k
  rw [setS_at]
  split
  · exact ⟨h1, h2⟩
  · exact h k
theorem fullP_size {s : ByteArray} (h : s.size ≤ 232) : (fullP s).size = 232 := by
  unfold fullP
  rw [if_pos h]
  exact padN_size s 232
theorem PayS.wr {l : List Slt} (h : PayS l) (i : Nat) {s : ByteArray} (hs : s.size ≤ 232) : PayS (wrS l i s) :=
  h.set i (Nat.le_of_eq (fullP_size hs)) (fun _ => fullP_size hs)
theorem PayS.next {l : List Slt} (h : PayS l) : PayS (nextS l) := by
  intro k
  rw [nextS_at]
  split
  · exact h k
  · exact ⟨Nat.zero_le _, fun h => Bool.noConfusion h⟩
theorem inS_lt {l : List Slt} {i : Int} (h : inS l i) : i.toNat < l.length := by
  rcases Nat.lt_or_ge i.toNat l.length with c | c
  · exact c
  · have := h.2; rw [isS_out c] at this; cases this
section
variable {c : Nat} {e : Int} {h : Nat} {p : Plt}
theorem OkW.up (k : OkW c e h p) {c2 : Nat} {e2 : Int} {h2 : Nat} (hc : c ≤ c2) (he : e ≤ e2) (hh : h ≤ h2) : OkW c2 e2 h2 p :=
  ⟨k.now, k.old, k.many, ⟨k.ep.1, by have := k.ep.2; omega⟩, Nat.le_trans k.cl hc, k.len, k.hand, fun i => (k.fr i).up hh, k.pn, k.po⟩
/-- other frames -/
theorem OkW.frames (k : OkW c e h p) {f : List Frm} {h2 : Nat} (hl : f.length = p.f.length) (hf : ∀ i, OkF h2 (frA f i)) : OkW c e h2 { p with f := f } :=
  ⟨k.now, k.old, k.many, k.ep, k.cl, by show 1 ≤ f.length ∧ f.length ≤ 32; rw [hl]; exact k.len, by show p.hand < f.length; rw [hl]; exact k.hand, hf, k.pn, k.po⟩
theorem OkW.set (k : OkW c e h p) (i : Nat) {x : Frm} {h2 : Nat} (hh : h ≤ h2) (hx : OkF h2 x) : OkW c e h2 { p with f := p.f.set i x } :=
  k.frames List.length_set fun j => by
    rw [frA_set]
    split
    · exact hx
    · exact (k.fr j).up hh
theorem wr_len {x : Stt} {i : Nat} {s : ByteArray} (h : x.now.length ≤ 512) (hi : i < 512) : (wrS x.now i s).length ≤ 512 := by
  unfold wrS
  rw [setS_len]
  omega
theorem OkW.put (k : OkW c e h p) (l : Int) (s : ByteArray) : OkW (c + 64) e h { p with x := putWX p.x l s } := by
  unfold putWX
  split
  · next hz =>
    have h1 : s.size ≤ 232 ∧ inS p.x.now l := by
      unfold putWE at hz
      split at hz
      · exact absurd hz (by decide)
      · split at hz
        · exact ⟨by omega, by assumption⟩
        · exact absurd hz (by decide)
    exact ⟨wr_len k.now (by have := inS_lt h1.2; have := k.now; omega), k.old, k.many, k.ep, by show p.x.cl + 64 ≤ c + 64; have := k.cl; omega, k.len, k.hand, k.fr, k.pn.wr _ h1.1, k.po⟩
  · exact k.up (by omega) (Int.le_refl _) (Nat.le_refl _)
theorem OkW.nw (k : OkW c e h p) (s : ByteArray) : OkW (c + 64) e h (nwpP p s) := by
  unfold nwpP newX
  split
  · next hz =>
    have h1 : s.size ≤ 232 ∧ firstS p.x.now < 512 := by
      unfold newE at hz
      split at hz
      · exact absurd hz (by decide)
      · split at hz
        · exact absurd hz (by decide)
        · exact ⟨by omega, by omega⟩
    exact ⟨wr_len k.now h1.2, k.old, k.many, k.ep, by show p.x.cl + 64 ≤ c + 64; have := k.cl; omega, k.len, k.hand, k.fr, k.pn.wr _ h1.1, k.po⟩
  · exact k.up (by omega) (Int.le_refl _) (Nat.le_refl _)
theorem OkW.bak (k : OkW c e h p) (i : Nat) : OkW (c + 64) e h (bakP p i) := by
  unfold bakP
  split
  · have k1 := k.put (frA p.f i).pg (frA p.f i).b
    refine k1.frames ?_ fun j => ?_
    · split
      · exact List.length_set
      · rfl
    · split
      · rw [frA_set]
        split
        · next hj =>
          rcases k.fr i with hn | hn
          · exact .inl (by rw [hn]; rfl)
          · exact .inr hn
        · exact k.fr j
      · exact k.fr j
  · exact k.up (by omega) (Int.le_refl _) (Nat.le_refl _)
theorem vicN_okf (n : Nat) : ∀ (k : Nat) (f : List Frm) (hd : Nat), (∀ i, OkF h (frA f i)) → ∀ i, OkF h (frA (vicN n k f hd).1 i)
  | 0, _, _, hf, i => hf i
  | k + 1, f, hd, hf, i => by
    simp only [vicN]
    split
    · exact hf i
    · refine vicN_okf n k _ _ (fun j => ?_) i
      split
      · rw [frA_set]
        split
        · rcases hf hd with hn | hn
          · exact .inl (by rw [hn]; rfl)
          · exact .inr hn
        · exact hf j
      · exact hf j
theorem OkW.vic (k : OkW c e h p) : OkW c e h (vicP p).1 := by
  unfold vicP
  split
  · exact k
  · exact ⟨k.now, k.old, k.many, k.ep, k.cl, by show 1 ≤ (vicN _ _ _ _).1.length ∧ _; rw [vicN_len]; exact k.len, by
      show (vicN _ _ _ _).2.1 < (vicN _ _ _ _).1.length
      rw [vicN_len]
      exact vicN_hand _ (by have := k.len.1; omega) _ _ _ k.hand, vicN_okf _ _ _ _ k.fr, k.pn, k.po⟩
theorem OkW.newR (k : OkW c e h p) {l : Int} (hl : 0 ≤ l) {b : ByteArray} (hb : b.size = 232) : OkW (c + 64) e (h + 1) (newR p l b).1 := by
  unfold Go.Proofs.YtmflkkkbahghgaaGreat.newR
  have k1 := k.vic.bak (vicP p).2
  split
  · split
    · exact k1.set _ (by omega) (.inr ⟨hl, hb, by show 1 ≤ h + 1; omega⟩)
    · exact k1.up (Nat.le_refl _) (Int.le_refl _) (by omega)
  · exact k.vic.up (by omega) (Int.le_refl _) (by omega)
theorem OkW.newQ (k : OkW c e h p) {l : Int} (hl : 0 ≤ l) {b : ByteArray} (hb : b.size = 232) : OkW (c + 64) e (h + 1) (newQ p l b).1 := by
  unfold Go.Proofs.YtmflkkkbahghgaaGreat.newQ
  split
  · exact k.newR hl hb
  · exact k.up (by omega) (Int.le_refl _) (by omega)
theorem OkW.once (k : OkW c e h p) {l : Int} (hf : fndF p.f l < p.f.length) : OkW (c + 64) e (h + 1) { p with f := p.f.set (fndF p.f l) { frA p.f (fndF p.f l) with held := (frA p.f (fndF p.f l)).held + 1, us := true } } := by
  have h1 := fndF_has hf
  refine (k.set _ (Nat.le_succ h) ?_).up (by omega) (Int.le_refl _) (Nat.le_refl _)
  have h2 := (k.fr (fndF p.f l)).some (by rw [h1.2]; exact h1.1)
  have h3 := (k.fr (fndF p.f l)).held
  exact .inr ⟨by show 0 ≤ (frA p.f (fndF p.f l)).pg; rw [h1.2]; exact h1.1, h2, Nat.succ_le_succ h3⟩
theorem OkW.hol (k : OkW c e h p) (l : Int) : OkW (c + 64) e (h + 1) (holR p l).1 := by
  unfold holR
  split
  · next hf => exact k.once hf
  · split
    · next hi => exact k.newR hi.1 ((k.pn _).2 hi.2)
    · exact k.up (by omega) (Int.le_refl _) (by omega)
theorem OkW.holQ (k : OkW c e h p) (l : Int) : OkW (c + 64) e (h + 1) (holQ p l).1 := by
  unfold Go.Proofs.YtmflkkkbahghgaaGreat.holQ
  split
  · next hf => exact k.once hf
  · split
    · next hi => exact k.newQ hi.1 ((k.pn _).2 hi.2)
    · exact k.up (by omega) (Int.le_refl _) (by omega)
theorem OkW.lets (k : OkW c e h p) (l : Int) : OkW c e h (letP p l) := by
  unfold letP
  split
  · next hp =>
    have hf : fndF p.f l < p.f.length := by
      unfold pinE at hp
      split at hp
      · next hq => exact hq.1
      · exact absurd hp (by decide)
    have h1 := fndF_has hf
    have h2 := (k.fr (fndF p.f l)).some (by rw [h1.2]; exact h1.1)
    have h3 := (k.fr (fndF p.f l)).held
    exact k.set _ (Nat.le_refl h) (.inr ⟨by show 0 ≤ (frA p.f (fndF p.f l)).pg; rw [h1.2]; exact h1.1, h2, by show (frA p.f (fndF p.f l)).held - 1 ≤ h; omega⟩)
  · exact k
theorem OkW.set15 (k : OkW c e h p) (l : Int) (s : ByteArray) : OkW c e h (setP p l s) := by
  unfold setP
  split
  · next hp =>
    unfold setE at hp
    split at hp
    · exact absurd hp (by decide)
    · next hs =>
      have hf : fndF p.f l < p.f.length := by
        unfold pinE at hp
        split at hp
        · next hq => exact hq.1
        · exact absurd hp (by decide)
      have h1 := fndF_has hf
      have h3 := (k.fr (fndF p.f l)).held
      exact k.set _ (Nat.le_refl h) (.inr ⟨by show 0 ≤ (frA p.f (fndF p.f l)).pg; rw [h1.2]; exact h1.1, fullP_size (by omega), h3⟩)
  · exact k
theorem OkW.get (k : OkW c e h p) (l : Int) : OkW (c + 64) e (h + 1) (getR p l).1 := by
  unfold getR
  split
  · exact (k.hol l).lets l
  · exact k.hol l
theorem OkW.getQ (k : OkW c e h p) (l : Int) : OkW (c + 64) e (h + 1) (getQ p l).1 := by
  unfold Go.Proofs.YtmflkkkbahghgaaGreat.getQ
  split
  · exact (k.holQ l).lets l
  · exact k.holQ l
theorem OkW.putP (k : OkW c e h p) (l : Int) (s : ByteArray) : OkW (c + 64) e (h + 1) (putP p l s) := by
  unfold Go.Proofs.YtmflkkkbahghgaaGreat.putP
  split
  · exact k.up (by omega) (Int.le_refl _) (by omega)
  · split
    · exact ((k.hol l).set15 l s).lets l
    · exact k.hol l
theorem OkW.putQ (k : OkW c e h p) (l : Int) (s : ByteArray) : OkW (c + 64) e (h + 1) (putQ p l s) := by
  unfold Go.Proofs.YtmflkkkbahghgaaGreat.putQ
  split
  · exact k.up (by omega) (Int.le_refl _) (by omega)
  · split
    · exact ((k.holQ l).set15 l s).lets l
    · exact k.holQ l
theorem OkW.drp (k : OkW c e h p) (l : Int) : OkW c e h (drpP p l) := by
  unfold drpP
  split
  · have k1 : OkW c e h { p with x := dropSX p.x l } := by
      unfold dropSX
      split
      · next hi => exact ⟨by show (setS p.x.now l.toNat noSlt).length ≤ 512; rw [setS_len]; have := inS_lt hi; have := k.now; omega, k.old, k.many, k.ep, k.cl, k.len, k.hand, k.fr, k.pn.set _ (Nat.zero_le _) (fun h => Bool.noConfusion h), k.po⟩
      · exact k
    refine k1.frames ?_ fun j => ?_
    · split
      · exact List.length_set
      · rfl
    · split
      · rw [frA_set]
        split
        · exact .inl rfl
        · exact k.fr j
      · exact k.fr j
  · exact k
theorem OkW.evc (k : OkW c e h p) (i : Int) : OkW (c + 64) e h (evcP p i) := by
  have k0 : OkW (c + 64) e h p := k.up (by omega) (Int.le_refl _) (Nat.le_refl _)
  unfold evcP
  split
  · exact k0
  · split
    · exact k0
    · split
      · exact k0
      · have k1 := k.bak i.toNat
        split
        · exact k1.set _ (Nat.le_refl _) (.inl rfl)
        · exact k1
theorem OkW.bas : ∀ (n i : Nat) {c : Nat} {p : Plt}, OkW c e h p → OkW (c + 64 * n) e h (basP n i p).1
  | 0, i, c, p, k => k
  | n + 1, i, c, p, k => by
    simp only [basP]
    split
    · have := OkW.bas n (i + 1) (k.bak i)
      exact this.up (by omega) (Int.le_refl _) (Nat.le_refl _)
    · exact (k.bak i).up (by omega) (Int.le_refl _) (Nat.le_refl _)
theorem OkW.cmt (k : OkW c e h p) : OkW (c + 2112) (e + 1) h (cmtP p) := by
  have h32 := k.len.2
  unfold cmtP
  split
  · exact k.up (by omega) (by omega) (Nat.le_refl _)
  · have k1 := OkW.bas p.f.length 0 k
    split
    · unfold comSX
      split
      · exact k1.up (by omega) (by omega) (Nat.le_refl _)
      · have hn : ∀ l : List Slt, l.length ≤ 512 → (nextS l).length ≤ 512 := fun l hl => by rw [nextS_len]; have := trimS_le l l.length; omega
        exact ⟨hn _ k1.now, hn _ k1.now, k1.many, ⟨by have := k1.ep.1; show 1 ≤ (basP p.f.length 0 p).1.x.ep + 1; omega, by have := k1.ep.2; show (basP p.f.length 0 p).1.x.ep + 1 ≤ e + 1; omega⟩, by have := k1.cl; show (basP p.f.length 0 p).1.x.cl + 64 ≤ _; omega, k1.len, k1.hand, k1.fr, k1.pn.next, k1.pn.next⟩
    · exact k1.up (by omega) (by omega) (Nat.le_refl _)
theorem OkW.abo (k : OkW c e h p) : OkW c e h (aboP p) :=
  ⟨k.old, k.old, k.many, k.ep, k.cl, by show 1 ≤ (List.replicate p.f.length noF).length ∧ (List.replicate p.f.length noF).length ≤ 32; rw [List.length_replicate]; exact k.len, by show p.hand < (List.replicate p.f.length noF).length; rw [List.length_replicate]; exact k.hand, fun i => by
    show OkF h (frA (List.replicate p.f.length noF) i)
    unfold frA
    rw [List.getD_eq_getElem?_getD, List.getElem?_replicate]
    split <;> exact .inl rfl, k.po, k.po⟩
theorem OkW.do15 (k : OkW c e h p) (kind l : Int) (s : ByteArray) : OkW (c + 2112) (e + 1) (h + 1) (do15 p kind l s) := by
  have U : ∀ {q : Plt} {c2 : Nat} {h2 : Nat}, OkW c2 e h2 q → c2 ≤ c + 64 → h2 ≤ h + 1 → OkW (c + 2112) (e + 1) (h + 1) q := fun kq hc hh => kq.up (by omega) (by omega) hh
  unfold Go.Proofs.YtmflkkkbahghgaaGreat.do15
  split
  · exact U (k.nw s) (Nat.le_refl _) (by omega)
  · split
    · exact U (k.hol l) (Nat.le_refl _) (Nat.le_refl _)
    · split
      · exact U (k.lets l) (by omega) (by omega)
      · split
        · exact U (k.set15 l s) (by omega) (by omega)
        · split
          · exact U (k.get l) (Nat.le_refl _) (Nat.le_refl _)
          · split
            · exact U (k.drp l) (by omega) (by omega)
            · split
              · exact U (k.evc l) (Nat.le_refl _) (by omega)
              · split
                · exact k.cmt.up (Nat.le_refl _) (Int.le_refl _) (by omega)
                · split
                  · exact U k.abo (by omega) (by omega)
                  · exact U (k.putP l s) (Nat.le_refl _) (Nat.le_refl _)
theorem OkW.doQ (k : OkW c e h p) (kind l : Int) (s : ByteArray) : OkW (c + 2112) (e + 1) (h + 1) (doQ p kind l s) := by
  have U : ∀ {q : Plt} {c2 : Nat} {h2 : Nat}, OkW c2 e h2 q → c2 ≤ c + 64 → h2 ≤ h + 1 → OkW (c + 2112) (e + 1) (h + 1) q := fun kq hc hh => kq.up (by omega) (by omega) hh
  unfold Go.Proofs.YtmflkkkbahghgaaGreat.doQ
  split
  · exact U (k.nw s) (Nat.le_refl _) (by omega)
  · split
    · exact U (k.holQ l) (Nat.le_refl _) (Nat.le_refl _)
    · split
      · exact U (k.lets l) (by omega) (by omega)
      · split
        · exact U (k.set15 l s) (by omega) (by omega)
        · split
          · exact U (k.getQ l) (Nat.le_refl _) (Nat.le_refl _)
          · split
            · exact U (k.drp l) (by omega) (by omega)
            · split
              · exact U (k.evc l) (Nat.le_refl _) (by omega)
              · split
                · exact k.cmt.up (Nat.le_refl _) (Int.le_refl _) (by omega)
                · split
                  · exact U k.abo (by omega) (by omega)
                  · exact U (k.putQ l s) (Nat.le_refl _) (Nat.le_refl _)
end
end Go.Proofs.YtmflkkkbahghgaaGreat
