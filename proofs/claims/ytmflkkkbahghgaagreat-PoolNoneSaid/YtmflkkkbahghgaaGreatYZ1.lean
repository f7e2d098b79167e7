/- Pages: their bytes, what any bytes are as a page, there and back. Plain mathematics. Root blocks: their bytes, there and back, and what a torn one says. Plain mathematics. Logical pages as lists of slots: what calls do to them. Plain mathematics. -/
import Derived.Test.YtmflkkkbahghgaaGreatYZ0
namespace Go.Proofs.YtmflkkkbahghgaaGreat
open Go.RowKit
set_option linter.unusedVariables false
set_option linter.unusedSimpArgs false
set_option maxRecDepth 100000

/-- a page -/
structure Pg where
  id : Int
  ep : Int
  kd : Int
  pay : ByteArray
def noPg : Pg := ⟨0, 0, 0, ⟨#[]⟩⟩
def RightP (p : Pg) : Prop := 0 ≤ p.id ∧ 0 ≤ p.ep ∧ p.ep ≤ 1099511627776 ∧ 0 ≤ p.kd ∧ p.kd ≤ 2147483647
instance (p : Pg) : Decidable (RightP p) := by unfold RightP; infer_instance
/-- n bytes of a text, bytes 0 behind its end -/
def padN (s : ByteArray) (n : Nat) : ByteArray := strOfNums ((List.range n).map (byD s))
theorem padN_size (s : ByteArray) (n : Nat) : (padN s n).size = n := by unfold padN; rw [strOfNums_size]; simp
theorem byD_pad (s : ByteArray) (n j : Nat) (h : j < n) : byD (padN s n) j = byD s j := by
  unfold padN
  rw [byD_nums _ _ _ (by simpa using h)]
  · simp
  · intro x hx
    obtain ⟨i, _, rfl⟩ := List.mem_map.1 hx
    exact byD_bd s i
theorem padN_self (s : ByteArray) (n : Nat) (h : s.size = n) : padN s n = s := by
  apply byD_ext (by rw [padN_size, h])
  intro j hj
  rw [padN_size] at hj
  exact byD_pad s n j hj
/-- the document's Full: a text that is too long stays as it is -/
def fullP (s : ByteArray) : ByteArray := if s.size ≤ 232 then padN s 232 else s
def kindL (k : Int) : List Int := [k / 16777216 % 256, k / 65536 % 256, k / 256 % 256, k % 256]
theorem kindL_bd (k : Int) : ∀ x ∈ kindL k, 0 ≤ x ∧ x ≤ 255 := by
  intro x hx
  unfold kindL at hx
  simp only [List.mem_cons, List.not_mem_nil, or_false] at hx
  rcases hx with rfl | rfl | rfl | rfl <;> omega
def headL (p : Pg) : List Int := beI 8 (flip63 p.id) ++ beI 8 (flip63 p.ep) ++ kindL p.kd
theorem headL_len (p : Pg) : (headL p).length = 20 := by unfold headL; rw [List.length_append, List.length_append, beI_len, beI_len]; rfl
theorem headL_bd (p : Pg) : ∀ x ∈ headL p, 0 ≤ x ∧ x ≤ 255 := by
  intro x hx
  unfold headL at hx
  rcases List.mem_append.1 hx with hx | hx
  · rcases List.mem_append.1 hx with hx | hx
    · exact beI_mem _ _ x hx
    · exact beI_mem _ _ x hx
  · exact kindL_bd _ x hx
/-- the 252 bytes behind the check -/
def bodyP (p : Pg) : ByteArray := strOfNums (headL p) ++ padN p.pay 232
theorem bodyP_size (p : Pg) : (bodyP p).size = 252 := by unfold bodyP; rw [ByteArray.size_append, strOfNums_size, headL_len, padN_size]
def layP (s : ByteArray) : ByteArray := ⟨(laidL s.data.toList).toArray⟩
theorem layP_eq (s : ByteArray) : layP s = ⟨(le4 (crcN s.data.toList)).toArray⟩ ++ s := by
  apply ByteArray.ext
  apply Array.ext'
  simp [layP, laidL]
theorem layP_size (s : ByteArray) : (layP s).size = 4 + s.size := by
  rw [layP_eq, ByteArray.size_append]
  rfl
theorem byD_lay (s : ByteArray) (j : Nat) : byD (layP s) (4 + j) = byD s j := by
  rw [layP_eq, byD_app]
  have h4 : (ByteArray.mk (le4 (crcN s.data.toList)).toArray).size = 4 := rfl
  rw [h4, if_neg (by omega)]
  congr 1; omega
theorem layP_tail (s : ByteArray) : (layP s).extract 4 (layP s).size = s := by
  have h1 : ((layP s).extract 4 (layP s).size).size = s.size := by rw [ByteArray.size_extract, layP_size]; omega
  apply byD_ext h1
  intro j hj
  rw [h1] at hj
  rw [byD_cut _ _ _ _ (by rw [layP_size]; omega), byD_lay]

def putE (p : Pg) : Int := if RightP p then (if 232 < p.pay.size then 4 else 0) else 2
def putS (p : Pg) : ByteArray := if putE p = 0 then layP (bodyP p) else ⟨#[]⟩
/-- the page that bytes tell -/
def tellP (s : ByteArray) : Pg := ⟨unflip63 (rdI s 4 8), unflip63 (rdI s 12 8), byD s 20 * 16777216 + byD s 21 * 65536 + byD s 22 * 256 + byD s 23, s.extract 24 s.size⟩
def getE (s : ByteArray) : Int := if s.size = 256 then (if layP (s.extract 4 s.size) = s then (if RightP (tellP s) then 0 else 14) else 14) else 6
def getP (s : ByteArray) : Pg := if getE s = 0 then tellP s else noPg
theorem putE_zero {p : Pg} : putE p = 0 ↔ RightP p ∧ p.pay.size ≤ 232 := by
  unfold putE
  by_cases h : RightP p
  · rw [if_pos h]
    by_cases h2 : 232 < p.pay.size
    · rw [if_pos h2]; constructor
      · intro e; exact absurd e (by decide)
      · intro e; omega
    · rw [if_neg h2]; exact ⟨fun _ => ⟨h, by omega⟩, fun _ => rfl⟩
  · rw [if_neg h]; constructor
    · intro e; exact absurd e (by decide)
    · intro e; exact absurd e.1 h
theorem putS_size {p : Pg} (h : putE p = 0) : (putS p).size = 256 := by
  unfold putS
  rw [if_pos h, layP_size, bodyP_size]
theorem byteI_byD (s : ByteArray) (i : Nat) : byteI s i = byD s i := rfl
theorem byD_head (p : Pg) (j : Nat) (h : j < 20) : byD (bodyP p) j = (headL p).getD j 0 := by
  unfold bodyP
  rw [byD_app, strOfNums_size, headL_len, if_pos h, byD_nums _ (headL_bd p) _ (by rw [headL_len]; exact h), List.getD_eq_getElem?_getD, List.getElem?_eq_getElem (by rw [headL_len]; exact h)]
  rfl
theorem byD_body (p : Pg) (j : Nat) (h : j < 232) : byD (bodyP p) (20 + j) = byD p.pay j := by
  unfold bodyP
  rw [byD_app, strOfNums_size, headL_len, if_neg (by omega), show 20 + j - 20 = j by omega, byD_pad _ _ _ h]
theorem numsAt_ext {s : ByteArray} {a k : Nat} {l : List Int} (hl : l.length = k) (h : ∀ i, i < k → byD s (a + i) = l.getD i 0) : numsAt s a k = l := by
  apply List.ext_getElem (by rw [numsAt_len, hl])
  intro i h1 h2
  rw [numsAt_len] at h1
  have := h i h1
  rw [List.getD_eq_getElem?_getD, List.getElem?_eq_getElem h2] at this
  simp only [Option.getD_some] at this
  rw [← this]
  simp [numsAt, byteI_byD]
/-- what was put is got as it was, its payload filled up -/
theorem tell_put {p : Pg} (h : RightP p) (hb : p.id ≤ 9223372036854775807) : tellP (layP (bodyP p)) = { p with pay := padN p.pay 232 } := by
  obtain ⟨h1, h2, h3, h4, h5⟩ := h
  have e1 : numsAt (layP (bodyP p)) 4 8 = beI 8 (flip63 p.id) := numsAt_ext (beI_len _ _) fun i hi => by
    rw [byD_lay, byD_head p i (by omega)]
    unfold headL
    rw [List.append_assoc, List.getD_eq_getElem?_getD, List.getD_eq_getElem?_getD, List.getElem?_append_left (by rw [beI_len]; exact hi)]
  have e2 : numsAt (layP (bodyP p)) 12 8 = beI 8 (flip63 p.ep) := numsAt_ext (beI_len _ _) fun i hi => by
    rw [show 12 + i = 4 + (8 + i) by omega, byD_lay, byD_head p _ (by omega)]
    unfold headL
    rw [List.append_assoc, List.getD_eq_getElem?_getD, List.getD_eq_getElem?_getD, List.getElem?_append_right (by rw [beI_len]; omega), beI_len, show 8 + i - 8 = i by omega, List.getElem?_append_left (by rw [beI_len]; exact hi)]
  have hk : ∀ j, j < 4 → byD (layP (bodyP p)) (20 + j) = (kindL p.kd).getD j 0 := fun j hj => by
    rw [show 20 + j = 4 + (16 + j) by omega, byD_lay, byD_head p _ (by omega)]
    unfold headL
    rw [List.getD_eq_getElem?_getD, List.getD_eq_getElem?_getD, List.getElem?_append_right (by rw [List.length_append, beI_len, beI_len]; omega), List.length_append, beI_len, beI_len, show 16 + j - (8 + 8) = j by omega]
  have k0 := hk 0 (by omega)
  have k1 := hk 1 (by omega)
  have k2 := hk 2 (by omega)
  have k3 := hk 3 (by omega)
  have r1 := rdI_of _ 4 8 _ (flip63_lo p.id) (by have := flip63_hi p.id; omega) e1
  have r2 := rdI_of _ 12 8 _ (flip63_lo p.ep) (by have := flip63_hi p.ep; omega) e2
  have hp : (layP (bodyP p)).extract 24 (layP (bodyP p)).size = padN p.pay 232 := by
    have hs : ((layP (bodyP p)).extract 24 (layP (bodyP p)).size).size = 232 := by rw [ByteArray.size_extract, layP_size, bodyP_size]; omega
    apply byD_ext (by rw [hs, padN_size])
    intro j hj
    rw [hs] at hj
    rw [byD_cut _ _ _ _ (by rw [layP_size, bodyP_size]; omega), show 24 + j = 4 + (20 + j) by omega, byD_lay, byD_body _ _ hj, byD_pad _ _ _ hj]
  unfold tellP
  rw [r1, r2, hp]
  rw [show byD (layP (bodyP p)) 20 = p.kd / 16777216 % 256 from k0, show byD (layP (bodyP p)) 21 = p.kd / 65536 % 256 from k1, show byD (layP (bodyP p)) 22 = p.kd / 256 % 256 from k2, show byD (layP (bodyP p)) 23 = p.kd % 256 from k3]
  rw [unflip_flip _ (by omega) hb, unflip_flip _ (by omega) (by omega)]
  have ek : p.kd / 16777216 % 256 * 16777216 + p.kd / 65536 % 256 * 65536 + p.kd / 256 % 256 * 256 + p.kd % 256 = p.kd := by omega
  rw [ek]
theorem get_put {p : Pg} (h : putE p = 0) (hb : p.id ≤ 9223372036854775807) : getE (putS p) = 0 ∧ getP (putS p) = { p with pay := padN p.pay 232 } := by
  have hr := (putE_zero.1 h).1
  have e : putS p = layP (bodyP p) := if_pos h
  have hg : getE (putS p) = 0 := by
    unfold getE
    rw [if_pos (putS_size h), e, layP_tail, if_pos rfl, tell_put hr hb, if_pos]
    exact hr
  refine ⟨hg, ?_⟩
  unfold getP
  rw [if_pos hg, e, tell_put hr hb]
/-! ### on a disk -/
/-- how many pages so many sectors have -/
def manyP (n : Int) : Int := if n < 2 then 0 else (n - 2) / 4
/-- the i-th sector's text of a page's bytes -/
def quart (s : ByteArray) (i : Nat) : ByteArray := s.extract (64 * i) (64 * i + 64)
theorem byD_quart (s : ByteArray) (i j : Nat) (h : j < 64) : byD (quart s i) j = imgF s i j := by
  unfold quart imgF
  exact byD_cut _ _ _ _ (by omega)
/-- the first i of a page's sectors are written; the first error stops -/
def wrN (d : Dk) (s : ByteArray) (a : Int) : Nat → Dk × Int
  | 0 => (d, 0)
  | i + 1 => if (wrN d s a i).2 = 0 then (writeD (wrN d s a i).1 (a + (i : Int)) (quart s i), writeE (wrN d s a i).1 (a + (i : Int))) else wrN d s a i
def writeP (d : Dk) (p : Pg) : Dk × Int := if putE p = 0 then (if manyP d.n ≤ p.id then (d, 3) else wrN d (putS p) (2 + 4 * p.id) 4) else (d, putE p)
/-- a page's bytes as they stand on a disk -/
def pageS (d : Dk) (id : Nat) : ByteArray := allF (fun i => nowD d (2 + 4 * id + i)) 4
theorem pageS_size (d : Dk) (id : Nat) : (pageS d id).size = 256 := allF_size _ 4
def readPE (d : Dk) (id : Int) : Int :=
  if id < 0 ∨ manyP d.n ≤ id then 3 else if d.down then 13 else if getE (pageS d id.toNat) = 0 then (if (getP (pageS d id.toNat)).id = id then 0 else 14) else getE (pageS d id.toNat)
def readPP (d : Dk) (id : Int) : Pg := if readPE d id = 0 then getP (pageS d id.toNat) else noPg
theorem wr_n (d : Dk) (s : ByteArray) (a : Int) (i : Nat) : (wrN d s a i).1.n = d.n := by
  induction i with
  | zero => rfl
  | succ i ih =>
    simp only [wrN]
    split
    · rw [write_n, ih]
    · exact ih
theorem wr_ok {d : Dk} (h : OkD d) (s : ByteArray) (a : Int) (i : Nat) : OkD (wrN d s a i).1 := by
  induction i with
  | zero => exact h
  | succ i ih =>
    simp only [wrN]
    split
    · exact ih.write _ _
    · exact ih
theorem count_calls9 (d : Dk) : (countD d).calls = d.calls + 1 ∧ (countD d).arm ≤ d.arm := by
  unfold countD; split
  · exact ⟨rfl, Nat.zero_le _⟩
  · exact ⟨rfl, Nat.sub_le _ _⟩
theorem write_bd (d : Dk) (i : Int) (s : ByteArray) : (writeD d i s).calls ≤ d.calls + 1 ∧ (writeD d i s).arm ≤ d.arm := by
  unfold writeD
  split
  · omega
  · split
    · omega
    · have := count_calls9 { d with nw := upd d.nw i.toNat (byD s), is := upd d.is i.toNat true }
      exact ⟨Nat.le_of_eq this.1, this.2⟩
theorem wr_bd (d : Dk) (s : ByteArray) (a : Int) (i : Nat) : (wrN d s a i).1.calls ≤ d.calls + i ∧ (wrN d s a i).1.arm ≤ d.arm := by
  induction i with
  | zero => exact ⟨Nat.le_refl _, Nat.le_refl _⟩
  | succ i ih =>
    simp only [wrN]
    split
    · have := write_bd (wrN d s a i).1 (a + (i : Int)) (quart s i)
      dsimp only
      omega
    · omega
theorem writeP_n (d : Dk) (p : Pg) : (writeP d p).1.n = d.n := by
  unfold writeP
  split
  · split
    · rfl
    · exact wr_n _ _ _ _
  · rfl
theorem writeP_ok {d : Dk} (h : OkD d) (p : Pg) : OkD (writeP d p).1 := by
  unfold writeP
  split
  · split
    · exact h
    · exact wr_ok h _ _ _
  · exact h
theorem writeP_bd (d : Dk) (p : Pg) : (writeP d p).1.calls ≤ d.calls + 4 ∧ (writeP d p).1.arm ≤ d.arm := by
  unfold writeP
  split
  · split
    · exact ⟨by show d.calls ≤ _; omega, Nat.le_refl _⟩
    · exact wr_bd _ _ _ 4
  · exact ⟨by show d.calls ≤ _; omega, Nat.le_refl _⟩

end Go.Proofs.YtmflkkkbahghgaaGreat
namespace Go.Proofs.YtmflkkkbahghgaaGreat
open Go.RowKit
set_option linter.unusedVariables false
set_option linter.unusedSimpArgs false
set_option maxRecDepth 100000

/-- a root -/
structure Rt where
  ep : Int
  lg : Int
  parts : List Int
def needR (n : Int) : Int := if n < 1 then 0 else (n - 1) / 116 + 1
def RightR (r : Rt) : Prop := r.parts.Pairwise (· ≠ ·) ∧ (∀ x ∈ r.parts, 0 ≤ x ∧ x ≤ 1023) ∧ 1 ≤ r.ep ∧ r.ep ≤ 1099511627776 ∧ 0 ≤ r.lg ∧ r.lg ≤ 512 ∧ (r.parts.length : Int) = needR r.lg
instance (r : Rt) : Decidable (RightR r) := by unfold RightR; infer_instance
theorem need_le {n : Int} (h : n ≤ 512) : 0 ≤ needR n ∧ needR n ≤ 5 := by
  unfold needR; split <;> omega
/-- the bytes of numbers, two each -/
def twosL : List Int → List Int
  | [] => []
  | x :: l => beI 2 x ++ twosL l
theorem twosL_len (l : List Int) : (twosL l).length = 2 * l.length := by
  induction l with
  | nil => rfl
  | cons x l ih => simp only [twosL, List.length_append, beI_len, ih, List.length_cons]; omega
theorem twosL_bd (l : List Int) : ∀ x ∈ twosL l, 0 ≤ x ∧ x ≤ 255 := by
  induction l with
  | nil => intro x hx; exact absurd hx List.not_mem_nil
  | cons a l ih =>
    intro x hx
    rcases List.mem_append.1 hx with hx | hx
    · exact beI_mem _ _ x hx
    · exact ih x hx
/-- the 44 bytes under the check -/
def restR (r : Rt) : ByteArray := strOfNums (twosL (r.lg :: (r.parts.length : Int) :: r.parts))
def bodyR (r : Rt) : ByteArray := padN (restR r) 44
def epR (r : Rt) : ByteArray := strOfNums (beI 8 (flip63 r.ep))
def bytesR (r : Rt) : ByteArray := epR r ++ layP (bodyR r) ++ epR r
theorem epR_size (r : Rt) : (epR r).size = 8 := by unfold epR; rw [strOfNums_size, beI_len]
theorem bytesR_ep (r : Rt) (j : Nat) (h : j < 8) : byD (bytesR r) j = byD (epR r) j := by
  unfold bytesR
  rw [byD_app, ByteArray.size_append, epR_size, if_pos (by omega), byD_app, epR_size, if_pos h]
theorem bytesR_end (r : Rt) (j : Nat) (h : j < 8) : byD (bytesR r) (56 + j) = byD (epR r) j := by
  have hs : (layP (bodyR r)).size = 48 := by rw [layP_size]; unfold bodyR; rw [padN_size]
  unfold bytesR
  rw [byD_app, ByteArray.size_append, epR_size, hs, if_neg (by omega)]
  congr 1; omega
theorem epR_inj {a b : Rt} (ha : RightR a) (hb : RightR b) (h : ∀ j, j < 8 → byD (epR a) j = byD (epR b) j) : a.ep = b.ep := by
  obtain ⟨_, _, a1, a2, _⟩ := ha
  obtain ⟨_, _, b1, b2, _⟩ := hb
  have e : epR a = epR b := byD_ext (by rw [epR_size, epR_size]) fun j hj => h j (by rw [epR_size] at hj; exact hj)
  have n1 : numsAt (epR a) 0 8 = beI 8 (flip63 a.ep) := by
    have := numsAt_mid ByteArray.empty ByteArray.empty (beI 8 (flip63 a.ep)) (beI_mem _ _)
    rw [beI_len] at this
    simpa [epR] using this
  have n2 : numsAt (epR b) 0 8 = beI 8 (flip63 b.ep) := by
    have := numsAt_mid ByteArray.empty ByteArray.empty (beI 8 (flip63 b.ep)) (beI_mem _ _)
    rw [beI_len] at this
    simpa [epR] using this
  rw [e, n2] at n1
  have := beI_inj 8 _ _ (flip63_lo b.ep) (by have := flip63_hi b.ep; omega) (flip63_lo a.ep) (by have := flip63_hi a.ep; omega) n1
  have h1 := unflip_flip b.ep (by omega) (by omega)
  rw [this, unflip_flip a.ep (by omega) (by omega)] at h1
  exact h1
end Go.Proofs.YtmflkkkbahghgaaGreat
namespace Go.Proofs.YtmflkkkbahghgaaGreat
open Go.RowKit
set_option linter.unusedVariables false
set_option linter.unusedSimpArgs false
set_option maxRecDepth 100000

/-- a logical page: whether it is there, whether it was written since the last commit, its payload -/
structure Slt where
  is : Bool
  fr : Bool
  b : ByteArray
def noSlt : Slt := ⟨false, false, ByteArray.empty⟩
/-- the i-th: behind the end none -/
def slA (l : List Slt) (i : Nat) : Slt := l.getD i noSlt
theorem slA_out {l : List Slt} {i : Nat} (h : l.length ≤ i) : slA l i = noSlt := by
  unfold slA
  rw [List.getD_eq_getElem?_getD, List.getElem?_eq_none h]
  rfl
theorem slA_in {l : List Slt} {i : Nat} (h : i < l.length) : slA l i = l[i] := by
  unfold slA
  rw [List.getD_eq_getElem?_getD, List.getElem?_eq_getElem h]
  rfl
/-- how many of the first n are so -/
def cntB (p : Nat → Bool) : Nat → Nat
  | 0 => 0
  | n + 1 => cntB p n + (if p n then 1 else 0)
theorem cntB_le (p : Nat → Bool) (n : Nat) : cntB p n ≤ n := by
  induction n with
  | zero => exact Nat.le_refl _
  | succ n ih => simp only [cntB]; split <;> omega
theorem cntB_ext {p q : Nat → Bool} {n : Nat} (h : ∀ i, i < n → p i = q i) : cntB p n = cntB q n := by
  induction n with
  | zero => rfl
  | succ n ih => simp only [cntB]; rw [ih fun i hi => h i (by omega), h n (by omega)]
theorem cntB_none {p : Nat → Bool} {n : Nat} (h : ∀ i, i < n → p i = false) : cntB p n = 0 := by
  induction n with
  | zero => rfl
  | succ n ih => simp only [cntB]; rw [ih fun i hi => h i (by omega), h n (by omega)]; rfl
def isS (l : List Slt) (i : Nat) : Bool := (slA l i).is
def newS (l : List Slt) (i : Nat) : Bool := (slA l i).is && (slA l i).fr
theorem isS_out {l : List Slt} {i : Nat} (h : l.length ≤ i) : isS l i = false := by unfold isS; rw [slA_out h]; rfl
def thereS (l : List Slt) : Nat := cntB (isS l) l.length
def freshS (l : List Slt) : Nat := cntB (newS l) l.length
def leftS (now old : List Slt) (i : Nat) : Bool := isS old i && (!isS now i || (slA now i).fr)
def leavingS (now old : List Slt) : Nat := cntB (leftS now old) old.length
def keptS (old : List Slt) : Int := (thereS old : Int) + needR (old.length : Int)
def freeS (m : Int) (now old : List Slt) : Int := m - keptS old - (freshS now : Int)
/-- with another one in the place i -/
def setS (l : List Slt) (i : Nat) (x : Slt) : List Slt := (l ++ List.replicate (i + 1 - l.length) noSlt).set i x
theorem setS_len (l : List Slt) (i : Nat) (x : Slt) : (setS l i x).length = max l.length (i + 1) := by
  unfold setS
  rw [List.length_set, List.length_append, List.length_replicate]
  omega
theorem setS_at (l : List Slt) (i : Nat) (x : Slt) (k : Nat) : slA (setS l i x) k = if k = i then x else slA l k := by
  unfold slA setS
  rw [List.getD_eq_getElem?_getD, List.getD_eq_getElem?_getD, List.getElem?_set, List.length_append, List.length_replicate]
  by_cases c : i = k
  · subst c
    rw [if_pos rfl, if_pos rfl, if_pos (by omega)]
    rfl
  · rw [if_neg c, if_neg (fun e => c e.symm), List.getElem?_append]
    by_cases h : k < l.length
    · rw [if_pos h]
    · rw [if_neg h, List.getElem?_eq_none (l := l) (by omega), List.getElem?_replicate]
      split <;> rfl
/-- the least one that is not there -/
def gapS (l : List Slt) : Nat → Nat
  | 0 => 0
  | n + 1 => if gapS l n < n then gapS l n else if isS l n then n + 1 else n
theorem gapS_le (l : List Slt) (n : Nat) : gapS l n ≤ n := by
  induction n with
  | zero => exact Nat.le_refl _
  | succ n ih => simp only [gapS]; split
                 · omega
                 · split <;> omega
theorem gapS_ahead {l : List Slt} {n : Nat} : ∀ j, j < gapS l n → isS l j = true := by
  induction n with
  | zero => intro j hj; simp [gapS] at hj
  | succ n ih =>
    intro j hj
    simp only [gapS] at hj
    by_cases c : gapS l n < n
    · rw [if_pos c] at hj; exact ih j hj
    · rw [if_neg c] at hj
      have hn : gapS l n = n := by have := gapS_le l n; omega
      by_cases e : isS l n = true
      · rw [if_pos e] at hj
        by_cases e2 : j = n
        · rw [e2]; exact e
        · exact ih j (by omega)
      · rw [if_neg e] at hj; exact ih j (by omega)
theorem gapS_not {l : List Slt} {n : Nat} (h : gapS l n < n) : isS l (gapS l n) = false := by
  induction n with
  | zero => omega
  | succ n ih =>
    simp only [gapS] at h ⊢
    by_cases c : gapS l n < n
    · rw [if_pos c]; exact ih c
    · rw [if_neg c] at h ⊢
      by_cases e : isS l n = true
      · rw [if_pos e] at h; omega
      · rw [if_neg e]; simpa using e
theorem gapS_of {l : List Slt} {n i : Nat} (h : i ≤ n) (hn : i = n ∨ isS l i = false) (ha : ∀ j, j < i → isS l j = true) : gapS l n = i := by
  have h1 := gapS_le l n
  rcases Nat.lt_trichotomy (gapS l n) i with c | c | c
  · have := gapS_not (l := l) (n := n) (by omega)
    rw [ha _ c] at this
    cases this
  · exact c
  · rcases hn with rfl | hn
    · omega
    · rw [gapS_ahead i c] at hn; cases hn
/-- the least free place -/
def firstS (l : List Slt) : Nat := gapS l (l.length + 1)
theorem firstS_le (l : List Slt) : firstS l ≤ l.length := by
  have h := gapS_le l (l.length + 1)
  unfold firstS
  rcases Nat.lt_or_ge (gapS l (l.length + 1)) (l.length + 1) with c | c
  · omega
  · have := gapS_ahead (l := l) (n := l.length + 1) l.length (by omega)
    rw [isS_out (Nat.le_refl _)] at this
    cases this
/-- up to the last one that is there -/
def trimS (l : List Slt) : Nat → Nat
  | 0 => 0
  | n + 1 => if isS l n then n + 1 else trimS l n
theorem trimS_le (l : List Slt) (n : Nat) : trimS l n ≤ n := by
  induction n with
  | zero => exact Nat.le_refl _
  | succ n ih => simp only [trimS]; split <;> omega
theorem trimS_out {l : List Slt} {n : Nat} : ∀ i, trimS l n ≤ i → i < n → isS l i = false := by
  induction n with
  | zero => intro i _ h; omega
  | succ n ih =>
    intro i h1 h2
    simp only [trimS] at h1
    by_cases c : isS l n = true
    · rw [if_pos c] at h1; omega
    · rw [if_neg c] at h1
      by_cases e : i = n
      · subst e; simpa using c
      · exact ih i h1 (by omega)
def oldS (x : Slt) : Slt := { x with fr := false }
/-- what a commit would commit -/
def nextS (l : List Slt) : List Slt := (l.take (trimS l l.length)).map oldS
theorem nextS_len (l : List Slt) : (nextS l).length = trimS l l.length := by
  unfold nextS
  rw [List.length_map, List.length_take]
  have := trimS_le l l.length
  omega
theorem nextS_at (l : List Slt) (i : Nat) : slA (nextS l) i = if i < trimS l l.length then oldS (slA l i) else noSlt := by
  have hl := nextS_len l
  have := trimS_le l l.length
  by_cases c : i < trimS l l.length
  · rw [if_pos c, slA_in (by omega), slA_in (by omega)]
    simp [nextS]
  · rw [if_neg c, slA_out (by omega)]
theorem nextS_is (l : List Slt) (i : Nat) : isS (nextS l) i = isS l i := by
  unfold isS
  rw [nextS_at]
  by_cases c : i < trimS l l.length
  · rw [if_pos c]; rfl
  · rw [if_neg c]
    rcases Nat.lt_or_ge i l.length with h | h
    · exact (trimS_out i (by omega) h).symm
    · rw [slA_out h]
/-! ### the calls -/
/-- (cl: how often the disk was written to, at most) -/
structure Stt where
  many : Int
  now : List Slt
  old : List Slt
  ep : Int
  cl : Nat
def wrS (l : List Slt) (i : Nat) (s : ByteArray) : List Slt := setS l i ⟨true, true, fullP s⟩
def newE (x : Stt) (s : ByteArray) : Int := if 232 < s.size then 4 else if 512 ≤ firstS x.now ∨ freeS x.many x.now x.old < 1 then 11 else 0
def newI (x : Stt) (s : ByteArray) : Int := if newE x s = 0 then (firstS x.now : Int) else 0
def newX (x : Stt) (s : ByteArray) : Stt := if newE x s = 0 then { x with now := wrS x.now (firstS x.now) s, cl := x.cl + 64 } else x
def inS (l : List Slt) (i : Int) : Prop := 0 ≤ i ∧ isS l i.toNat = true
instance (l : List Slt) (i : Int) : Decidable (inS l i) := by unfold inS; infer_instance
def putWE (x : Stt) (l : Int) (s : ByteArray) : Int := if 232 < s.size then 4 else if inS x.now l then (if (slA x.now l.toNat).fr = false ∧ freeS x.many x.now x.old < 1 then 11 else 0) else 3
def putWX (x : Stt) (l : Int) (s : ByteArray) : Stt := if putWE x l s = 0 then { x with now := wrS x.now l.toNat s, cl := x.cl + 64 } else x
def dropSE (x : Stt) (l : Int) : Int := if inS x.now l then 0 else 3
def dropSX (x : Stt) (l : Int) : Stt := if inS x.now l then { x with now := setS x.now l.toNat noSlt } else x
def comSE (x : Stt) : Int := if freeS x.many x.now x.old < needR ((nextS x.now).length : Int) then 11 else 0
def comSX (x : Stt) : Stt := if freeS x.many x.now x.old < needR ((nextS x.now).length : Int) then x else { x with now := nextS x.now, old := nextS x.now, ep := x.ep + 1, cl := x.cl + 64 }
def aboSX (x : Stt) : Stt := { x with now := x.old }

end Go.Proofs.YtmflkkkbahghgaaGreat
