/- Pages: their bytes, what any bytes are as a page, there and back. Plain mathematics. -/
import Derived.Test.YtaaagmcdbmppmaaYPackByteMath
import Derived.Test.YtaaagmcdbmppmaaYCrcMath
import Derived.Test.YtaaagmcdbmppmaaYSecLaws
namespace Go.Proofs.Ytaaagmcdbmppmaa
open Go.RowKit
set_option linter.unusedVariables false
set_option linter.unusedSimpArgs false
set_option maxRecDepth 100000

/-- a page -/
structure Pg where
  id : Int
  ep : Int
  kd : Int
  pay : ByteArray
def noPg : Pg := ⟨0, 0, 0, ⟨#[]⟩⟩
def RightP (p : Pg) : Prop := 0 ≤ p.id ∧ 0 ≤ p.ep ∧ p.ep ≤ 1099511627776 ∧ 0 ≤ p.kd ∧ p.kd ≤ 2147483647
instance (p : Pg) : Decidable (RightP p) := by unfold RightP; infer_instance
/-- n bytes of a text, bytes 0 behind its end -/
def padN (s : ByteArray) (n : Nat) : ByteArray := strOfNums ((List.range n).map (byD s))
theorem padN_size (s : ByteArray) (n : Nat) : (padN s n).size = n := by unfold padN; rw [strOfNums_size]; simp
theorem byD_pad (s : ByteArray) (n j : Nat) (h : j < n) : byD (padN s n) j = byD s j := by
  unfold padN
  rw [byD_nums _ _ _ (by simpa using h)]
  · simp
  · intro x hx
    obtain ⟨i, _, rfl⟩ := List.mem_map.1 hx
    exact byD_bd s i
theorem padN_self (s : ByteArray) (n : Nat) (h : s.size = n) : padN s n = s := by
  apply byD_ext (by rw [padN_size, h])
  intro j hj
  rw [padN_size] at hj
  exact byD_pad s n j hj
/-- the document's Full: a text that is too long stays as it is -/
def fullP (s : ByteArray) : ByteArray := if s.size ≤ 232 then padN s 232 else s
def kindL (k : Int) : List Int := [k / 16777216 % 256, k / 65536 % 256, k / 256 % 256, k % 256]
theorem kindL_bd (k : Int) : ∀ x ∈ kindL k, 0 ≤ x ∧ x ≤ 255 := by
  intro x hx
  unfold kindL at hx
  simp only [List.mem_cons, List.not_mem_nil, or_false] at hx
  rcases hx with rfl | rfl | rfl | rfl <;> omega
def headL (p : Pg) : List Int := beI 8 (flip63 p.id) ++ beI 8 (flip63 p.ep) ++ kindL p.kd
theorem headL_len (p : Pg) : (headL p).length = 20 := by unfold headL; rw [List.length_append, List.length_append, beI_len, beI_len]; rfl
theorem headL_bd (p : Pg) : ∀ x ∈ headL p, 0 ≤ x ∧ x ≤ 255 := by
  intro x hx
  unfold headL at hx
  rcases List.mem_append.1 hx with hx | hx
  · rcases List.mem_append.1 hx with hx | hx
    · exact beI_mem _ _ x hx
    · exact beI_mem _ _ x hx
  · exact kindL_bd _ x hx
/-- the 252 bytes behind the check -/
def bodyP (p : Pg) : ByteArray := strOfNums (headL p) ++ padN p.pay 232
theorem bodyP_size (p : Pg) : (bodyP p).size = 252 := by unfold bodyP; rw [ByteArray.size_append, strOfNums_size, headL_len, padN_size]
def layP (s : ByteArray) : ByteArray := ⟨(laidL s.data.toList).toArray⟩
theorem layP_eq (s : ByteArray) : layP s = ⟨(le4 (crcN s.data.toList)).toArray⟩ ++ s := by
  apply ByteArray.ext
  apply Array.ext'
  simp [layP, laidL]
theorem layP_size (s : ByteArray) : (layP s).size = 4 + s.size := by
  rw [layP_eq, ByteArray.size_append]
  rfl
theorem byD_lay (s : ByteArray) (j : Nat) : byD (layP s) (4 + j) = byD s j := by
  rw [layP_eq, byD_app]
  have h4 : (ByteArray.mk (le4 (crcN s.data.toList)).toArray).size = 4 := rfl
  rw [h4, if_neg (by omega)]
  congr 1; omega
theorem layP_tail (s : ByteArray) : (layP s).extract 4 (layP s).size = s := by
  have h1 : ((layP s).extract 4 (layP s).size).size = s.size := by rw [ByteArray.size_extract, layP_size]; omega
  apply byD_ext h1
  intro j hj
  rw [h1] at hj
  rw [byD_cut _ _ _ _ (by rw [layP_size]; omega), byD_lay]

def putE (p : Pg) : Int := if RightP p then (if 232 < p.pay.size then 4 else 0) else 2
def putS (p : Pg) : ByteArray := if putE p = 0 then layP (bodyP p) else ⟨#[]⟩
/-- the page that bytes tell -/
def tellP (s : ByteArray) : Pg := ⟨unflip63 (rdI s 4 8), unflip63 (rdI s 12 8), byD s 20 * 16777216 + byD s 21 * 65536 + byD s 22 * 256 + byD s 23, s.extract 24 s.size⟩
def getE (s : ByteArray) : Int := if s.size = 256 then (if layP (s.extract 4 s.size) = s then (if RightP (tellP s) then 0 else 14) else 14) else 6
def getP (s : ByteArray) : Pg := if getE s = 0 then tellP s else noPg
theorem putE_zero {p : Pg} : putE p = 0 ↔ RightP p ∧ p.pay.size ≤ 232 := by
  unfold putE
  by_cases h : RightP p
  · rw [if_pos h]
    by_cases h2 : 232 < p.pay.size
    · rw [if_pos h2]; constructor
      · intro e; exact absurd e (by decide)
      · intro e; omega
    · rw [if_neg h2]; exact ⟨fun _ => ⟨h, by omega⟩, fun _ => rfl⟩
  · rw [if_neg h]; constructor
    · intro e; exact absurd e (by decide)
    · intro e; exact absurd e.1 h
theorem putS_size {p : Pg} (h : putE p = 0) : (putS p).size = 256 := by
  unfold putS
  rw [if_pos h, layP_size, bodyP_size]
theorem byteI_byD (s : ByteArray) (i : Nat) : byteI s i = byD s i := rfl
theorem byD_head (p : Pg) (j : Nat) (h : j < 20) : byD (bodyP p) j = (headL p).getD j 0 := by
  unfold bodyP
  rw [byD_app, strOfNums_size, headL_len, if_pos h, byD_nums _ (headL_bd p) _ (by rw [headL_len]; exact h), List.getD_eq_getElem?_getD, List.getElem?_eq_getElem (by rw [headL_len]; exact h)]
  rfl
theorem byD_body (p : Pg) (j : Nat) (h : j < 232) : byD (bodyP p) (20 + j) = byD p.pay j := by
  unfold bodyP
  rw [byD_app, strOfNums_size, headL_len, if_neg (by omega), show 20 + j - 20 = j by omega, byD_pad _ _ _ h]
theorem numsAt_ext {s : ByteArray} {a k : Nat} {l : List Int} (hl : l.length = k) (h : ∀ i, i < k → byD s (a + i) = l.getD i 0) : numsAt s a k = l := by
  apply List.ext_getElem (by rw [numsAt_len, hl])
  intro i h1 h2
  rw [numsAt_len] at h1
  have := h i h1
  rw [List.getD_eq_getElem?_getD, List.getElem?_eq_getElem h2] at this
  simp only [Option.getD_some] at this
  rw [← this]
  simp [numsAt, byteI_byD]
/-- what was put is got as it was, its payload filled up -/
theorem tell_put {p : Pg} (h : RightP p) (hb : p.id ≤ 9223372036854775807) : tellP (layP (bodyP p)) = { p with pay := padN p.pay 232 } := by
  obtain ⟨h1, h2, h3, h4, h5⟩ := h
  have e1 : numsAt (layP (bodyP p)) 4 8 = beI 8 (flip63 p.id) := numsAt_ext (beI_len _ _) fun i hi => by
    rw [byD_lay, byD_head p i (by omega)]
    unfold headL
    rw [List.append_assoc, List.getD_eq_getElem?_getD, List.getD_eq_getElem?_getD, List.getElem?_append_left (by rw [beI_len]; exact hi)]
  have e2 : numsAt (layP (bodyP p)) 12 8 = beI 8 (flip63 p.ep) := numsAt_ext (beI_len _ _) fun i hi => by
    rw [show 12 + i = 4 + (8 + i) by omega, byD_lay, byD_head p _ (by omega)]
    unfold headL
    rw [List.append_assoc, List.getD_eq_getElem?_getD, List.getD_eq_getElem?_getD, List.getElem?_append_right (by rw [beI_len]; omega), beI_len, show 8 + i - 8 = i by omega, List.getElem?_append_left (by rw [beI_len]; exact hi)]
  have hk : ∀ j, j < 4 → byD (layP (bodyP p)) (20 + j) = (kindL p.kd).getD j 0 := fun j hj => by
    rw [show 20 + j = 4 + (16 + j) by omega, byD_lay, byD_head p _ (by omega)]
    unfold headL
    rw [List.getD_eq_getElem?_getD, List.getD_eq_getElem?_getD, List.getElem?_append_right (by rw [List.length_append, beI_len, beI_len]; omega), List.length_append, beI_len, beI_len, show 16 + j - (8 + 8) = j by omega]
  have k0 := hk 0 (by omega)
  have k1 := hk 1 (by omega)
  have k2 := hk 2 (by omega)
  have k3 := hk 3 (by omega)
  have r1 := rdI_of _ 4 8 _ (flip63_lo p.id) (by have := flip63_hi p.id; omega) e1
  have r2 := rdI_of _ 12 8 _ (flip63_lo p.ep) (by have := flip63_hi p.ep; omega) e2
  have hp : (layP (bodyP p)).extract 24 (layP (bodyP p)).size = padN p.pay 232 := by
    have hs : ((layP (bodyP p)).extract 24 (layP (bodyP p)).size).size = 232 := by rw [ByteArray.size_extract, layP_size, bodyP_size]; omega
    apply byD_ext (by rw [hs, padN_size])
    intro j hj
    rw [hs] at hj
    rw [byD_cut _ _ _ _ (by rw [layP_size, bodyP_size]; omega), show 24 + j = 4 + (20 + j) by omega, byD_lay, byD_body _ _ hj, byD_pad _ _ _ hj]
  unfold tellP
  rw [r1, r2, hp]
  rw [show byD (layP (bodyP p)) 20 = p.kd / 16777216 % 256 from k0, show byD (layP (bodyP p)) 21 = p.kd / 65536 % 256 from k1, show byD (layP (bodyP p)) 22 = p.kd / 256 % 256 from k2, show byD (layP (bodyP p)) 23 = p.kd % 256 from k3]
  rw [unflip_flip _ (by omega) hb, unflip_flip _ (by omega) (by omega)]
  have ek : p.kd / 16777216 % 256 * 16777216 + p.kd / 65536 % 256 * 65536 + p.kd / 256 % 256 * 256 + p.kd % 256 = p.kd := by omega
  rw [ek]
theorem get_put {p : Pg} (h : putE p = 0) (hb : p.id ≤ 9223372036854775807) : getE (putS p) = 0 ∧ getP (putS p) = { p with pay := padN p.pay 232 } := by
  have hr := (putE_zero.1 h).1
  have e : putS p = layP (bodyP p) := if_pos h
  have hg : getE (putS p) = 0 := by
    unfold getE
    rw [if_pos (putS_size h), e, layP_tail, if_pos rfl, tell_put hr hb, if_pos]
    exact hr
  refine ⟨hg, ?_⟩
  unfold getP
  rw [if_pos hg, e, tell_put hr hb]
theorem getE_zero {s : ByteArray} (h : getE s = 0) : s.size = 256 ∧ layP (s.extract 4 s.size) = s ∧ RightP (tellP s) := by
  unfold getE at h
  by_cases h1 : s.size = 256
  · rw [if_pos h1] at h
    by_cases h2 : layP (s.extract 4 s.size) = s
    · rw [if_pos h2] at h
      by_cases h3 : RightP (tellP s)
      · exact ⟨h1, h2, h3⟩
      · rw [if_neg h3] at h; exact absurd h (by decide)
    · rw [if_neg h2] at h; exact absurd h (by decide)
  · rw [if_neg h1] at h; exact absurd h (by decide)
theorem rdI_flip (s : ByteArray) (a : Nat) : flip63 (unflip63 (rdI s a 8)) = rdI s a 8 := flip_unflip _ (rdI_bd s a 8).1 (rdI8_bd s a)
theorem head_tell (s : ByteArray) (j : Nat) (h : j < 20) : (headL (tellP s)).getD j 0 = byD s (4 + j) := by
  have hn : ∀ a i, i < 8 → (numsAt s a 8).getD i 0 = byD s (a + i) := fun a i hi => by
    rw [List.getD_eq_getElem?_getD]
    unfold numsAt
    rw [List.getElem?_map, List.getElem?_range hi]
    rfl
  have e : headL (tellP s) = numsAt s 4 8 ++ (numsAt s 12 8 ++ kindL (tellP s).kd) := by
    unfold headL
    show beI 8 (flip63 (unflip63 (rdI s 4 8))) ++ beI 8 (flip63 (unflip63 (rdI s 12 8))) ++ _ = _
    rw [rdI_flip, rdI_flip, beI_rdI, beI_rdI, List.append_assoc]
  rw [e, List.getD_eq_getElem?_getD]
  by_cases h8 : j < 8
  · rw [List.getElem?_append_left (by rw [numsAt_len]; exact h8), ← List.getD_eq_getElem?_getD, hn 4 j h8]
  · rw [List.getElem?_append_right (by rw [numsAt_len]; omega), numsAt_len]
    by_cases h16 : j < 16
    · rw [List.getElem?_append_left (by rw [numsAt_len]; omega), ← List.getD_eq_getElem?_getD, hn 12 (j - 8) (by omega)]
      congr 1; omega
    · rw [List.getElem?_append_right (by rw [numsAt_len]; omega), numsAt_len]
      have b0 := byD_bd s 20
      have b1 := byD_bd s 21
      have b2 := byD_bd s 22
      have b3 := byD_bd s 23
      have hk : (tellP s).kd = byD s 20 * 16777216 + byD s 21 * 65536 + byD s 22 * 256 + byD s 23 := rfl
      unfold kindL
      rw [hk]
      rcases (by omega : j = 16 ∨ j = 17 ∨ j = 18 ∨ j = 19) with rfl | rfl | rfl | rfl
      · show (byD s 20 * 16777216 + byD s 21 * 65536 + byD s 22 * 256 + byD s 23) / 16777216 % 256 = byD s 20
        omega
      · show (byD s 20 * 16777216 + byD s 21 * 65536 + byD s 22 * 256 + byD s 23) / 65536 % 256 = byD s 21
        omega
      · show (byD s 20 * 16777216 + byD s 21 * 65536 + byD s 22 * 256 + byD s 23) / 256 % 256 = byD s 22
        omega
      · show (byD s 20 * 16777216 + byD s 21 * 65536 + byD s 22 * 256 + byD s 23) % 256 = byD s 23
        omega
/-- what was got is put as the very bytes -/
theorem put_get {s : ByteArray} (h : getE s = 0) : putE (tellP s) = 0 ∧ putS (tellP s) = s := by
  obtain ⟨h1, h2, h3⟩ := getE_zero h
  have hsz : (tellP s).pay.size = 232 := by
    show (s.extract 24 s.size).size = 232
    rw [ByteArray.size_extract]; omega
  have hp : putE (tellP s) = 0 := putE_zero.2 ⟨h3, by omega⟩
  refine ⟨hp, ?_⟩
  unfold putS
  rw [if_pos hp]
  have hb : bodyP (tellP s) = s.extract 4 s.size := by
    have hs4 : (s.extract 4 s.size).size = 252 := by rw [ByteArray.size_extract]; omega
    apply byD_ext (by rw [bodyP_size, hs4])
    intro j hj
    rw [bodyP_size] at hj
    rw [byD_cut _ _ _ _ (by omega)]
    by_cases h20 : j < 20
    · rw [byD_head _ _ h20, head_tell _ _ h20]
    · obtain ⟨k, rfl⟩ : ∃ k, j = 20 + k := ⟨j - 20, by omega⟩
      rw [byD_body _ _ (by omega)]
      show byD (s.extract 24 s.size) k = _
      rw [byD_cut _ _ _ _ (by omega)]
      congr 1; omega
  rw [hb, h2]
theorem getP_pay {s : ByteArray} (h : getE s = 0) : (getP s).pay.size = 232 := by
  unfold getP
  rw [if_pos h]
  obtain ⟨h1, _, _⟩ := getE_zero h
  show (s.extract 24 s.size).size = 232
  rw [ByteArray.size_extract]; omega

/-! ### on a disk -/
/-- how many pages so many sectors have -/
def manyP (n : Int) : Int := if n < 2 then 0 else (n - 2) / 4
/-- the i-th sector's text of a page's bytes -/
def quart (s : ByteArray) (i : Nat) : ByteArray := s.extract (64 * i) (64 * i + 64)
theorem quart_size {s : ByteArray} (h : s.size = 256) {i : Nat} (hi : i < 4) : (quart s i).size = 64 := by unfold quart; rw [ByteArray.size_extract]; omega
theorem byD_quart (s : ByteArray) (i j : Nat) (h : j < 64) : byD (quart s i) j = imgF s i j := by
  unfold quart imgF
  exact byD_cut _ _ _ _ (by omega)
/-- the first i of a page's sectors are written; the first error stops -/
def wrN (d : Dk) (s : ByteArray) (a : Int) : Nat → Dk × Int
  | 0 => (d, 0)
  | i + 1 => if (wrN d s a i).2 = 0 then (writeD (wrN d s a i).1 (a + (i : Int)) (quart s i), writeE (wrN d s a i).1 (a + (i : Int))) else wrN d s a i
def writeP (d : Dk) (p : Pg) : Dk × Int := if putE p = 0 then (if manyP d.n ≤ p.id then (d, 3) else wrN d (putS p) (2 + 4 * p.id) 4) else (d, putE p)
/-- a page's bytes as they stand on a disk -/
def pageS (d : Dk) (id : Nat) : ByteArray := allF (fun i => nowD d (2 + 4 * id + i)) 4
theorem pageS_size (d : Dk) (id : Nat) : (pageS d id).size = 256 := allF_size _ 4
def readPE (d : Dk) (id : Int) : Int :=
  if id < 0 ∨ manyP d.n ≤ id then 3 else if d.down then 13 else if getE (pageS d id.toNat) = 0 then (if (getP (pageS d id.toNat)).id = id then 0 else 14) else getE (pageS d id.toNat)
def readPP (d : Dk) (id : Int) : Pg := if readPE d id = 0 then getP (pageS d id.toNat) else noPg
theorem wr_n (d : Dk) (s : ByteArray) (a : Int) (i : Nat) : (wrN d s a i).1.n = d.n := by
  induction i with
  | zero => rfl
  | succ i ih =>
    simp only [wrN]
    split
    · rw [write_n, ih]
    · exact ih
theorem wr_ok {d : Dk} (h : OkD d) (s : ByteArray) (a : Int) (i : Nat) : OkD (wrN d s a i).1 := by
  induction i with
  | zero => exact h
  | succ i ih =>
    simp only [wrN]
    split
    · exact ih.write _ _
    · exact ih
theorem count_calls9 (d : Dk) : (countD d).calls = d.calls + 1 ∧ (countD d).arm ≤ d.arm := by
  unfold countD; split
  · exact ⟨rfl, Nat.zero_le _⟩
  · exact ⟨rfl, Nat.sub_le _ _⟩
theorem write_bd (d : Dk) (i : Int) (s : ByteArray) : (writeD d i s).calls ≤ d.calls + 1 ∧ (writeD d i s).arm ≤ d.arm := by
  unfold writeD
  split
  · omega
  · split
    · omega
    · have := count_calls9 { d with nw := upd d.nw i.toNat (byD s), is := upd d.is i.toNat true }
      exact ⟨Nat.le_of_eq this.1, this.2⟩
theorem wr_bd (d : Dk) (s : ByteArray) (a : Int) (i : Nat) : (wrN d s a i).1.calls ≤ d.calls + i ∧ (wrN d s a i).1.arm ≤ d.arm := by
  induction i with
  | zero => exact ⟨Nat.le_refl _, Nat.le_refl _⟩
  | succ i ih =>
    simp only [wrN]
    split
    · have := write_bd (wrN d s a i).1 (a + (i : Int)) (quart s i)
      dsimp only
      omega
    · omega
theorem writeP_n (d : Dk) (p : Pg) : (writeP d p).1.n = d.n := by
  unfold writeP
  split
  · split
    · rfl
    · exact wr_n _ _ _ _
  · rfl
theorem writeP_ok {d : Dk} (h : OkD d) (p : Pg) : OkD (writeP d p).1 := by
  unfold writeP
  split
  · split
    · exact h
    · exact wr_ok h _ _ _
  · exact h
theorem writeP_bd (d : Dk) (p : Pg) : (writeP d p).1.calls ≤ d.calls + 4 ∧ (writeP d p).1.arm ≤ d.arm := by
  unfold writeP
  split
  · split
    · exact ⟨by show d.calls ≤ _; omega, Nat.le_refl _⟩
    · exact wr_bd _ _ _ 4
  · exact ⟨by show d.calls ≤ _; omega, Nat.le_refl _⟩

end Go.Proofs.Ytaaagmcdbmppmaa
