/- Root blocks: their bytes, there and back, and what a torn one says. Plain mathematics. -/
import Derived.Test.YtaaagmcdbmppmaaYPgMath
namespace Go.Proofs.Ytaaagmcdbmppmaa
open Go.RowKit
set_option linter.unusedVariables false
set_option linter.unusedSimpArgs false
set_option maxRecDepth 100000

/-- a root -/
structure Rt where
  ep : Int
  lg : Int
  parts : List Int
def needR (n : Int) : Int := if n < 1 then 0 else (n - 1) / 116 + 1
def RightR (r : Rt) : Prop := r.parts.Pairwise (· ≠ ·) ∧ (∀ x ∈ r.parts, 0 ≤ x ∧ x ≤ 1023) ∧ 1 ≤ r.ep ∧ r.ep ≤ 1099511627776 ∧ 0 ≤ r.lg ∧ r.lg ≤ 512 ∧ (r.parts.length : Int) = needR r.lg
instance (r : Rt) : Decidable (RightR r) := by unfold RightR; infer_instance
theorem need_le {n : Int} (h : n ≤ 512) : 0 ≤ needR n ∧ needR n ≤ 5 := by
  unfold needR; split <;> omega
theorem RightR.few {r : Rt} (h : RightR r) : r.parts.length ≤ 5 := by
  obtain ⟨_, _, _, _, _, h1, h2⟩ := h
  have := need_le h1
  omega
/-- the bytes of numbers, two each -/
def twosL : List Int → List Int
  | [] => []
  | x :: l => beI 2 x ++ twosL l
theorem twosL_len (l : List Int) : (twosL l).length = 2 * l.length := by
  induction l with
  | nil => rfl
  | cons x l ih => simp only [twosL, List.length_append, beI_len, ih, List.length_cons]; omega
theorem twosL_bd (l : List Int) : ∀ x ∈ twosL l, 0 ≤ x ∧ x ≤ 255 := by
  induction l with
  | nil => intro x hx; exact absurd hx List.not_mem_nil
  | cons a l ih =>
    intro x hx
    rcases List.mem_append.1 hx with hx | hx
    · exact beI_mem _ _ x hx
    · exact ih x hx
theorem twosL_at (l : List Int) : ∀ (i : Nat) (h : i < l.length), (twosL l).getD (2 * i) 0 = l[i] / 256 % 256 ∧ (twosL l).getD (2 * i + 1) 0 = l[i] % 256 := by
  induction l with
  | nil => intro i h; exact absurd h (Nat.not_lt_zero i)
  | cons a l ih =>
    intro i h
    have hb : beI 2 a = [a / 256 % 256, a % 256] := by simp [beI]
    have e : twosL (a :: l) = (a / 256 % 256) :: (a % 256) :: twosL l := by simp only [twosL, hb]; rfl
    rw [e]
    cases i with
    | zero => exact ⟨rfl, rfl⟩
    | succ i =>
      have := ih i (by simpa using h)
      rw [show 2 * (i + 1) = 2 * i + 1 + 1 by omega, show 2 * i + 1 + 1 + 1 = (2 * i + 1) + 1 + 1 by omega]
      simpa [List.getD] using this
/-- the 44 bytes under the check -/
def restR (r : Rt) : ByteArray := strOfNums (twosL (r.lg :: (r.parts.length : Int) :: r.parts))
def bodyR (r : Rt) : ByteArray := padN (restR r) 44
def epR (r : Rt) : ByteArray := strOfNums (beI 8 (flip63 r.ep))
def bytesR (r : Rt) : ByteArray := epR r ++ layP (bodyR r) ++ epR r
theorem epR_size (r : Rt) : (epR r).size = 8 := by unfold epR; rw [strOfNums_size, beI_len]
theorem bytesR_size (r : Rt) : (bytesR r).size = 64 := by
  unfold bytesR
  rw [ByteArray.size_append, ByteArray.size_append, epR_size, layP_size]
  unfold bodyR
  rw [padN_size]
theorem bytesR_ep (r : Rt) (j : Nat) (h : j < 8) : byD (bytesR r) j = byD (epR r) j := by
  unfold bytesR
  rw [byD_app, ByteArray.size_append, epR_size, if_pos (by omega), byD_app, epR_size, if_pos h]
theorem bytesR_body (r : Rt) (j : Nat) (h : j < 44) : byD (bytesR r) (12 + j) = byD (restR r) j := by
  have hs : (layP (bodyR r)).size = 48 := by rw [layP_size]; unfold bodyR; rw [padN_size]
  unfold bytesR
  rw [byD_app, ByteArray.size_append, epR_size, hs, if_pos (by omega), byD_app, epR_size, if_neg (by omega), show 12 + j - 8 = 4 + j by omega, byD_lay]
  unfold bodyR
  exact byD_pad _ _ _ h
theorem bytesR_end (r : Rt) (j : Nat) (h : j < 8) : byD (bytesR r) (56 + j) = byD (epR r) j := by
  have hs : (layP (bodyR r)).size = 48 := by rw [layP_size]; unfold bodyR; rw [padN_size]
  unfold bytesR
  rw [byD_app, ByteArray.size_append, epR_size, hs, if_neg (by omega)]
  congr 1; omega
/-- both ends of a root's bytes are the same -/
theorem bytesR_ends (r : Rt) (j : Nat) (h : j < 8) : byD (bytesR r) (56 + j) = byD (bytesR r) j := by rw [bytesR_end r j h, bytesR_ep r j h]
theorem epR_inj {a b : Rt} (ha : RightR a) (hb : RightR b) (h : ∀ j, j < 8 → byD (epR a) j = byD (epR b) j) : a.ep = b.ep := by
  obtain ⟨_, _, a1, a2, _⟩ := ha
  obtain ⟨_, _, b1, b2, _⟩ := hb
  have e : epR a = epR b := byD_ext (by rw [epR_size, epR_size]) fun j hj => h j (by rw [epR_size] at hj; exact hj)
  have n1 : numsAt (epR a) 0 8 = beI 8 (flip63 a.ep) := by
    have := numsAt_mid ByteArray.empty ByteArray.empty (beI 8 (flip63 a.ep)) (beI_mem _ _)
    rw [beI_len] at this
    simpa [epR] using this
  have n2 : numsAt (epR b) 0 8 = beI 8 (flip63 b.ep) := by
    have := numsAt_mid ByteArray.empty ByteArray.empty (beI 8 (flip63 b.ep)) (beI_mem _ _)
    rw [beI_len] at this
    simpa [epR] using this
  rw [e, n2] at n1
  have := beI_inj 8 _ _ (flip63_lo b.ep) (by have := flip63_hi b.ep; omega) (flip63_lo a.ep) (by have := flip63_hi a.ep; omega) n1
  have h1 := unflip_flip b.ep (by omega) (by omega)
  rw [this, unflip_flip a.ep (by omega) (by omega)] at h1
  exact h1
/-- unlike right roots have unlike bytes -/
theorem bytesR_inj {a b : Rt} (ha : RightR a) (hb : RightR b) (h : bytesR a = bytesR b) : a = b := by
  have he := epR_inj ha hb fun j hj => by rw [← bytesR_ep a j hj, h, bytesR_ep b j hj]
  have fa := ha.few
  have fb := hb.few
  obtain ⟨_, pa, _, _, la, la2, _⟩ := ha
  obtain ⟨_, pb, _, _, lb, lb2, _⟩ := hb
  have at_ : ∀ (r : Rt) (i : Nat) (hi : i < (r.lg :: (r.parts.length : Int) :: r.parts).length), i < 22 → byD (bytesR r) (12 + 2 * i) = (r.lg :: (r.parts.length : Int) :: r.parts)[i] / 256 % 256 ∧ byD (bytesR r) (12 + (2 * i + 1)) = (r.lg :: (r.parts.length : Int) :: r.parts)[i] % 256 := fun r i hi hlt => by
    have hl : (twosL (r.lg :: (r.parts.length : Int) :: r.parts)).length = 2 * (r.lg :: (r.parts.length : Int) :: r.parts).length := twosL_len _
    have ha := twosL_at _ i hi
    rw [bytesR_body _ _ (by omega), bytesR_body _ _ (by omega)]
    unfold restR
    rw [byD_nums _ (twosL_bd _) _ (by omega), byD_nums _ (twosL_bd _) _ (by omega)]
    rw [List.getD_eq_getElem?_getD, List.getElem?_eq_getElem (by omega), List.getD_eq_getElem?_getD, List.getElem?_eq_getElem (by omega)] at ha
    exact ha
  have val : ∀ (r : Rt) (i : Nat) (hi : i < (r.lg :: (r.parts.length : Int) :: r.parts).length), i < 22 → 0 ≤ (r.lg :: (r.parts.length : Int) :: r.parts)[i] → (r.lg :: (r.parts.length : Int) :: r.parts)[i] < 65536 → (r.lg :: (r.parts.length : Int) :: r.parts)[i] = byD (bytesR r) (12 + 2 * i) * 256 + byD (bytesR r) (12 + (2 * i + 1)) := fun r i hi hlt h0 h1 => by
    obtain ⟨e1, e2⟩ := at_ r i hi hlt
    rw [e1, e2]; omega
  have hlg : a.lg = b.lg := by
    have x := val a 0 (by simp) (by omega) (by simpa using la) (by show a.lg < _; omega)
    have y := val b 0 (by simp) (by omega) (by simpa using lb) (by show b.lg < _; omega)
    rw [h] at x
    exact x.trans y.symm
  have hlen : a.parts.length = b.parts.length := by
    have x := val a 1 (by simp) (by omega) (by show (0 : Int) ≤ (a.parts.length : Int); omega) (by show (a.parts.length : Int) < _; omega)
    have y := val b 1 (by simp) (by omega) (by show (0 : Int) ≤ (b.parts.length : Int); omega) (by show (b.parts.length : Int) < _; omega)
    rw [h] at x
    have z : (a.parts.length : Int) = (b.parts.length : Int) := x.trans y.symm
    omega
  have hparts : a.parts = b.parts := by
    apply List.ext_getElem hlen
    intro i h1 h2
    have m1 := pa _ (List.getElem_mem h1)
    have m2 := pb _ (List.getElem_mem h2)
    have x := val a (i + 2) (by simp only [List.length_cons]; omega) (by omega) (by show 0 ≤ a.parts[i]; exact m1.1) (by show a.parts[i] < _; omega)
    have y := val b (i + 2) (by simp only [List.length_cons]; omega) (by omega) (by show 0 ≤ b.parts[i]; exact m2.1) (by show b.parts[i] < _; omega)
    rw [h] at x
    exact x.trans y.symm
  cases a; cases b
  simp only at he hlg hparts
  rw [he, hlg, hparts]
theorem bytesR_val (r : Rt) (i : Nat) (hi : i < (r.lg :: (r.parts.length : Int) :: r.parts).length) (hlt : i < 22) (h0 : 0 ≤ (r.lg :: (r.parts.length : Int) :: r.parts)[i]) (h1 : (r.lg :: (r.parts.length : Int) :: r.parts)[i] < 65536) :
    byD (bytesR r) (12 + 2 * i) * 256 + byD (bytesR r) (12 + (2 * i + 1)) = (r.lg :: (r.parts.length : Int) :: r.parts)[i] := by
  have hl : (twosL (r.lg :: (r.parts.length : Int) :: r.parts)).length = 2 * (r.lg :: (r.parts.length : Int) :: r.parts).length := twosL_len _
  have ha := twosL_at _ i hi
  rw [bytesR_body _ _ (by omega), bytesR_body _ _ (by omega)]
  unfold restR
  rw [byD_nums _ (twosL_bd _) _ (by omega), byD_nums _ (twosL_bd _) _ (by omega)]
  rw [List.getD_eq_getElem?_getD, List.getElem?_eq_getElem (by omega), List.getD_eq_getElem?_getD, List.getElem?_eq_getElem (by omega)] at ha
  have e1 : (twosL (r.lg :: (r.parts.length : Int) :: r.parts))[2 * i] = _ := ha.1
  have e2 : (twosL (r.lg :: (r.parts.length : Int) :: r.parts))[2 * i + 1] = _ := ha.2
  rw [e1, e2]
  omega
/-- what a text says: both epochs, the check, the numbers under it (of the bytes behind these, whatever they are, the check is right) -/
structure SaysR (s : ByteArray) (r : Rt) : Prop where
  right : RightR r
  size : s.size = 64
  ep : ∀ j, j < 8 → byD s j = byD (epR r) j
  again : ∀ j, j < 8 → byD s (56 + j) = byD (epR r) j
  chk : s.extract 8 56 = layP (s.extract 12 56)
  lg : byD s 12 * 256 + byD s 13 = r.lg
  many : byD s 14 * 256 + byD s 15 = (r.parts.length : Int)
  part : ∀ i (h : i < r.parts.length), byD s (16 + 2 * i) * 256 + byD s (17 + 2 * i) = r.parts[i]
/-- a root's bytes say it -/
theorem SaysR.of {r : Rt} (h : RightR r) : SaysR (bytesR r) r := by
  have few := h.few
  have h0 := h
  obtain ⟨_, pb, _, _, l1, l2, _⟩ := h
  have hs : (layP (bodyR r)).size = 48 := by rw [layP_size]; unfold bodyR; rw [padN_size]
  have hb : (bodyR r).size = 44 := by unfold bodyR; rw [padN_size]
  have mid : ∀ j, j < 48 → byD (bytesR r) (8 + j) = byD (layP (bodyR r)) j := fun j hj => by
    unfold bytesR
    rw [byD_app, ByteArray.size_append, epR_size, hs, if_pos (by omega), byD_app, epR_size, if_neg (by omega)]
    congr 1; omega
  have body : (bytesR r).extract 12 56 = bodyR r := byD_ext (by rw [ByteArray.size_extract, bytesR_size, hb]; rfl) fun j hj => by
    rw [ByteArray.size_extract, bytesR_size] at hj
    have hj2 : j < 44 := by simpa using hj
    rw [byD_cut _ _ _ _ (by omega), show 12 + j = 8 + (4 + j) by omega, mid _ (by omega), byD_lay]
  refine ⟨h0, bytesR_size r, bytesR_ep r, bytesR_end r, ?_, ?_, ?_, fun i hi => ?_⟩
  · rw [body]
    refine byD_ext (by rw [ByteArray.size_extract, bytesR_size, hs]; rfl) fun j hj => ?_
    rw [ByteArray.size_extract, bytesR_size] at hj
    have hj2 : j < 48 := by simpa using hj
    rw [byD_cut _ _ _ _ (by omega), mid j hj2]
  · exact bytesR_val r 0 (by simp) (by omega) (by simpa using l1) (by show r.lg < _; omega)
  · exact bytesR_val r 1 (by simp) (by omega) (by show (0 : Int) ≤ (r.parts.length : Int); omega) (by show (r.parts.length : Int) < _; omega)
  · have m := pb _ (List.getElem_mem hi)
    have := bytesR_val r (i + 2) (by simp only [List.length_cons]; omega) (by omega) (by show 0 ≤ r.parts[i]; exact m.1) (by show r.parts[i] < _; omega)
    rw [show 12 + 2 * (i + 2) = 16 + 2 * i by omega, show 12 + (2 * (i + 2) + 1) = 17 + 2 * i by omega] at this
    exact this
theorem SaysR.one {s : ByteArray} {a b : Rt} (ha : SaysR s a) (hb : SaysR s b) : a = b := by
  have he := epR_inj ha.right hb.right fun j hj => (ha.ep j hj).symm.trans (hb.ep j hj)
  have hl := ha.lg.symm.trans hb.lg
  have hn : (a.parts.length : Int) = (b.parts.length : Int) := ha.many.symm.trans hb.many
  have hp : a.parts = b.parts := List.ext_getElem (by omega) fun i h1 h2 => (ha.part i h1).symm.trans (hb.part i h2)
  cases a; cases b
  simp only at he hl hp
  rw [he, hl, hp]
/-- a root that is written over another one of another epoch, in any beginning alone: the old one, the new one, or nothing -/
theorem torn_root {a b r : Rt} (ha : RightR a) (hb : RightR b) (hne : a.ep ≠ b.ep) (k : Nat) (hk : k ≤ 64) (h : SaysR ((bytesR b).extract 0 k ++ (bytesR a).extract k 64) r) : r = a ∨ r = b := by
  have sa := bytesR_size a
  have sb := bytesR_size b
  have z1 : ((bytesR b).extract 0 k).size = k := by rw [ByteArray.size_extract]; omega
  have z2 : ((bytesR a).extract k 64).size = 64 - k := by rw [ByteArray.size_extract]; omega
  have at_ : ∀ j, j < 64 → byD ((bytesR b).extract 0 k ++ (bytesR a).extract k 64) j = if j < k then byD (bytesR b) j else byD (bytesR a) j := fun j hj => by
    rw [byD_app, z1]
    split
    · rw [byD_cut _ _ _ _ (by omega), Nat.zero_add]
    · rw [byD_cut _ _ _ _ (by omega)]; congr 1; omega
  have ends : ∀ j, j < 8 → byD ((bytesR b).extract 0 k ++ (bytesR a).extract k 64) (56 + j) = byD ((bytesR b).extract 0 k ++ (bytesR a).extract k 64) j := fun j hj => (h.again j hj).trans (h.ep j hj).symm
  by_cases h56 : k ≤ 56
  · by_cases h8 : k ≤ 8
    · left
      have e : (bytesR b).extract 0 k ++ (bytesR a).extract k 64 = bytesR a := byD_ext (by rw [ByteArray.size_append, z1, z2, sa]; omega) fun j hj => by
        rw [ByteArray.size_append, z1, z2] at hj
        rw [at_ j (by omega)]
        by_cases c : j < k
        · have := ends j (by omega)
          rw [at_ j (by omega), at_ (56 + j) (by omega), if_neg (by omega), if_pos c, bytesR_ends a j (by omega)] at this
          rw [if_pos c, ← this]
        · rw [if_neg c]
      rw [e] at h
      exact h.one (SaysR.of ha)
    · exfalso
      refine hne (epR_inj ha hb fun j hj => ?_)
      have := ends j hj
      rw [at_ j (by omega), at_ (56 + j) (by omega), if_neg (by omega), if_pos (by omega), bytesR_ends a j hj] at this
      rw [← bytesR_ep a j hj, ← bytesR_ep b j hj, this]
  · right
    have e : (bytesR b).extract 0 k ++ (bytesR a).extract k 64 = bytesR b := byD_ext (by rw [ByteArray.size_append, z1, z2, sb]; omega) fun j hj => by
      rw [ByteArray.size_append, z1, z2] at hj
      rw [at_ j (by omega)]
      by_cases c : j < k
      · rw [if_pos c]
      · rw [if_neg c]
        have := ends (j - 56) (by omega)
        rw [at_ (j - 56) (by omega), at_ (56 + (j - 56)) (by omega), show 56 + (j - 56) = j by omega, if_neg c, if_pos (by omega)] at this
        rw [this, ← bytesR_ends b (j - 56) (by omega), show 56 + (j - 56) = j by omega]
    rw [e] at h
    exact h.one (SaysR.of hb)

end Go.Proofs.Ytaaagmcdbmppmaa
