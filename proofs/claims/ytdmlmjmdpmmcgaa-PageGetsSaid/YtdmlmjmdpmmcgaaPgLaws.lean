/- What is written to a page is read again, and changes no other one. Plain mathematics. -/
import Derived.Test.YtdmlmjmdpmmcgaaPgMath
namespace Go.Proofs.Ytdmlmjmdpmmcgaa
open Go.RowKit
set_option linter.unusedVariables false
set_option linter.unusedSimpArgs false
set_option maxRecDepth 100000

theorem write_free {d : Dk} (hd : d.down = false) (ha : d.arm = 0) {i : Int} (h0 : 0 ≤ i) (h1 : i < (d.n : Int)) (s : ByteArray) :
    writeE d i = 0 ∧ (writeD d i s).down = false ∧ (writeD d i s).arm = 0 ∧ ∀ k : Nat, nowD (writeD d i s) k = if (k : Int) = i then byD s else nowD d k := by
  have hi : ¬ (i < 0 ∨ (d.n : Int) ≤ i) := by omega
  have e : writeD d i s = countD { d with nw := upd d.nw i.toNat (byD s), is := upd d.is i.toNat true } := by
    unfold writeD
    rw [if_neg (by rw [hd]; decide), if_neg hi]
  have ec : countD { d with nw := upd d.nw i.toNat (byD s), is := upd d.is i.toNat true } = { d with nw := upd d.nw i.toNat (byD s), is := upd d.is i.toNat true, calls := d.calls + 1, arm := d.arm - 1 } := by
    unfold countD
    rw [if_neg (show ¬ d.arm = 1 by omega)]
  rw [e, ec]
  refine ⟨?_, hd, by show d.arm - 1 = 0; omega, fun k => ?_⟩
  · unfold writeE
    rw [if_neg (by rw [hd]; decide), if_neg hi]
    unfold countE
    rw [if_neg (by omega)]
  · show (if upd d.is i.toNat true k then upd d.nw i.toNat (byD s) k else d.sf k) = _
    by_cases hk : (k : Int) = i
    · have : k = i.toNat := by omega
      rw [if_pos hk, this]
      simp [upd]
    · have : k ≠ i.toNat := by omega
      rw [if_neg hk]
      simp [upd, this, nowD]
theorem wr_free {d : Dk} (hd : d.down = false) (ha : d.arm = 0) (s : ByteArray) (a : Nat) : ∀ i, a + i ≤ d.n → (wrN d s (a : Int) i).2 = 0 ∧ (wrN d s (a : Int) i).1.down = false ∧ (wrN d s (a : Int) i).1.arm = 0 ∧ ∀ k : Nat, nowD (wrN d s (a : Int) i).1 k = if a ≤ k ∧ k < a + i then byD (quart s (k - a)) else nowD d k
  | 0, _ => ⟨rfl, hd, ha, fun k => by rw [if_neg (by omega)]; rfl⟩
  | i + 1, h => by
    obtain ⟨h1, h2, h3, h4⟩ := wr_free hd ha s a i (by omega)
    have hn := wr_n d s (a : Int) i
    obtain ⟨w1, w2, w3, w4⟩ := write_free h2 h3 (i := (a : Int) + (i : Int)) (by omega) (by rw [hn]; omega) (quart s i)
    have e : wrN d s (a : Int) (i + 1) = (writeD (wrN d s (a : Int) i).1 ((a : Int) + (i : Int)) (quart s i), writeE (wrN d s (a : Int) i).1 ((a : Int) + (i : Int))) := by
      simp only [wrN, if_pos h1]
    rw [e]
    refine ⟨w1, w2, w3, fun k => ?_⟩
    show nowD (writeD (wrN d s (a : Int) i).1 ((a : Int) + (i : Int)) (quart s i)) k = _
    rw [w4 k]
    by_cases hk : (k : Int) = (a : Int) + (i : Int)
    · have : k - a = i := by omega
      rw [if_pos hk, if_pos (by omega), this]
    · rw [if_neg hk, h4 k]
      by_cases h5 : a ≤ k ∧ k < a + i
      · rw [if_pos h5, if_pos (by omega)]
      · rw [if_neg h5, if_neg (by omega)]
theorem allF_ext {f g : Nat → Nat → Int} : ∀ k, (∀ i, i < k → ∀ j, j < 64 → f i j = g i j) → allF f k = allF g k
  | 0, _ => rfl
  | k + 1, h => by
    simp only [allF]
    rw [allF_ext k fun i hi => h i (by omega), sec_ext (h k (by omega))]
theorem all_quart {s : ByteArray} (h : s.size = 256) {f : Nat → Nat → Int} (hf : ∀ i, i < 4 → ∀ j, j < 64 → f i j = byD (quart s i) j) : allF f 4 = s := by
  have e : allF f 4 = allF (imgF s) 4 := allF_ext 4 fun i hi j hj => by rw [hf i hi j hj, byD_quart _ _ _ hj]
  have e2 := all_img s 4 (by omega)
  have e3 : (allF (imgF s) 4).extract 0 s.size = allF (imgF s) 4 := by
    have hs := allF_size (imgF s) 4
    apply byD_ext
    · rw [ByteArray.size_extract, hs]; omega
    · intro j hj
      rw [ByteArray.size_extract, hs] at hj
      rw [byD_cut _ _ _ _ (by omega), Nat.zero_add]
  rw [e, ← e3, e2]
theorem many_in {n : Nat} {id : Int} (h : id < manyP (n : Int)) (h0 : 0 ≤ id) : 2 + 4 * id + 4 ≤ (n : Int) := by
  unfold manyP at h
  by_cases hn : (n : Int) < 2
  · rw [if_pos hn] at h; omega
  · rw [if_neg hn] at h; omega
/-- a page that is written to a disk that is up and not armed -/
theorem writeP_free {d : Dk} (hd : d.down = false) (ha : d.arm = 0) {p : Pg} (hp : putE p = 0) (hm : p.id < manyP (d.n : Int)) :
    (writeP d p).2 = 0 ∧ (writeP d p).1.down = false ∧ (writeP d p).1.arm = 0 ∧ (pageS (writeP d p).1 p.id.toNat = putS p) ∧ ∀ q : Nat, (q : Int) ≠ p.id → pageS (writeP d p).1 q = pageS d q := by
  have hr := (putE_zero.1 hp).1
  have h0 : 0 ≤ p.id := hr.1
  have hin := many_in hm h0
  obtain ⟨a, hA⟩ : ∃ a : Nat, (a : Int) = 2 + 4 * p.id := ⟨(2 + 4 * p.id).toNat, by omega⟩
  have e : writeP d p = wrN d (putS p) (a : Int) 4 := by
    unfold writeP
    rw [if_pos hp, if_neg (by omega), hA]
  obtain ⟨h1, h2, h3, h4⟩ := wr_free hd ha (putS p) a 4 (by omega)
  rw [e]
  refine ⟨h1, h2, h3, ?_, fun q hq => ?_⟩
  · unfold pageS
    refine all_quart (putS_size hp) fun i hi j hj => ?_
    rw [h4, if_pos (by omega)]
    have : 2 + 4 * p.id.toNat + i - a = i := by omega
    rw [this]
  · unfold pageS
    refine allF_ext 4 fun i hi j hj => ?_
    rw [h4, if_neg (by omega)]
/-- it is read as it was written -/
theorem readP_of {d : Dk} (hd : d.down = false) {p : Pg} (hp : putE p = 0) (hm : p.id < manyP (d.n : Int)) (hb : p.id ≤ 9223372036854775807) (hs : pageS d p.id.toNat = putS p) :
    readPE d p.id = 0 ∧ readPP d p.id = { p with pay := padN p.pay 232 } := by
  have hr := (putE_zero.1 hp).1
  have h0 : 0 ≤ p.id := hr.1
  obtain ⟨g1, g2⟩ := get_put hp hb
  have e : readPE d p.id = 0 := by
    unfold readPE
    rw [if_neg (by omega), if_neg (by rw [hd]; decide), hs, if_pos g1, g2, if_pos rfl]
  refine ⟨e, ?_⟩
  unfold readPP
  rw [if_pos e, hs, g2]
/-- two pages of one disk -/
theorem two_pages {d : Dk} (hd : d.down = false) (ha : d.arm = 0) {p q : Pg} (hp : putE p = 0) (hq : putE q = 0) (hm : p.id < manyP (d.n : Int)) (hm2 : q.id < manyP (d.n : Int)) (hb : p.id ≤ 9223372036854775807) (hb2 : q.id ≤ 9223372036854775807) (hne : p.id ≠ q.id) :
    (writeP d p).2 = 0 ∧ (writeP (writeP d p).1 q).2 = 0 ∧ readPE (writeP (writeP d p).1 q).1 p.id = 0 ∧ readPE (writeP (writeP d p).1 q).1 q.id = 0 ∧
      readPP (writeP (writeP d p).1 q).1 p.id = { p with pay := padN p.pay 232 } ∧ readPP (writeP (writeP d p).1 q).1 q.id = { q with pay := padN q.pay 232 } := by
  have h0 : 0 ≤ p.id := (putE_zero.1 hp).1.1
  obtain ⟨a1, a2, a3, a4, a5⟩ := writeP_free hd ha hp hm
  have hn := writeP_n d p
  obtain ⟨b1, b2, b3, b4, b5⟩ := writeP_free a2 a3 hq (by rw [hn]; exact hm2)
  have hn2 := writeP_n (writeP d p).1 q
  have r1 := readP_of (d := (writeP (writeP d p).1 q).1) b2 hp (by rw [hn2, hn]; exact hm) hb (by rw [b5 _ (by omega), a4])
  have r2 := readP_of (d := (writeP (writeP d p).1 q).1) b2 hq (by rw [hn2, hn]; exact hm2) hb2 b4
  exact ⟨a1, b1, r1.1, r2.1, r1.2, r2.2⟩

end Go.Proofs.Ytdmlmjmdpmmcgaa
