/- The program's Get: what it makes of a slot's text. Plain mathematics. -/
import Derived.Test.YtaaagmcdbmppmaaYRtP5
import Derived.Test.YtaaagmcdbmppmaaYRtP6
namespace Go.Proofs.Ytaaagmcdbmppmaa
open Go.RowKit Go.Deep
set_option linter.unusedVariables false
set_option linter.unusedSimpArgs false
set_option maxRecDepth 100000

/-- the epoch that stands at a place -/
def epAt (s : ByteArray) (a : Nat) : Int := unflip63 (rdI s a 8)
theorem epAt_of {s : ByteArray} {a : Nat} {r : Rt} (hr : RightR r) (h : ∀ j, j < 8 → byD s (a + j) = byD (epR r) j) : epAt s a = r.ep := by
  have h1 := hr.2.2.1
  have h2 := hr.2.2.2.1
  have e : rdI s a 8 = flip63 r.ep := by
    refine rdI_of s a 8 _ (flip63_lo _) (by have := flip63_hi r.ep; omega) ?_
    refine List.ext_getElem (by rw [numsAt_len, beI_len]) fun i h3 h4 => ?_
    have hi : i < 8 := by rw [numsAt_len] at h3; exact h3
    have e1 : ∀ (h5 : i < ((List.range 8).map fun i => byteI s (a + i)).length), ((List.range 8).map fun i => byteI s (a + i))[i] = byteI s (a + i) := fun h5 => by rw [List.getElem_map, List.getElem_range]
    rw [show (numsAt s a 8)[i] = byteI s (a + i) from e1 h3, byteI_byD, h i hi]
    exact byD_nums _ (beI_mem _ _) _ _
  unfold epAt
  rw [e, unflip_flip _ (by omega) (by omega)]
theorem epAt_bytes {s : ByteArray} {a : Nat} {r : Rt} (he : epAt s a = r.ep) {j : Nat} (hj : j < 8) : byD s (a + j) = byD (epR r) j := by
  have e : flip63 r.ep = rdI s a 8 := by
    rw [← he]
    exact flip_unflip _ (rdI_bd s a 8).1 (rdI8_bd s a)
  unfold epR
  rw [e, beI_rdI, byD_nums _ (numsAt_mem s a 8) j (by rw [numsAt_len]; exact hj)]
  have e1 : ∀ (h5 : j < ((List.range 8).map fun i => byteI s (a + i)).length), ((List.range 8).map fun i => byteI s (a + i))[j] = byteI s (a + j) := fun h5 => by rw [List.getElem_map, List.getElem_range]
  exact (byteI_byD s (a + j)).symm.trans (e1 (by rw [List.length_map, List.length_range]; exact hj)).symm
theorem epAt_bd (s : ByteArray) (a : Nat) : big64 (epAt s a) := by
  unfold big64 epAt unflip63 wrap64
  omega
/-- what the numbers under the check are -/
def rtAt (s : ByteArray) : Rt := ⟨epAt s 0, rd2 s 12, (List.range (rd2 s 14).toNat).map fun i => rd2 s (16 + 2 * i)⟩
/-- the check is right -/
def ChkOk (s : ByteArray) : Prop := s.extract 8 56 = layP (s.extract 12 56)
theorem rtAt_len (s : ByteArray) : ((rtAt s).parts.length : Int) = rd2 s 14 := by
  have := rd2_bd s 14
  simp [rtAt]; omega
theorem rtAt_part (s : ByteArray) (i : Nat) (h : i < (rtAt s).parts.length) : (rtAt s).parts[i] = rd2 s (16 + 2 * i) := by
  have e1 : ∀ (h5 : i < ((List.range (rd2 s 14).toNat).map fun i => rd2 s (16 + 2 * i)).length), ((List.range (rd2 s 14).toNat).map fun i => rd2 s (16 + 2 * i))[i] = rd2 s (16 + 2 * i) := fun h5 => by rw [List.getElem_map, List.getElem_range]
  exact e1 h
theorem rd2_17 (s : ByteArray) (i : Nat) : rd2 s (16 + 2 * i) = byD s (16 + 2 * i) * 256 + byD s (17 + 2 * i) := by
  unfold rd2
  rw [show 16 + 2 * i + 1 = 17 + 2 * i by omega]
theorem says_rtAt {s : ByteArray} {x : Rt} (h : SaysR s x) : x = rtAt s ∧ epAt s 56 = epAt s 0 ∧ ChkOk s := by
  have e0 := epAt_of (s := s) (a := 0) h.right fun j hj => by rw [Nat.zero_add]; exact h.ep j hj
  have e1 := epAt_of (s := s) (a := 56) h.right h.again
  refine ⟨?_, e1.trans e0.symm, h.chk⟩
  have hn : rd2 s 14 = (x.parts.length : Int) := h.many
  have hp : x.parts = (rtAt s).parts := List.ext_getElem (by have := rtAt_len s; omega) fun i h1 h2 => by
    exact (h.part i h1).symm.trans ((rd2_17 s i).symm.trans (rtAt_part s i h2).symm)
  have hl : x.lg = (rtAt s).lg := h.lg.symm
  have he : x.ep = (rtAt s).ep := e0.symm
  cases x
  simp only at hp hl he
  rw [hp, hl, he]
theorem rtAt_says {s : ByteArray} (hz : s.size = 64) (h1 : epAt s 56 = epAt s 0) (h2 : ChkOk s) (h3 : RightR (rtAt s)) : SaysR s (rtAt s) :=
  ⟨h3, hz, fun j hj => by have := epAt_bytes (s := s) (a := 0) (r := rtAt s) rfl hj; rwa [Nat.zero_add] at this, fun j hj => epAt_bytes (r := rtAt s) h1 hj, h2, rfl, (rtAt_len s).symm, fun i hi => by rw [rtAt_part s i hi, rd2_17]⟩
/-- the body under the check, when Cut takes it -/
theorem cut_body {s : ByteArray} (hz : s.size = 64) : (ChkOk s ∧ cutSpec (s.extract 8 56) = (s.extract 12 56, 0)) ∨ (¬ ChkOk s ∧ cutSpec (s.extract 8 56) = (⟨#[]⟩, 14)) := by
  have z : (s.extract 8 56).size = 48 := by rw [ByteArray.size_extract]; omega
  have e : (s.extract 8 56).data.toList.drop 4 = (s.extract 12 56).data.toList := by
    have e2 : (s.extract 8 56).extract 4 48 = s.extract 12 56 := by
      apply byD_ext
      · rw [ByteArray.size_extract, z, ByteArray.size_extract]; omega
      · intro j hj
        rw [ByteArray.size_extract, z] at hj
        have hj2 : j < 44 := by simpa using hj
        rw [byD_cut _ _ _ _ (by omega), byD_cut _ _ _ _ (by omega), byD_cut _ _ _ _ (by omega)]
        congr 1; omega
    rw [← ext_drop, z, e2]
  have k : ChkOk s ↔ (s.extract 8 56).data.toList = laidL (s.extract 12 56).data.toList := by
    unfold ChkOk layP
    constructor
    · intro h; rw [h]
    · intro h
      apply ByteArray.ext
      apply Array.ext'
      rw [h]
  unfold cutSpec
  rw [if_neg (by omega), e]
  by_cases c : ChkOk s
  · exact .inl ⟨c, by rw [if_pos (k.1 c)]⟩
  · exact .inr ⟨c, by rw [if_neg fun h => c (k.2 h)]⟩
theorem rd2_body {s : ByteArray} (hz : s.size = 64) {a : Nat} (ha : a + 2 ≤ 44) : rd2 (s.extract 12 56) a = rd2 s (12 + a) := by
  unfold rd2
  rw [byD_cut _ _ _ _ (by omega), byD_cut _ _ _ _ (by omega)]
  rfl

end Go.Proofs.Ytaaagmcdbmppmaa
