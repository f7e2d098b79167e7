/- The walk of CrcBits. -/
import Derived.Test.YtifoeolklmlbnaaCrcBitMath
import Derived.Test.YtifoeolklmlbnaaBytesOwn
namespace Go.Proofs.Ytifoeolklmlbnaa
open Go.RowKit

/-- a row of bytes of which one has been stored anew, in every world behind -/
theorem row_set {w2 : World} {g n i : Nat} {e : TypeId} {cur : Array Value} {fz : Nat × Nat} {Z : List UInt8} (d : UInt8) (hg : w2.heap[g]? = some (.cells cur e fz))
    (hn : Z.length = n) (htake : cur.toList.take n = Lib.byteCells Z) (hi : i < n) (w' : World)
    (hb : Below (w2.setCell ⟨g, i, none⟩ (.int .u8 (d.toNat : Int))).drew.heap.size (w2.setCell ⟨g, i, none⟩ (.int .u8 (d.toNat : Int))).drew w') :
    ∀ j (hj : j < (Z.set i d).length), w'.cell? ⟨g, j, none⟩ = some (.int .u8 ((Z.set i d)[j].toNat : Int)) := by
  intro j hj
  have hrow : (w2.setCell ⟨g, i, none⟩ (.int .u8 (d.toNat : Int))).drew.heap[g]? = some (.cells (cur.setIfInBounds i (.int .u8 (d.toNat : Int))) e fz) := by
    show (w2.setCell ⟨g, i, none⟩ (.int .u8 (d.toNat : Int))).heap[g]? = _
    rw [setCell_eq_setRow w2 g i cur e fz _ hg]
    exact setRow_heap w2 g cur _ e fz hg
  have hgs := (Array.getElem?_eq_some_iff.1 hrow).1
  rw [hb.cell (p := ⟨g, j, none⟩) hgs, Lib.cell_of_heap hrow]
  have hj2 : j < Z.length := by simpa using hj
  have hz : ∀ m, m < n → cur[m]? = (Lib.byteCells Z)[m]? := by
    intro m hm
    rw [← htake, List.getElem?_take, if_pos hm]
    simp
  rw [Array.getElem?_setIfInBounds]
  by_cases h : i = j
  · subst h
    have hlt : i < cur.size := by
      have h1 := hz i hi
      rw [List.getElem?_eq_getElem (by simp [Lib.byteCells]; omega)] at h1
      exact (Array.getElem?_eq_some_iff.1 h1).1
    rw [if_pos rfl, if_pos hlt]
    simp
  · rw [if_neg h, hz j (by omega), List.getElem_set_ne h]
    simp [Lib.byteCells, List.getElem?_eq_getElem hj2]

/-- 'string(b[o:])' of such a row -/
theorem row_string (w' : World) (g o cap : Nat) (Z : List UInt8) (h : ∀ j (hj : j < Z.length), w'.cell? ⟨g, j, none⟩ = some (.int .u8 (Z[j].toNat : Int))) :
    (convert 34 9 (.slice (some ⟨g, o, none⟩) (Z.drop o).length cap)).run Try.prog w' = .ok (.string ⟨(Z.drop o).toArray⟩) w' := by
  refine run_convert_bytes_back (P := Try.prog) w' 34 9 5 ⟨g, o, none⟩ cap (Z.drop o) Try.underlying34 Try.underlying5 Try.underlying9 ?_
  intro j hj
  rw [add_plain, h (o + j) (by simp at hj; omega), List.getElem_drop]

theorem xor_byte (c : UInt8) (j : Nat) (hj : j < 8) : ∃ d : UInt8, d.toNat = c.toNat ^^^ 2 ^ j ∧ bits .xor .u8 (c.toNat : Int) (2 ^ j % 256) = (d.toNat : Int) := by
  have hc := c.toNat_lt
  have hp : 2 ^ j < 256 := by rcases (by omega : j = 0 ∨ j = 1 ∨ j = 2 ∨ j = 3 ∨ j = 4 ∨ j = 5 ∨ j = 6 ∨ j = 7) with rfl | rfl | rfl | rfl | rfl | rfl | rfl | rfl <;> decide
  have hx := Nat.xor_lt_two_pow (n := 8) hc hp
  refine ⟨UInt8.ofNat (c.toNat ^^^ 2 ^ j), ?_, ?_⟩
  · rw [UInt8.toNat_ofNat']
    exact Nat.mod_eq_of_lt hx
  · have e : ((2 : Int) ^ j % 256) = ((2 ^ j : Nat) : Int) := by
      have e1 : ((2 : Int) ^ j) = ((2 ^ j : Nat) : Int) := by simp
      rw [e1]
      clear hx
      generalize 2 ^ j = q at hp
      omega
    rw [e, bits_xor_u8 _ _ hc hp, UInt8.toNat_ofNat', Nat.mod_eq_of_lt hx]

set_option maxHeartbeats 800000 in
set_option maxRecDepth 100000 in
theorem crcBits_walk (s : ByteArray) (a : Int) (w : World) (hs : s.size ≤ maxLen) (ha : (Lit.int .u16 a).wf = true) :
    Calls Try.prog 7 #[.string s, .int .u16 a] w fun e w' => e = .returned (.bool true) ∧ Below w.heap.size w w' := by
  obtain ⟨ha1, ha2⟩ : 0 ≤ a ∧ a ≤ 65535 := by simpa [Lit.wf, IntKind.min, IntKind.max, IntKind.bits, IntKind.signed] using ha
  clear ha
  have H0 := Lib.hid (few_any s hs)
  have hf := fewB_size s
  generalize fewB s = t at H0 hf
  obtain ⟨l, hl⟩ : ∃ l, l = t.data.toList := ⟨_, rfl⟩
  have hll : l.length = t.size := by rw [hl]; simp
  have h1 := lay_any t (by omega)
  have h2 := sum_any t (by unfold maxLen; omega)
  rw [← hl] at h1 h2
  have hX : (ByteArray.mk (laidL l).toArray).size = 4 + t.size := by rw [laid_size, hll]
  obtain ⟨X, hXe⟩ : ∃ X, X = (ByteArray.mk (laidL l).toArray) := ⟨_, rfl⟩
  rw [← hXe] at h1 hX
  have H1 := Lib.hid h1
  have H2 := Lib.hid h2
  have HX := Lib.hid hX
  have HXe := Lib.hid hXe
  have HL := Lib.hid hll
  have HT := Lib.hid hl
  clear h1 h2 hX hXe hl hll
  go_enter Try.func7, Try.ntmps7
  go_wp2_with fail
  refine (H0.out _).mono ?_
  rintro e w1 ⟨rfl, rfl⟩
  go_wp2_with fail
  refine (H1.out _).mono ?_
  rintro e w1 ⟨rfl, hb1⟩
  obtain ⟨v, w2, hcv, hown, hb2⟩ := run_bytes_free (P := Try.prog) w1 9 34 5 X Try.underlying9 Try.underlying34 Try.underlying5 (by rw [HX.out]; unfold maxLen; omega)
  rw [HX.out] at hown
  obtain ⟨hxl, g, cap, cur, fz, rfl, hbg, hg, hfr, hnc, hcm, hcs, htake⟩ := hown
  have HO : Hid (_ ∧ _ ∧ _ ∧ _ ∧ _ ∧ _) := ⟨hbg, hg, hfr, hcs, htake, hxl⟩
  unfold maxLen at hcm
  clear hxl hbg hg hfr hcs htake
  go_wp2_with fail
  obtain ⟨k, hk⟩ : ∃ k : Nat, a % (8 * (4 + (t.size : Int))) = (k : Int) := ⟨_, (Int.toNat_of_nonneg (Int.emod_nonneg _ (by omega))).symm⟩
  have hk2 : k < 8 * (4 + t.size) := by have := Int.emod_lt_of_pos a (b := 8 * (4 + (t.size : Int))) (by omega); omega
  rw [hk]
  clear hk ha1 ha2
  have hk3 : k / 8 < 4 + t.size := by omega
  have hlen : (laidL l).length = 4 + t.size := by rw [laid_len, HL.out]
  obtain ⟨c, hcc⟩ : ∃ c : UInt8, c = (laidL l).getD (k / 8) 0 := ⟨_, rfl⟩
  obtain ⟨hbg, hg, hfr, hcs, htake, hxl⟩ := HO.out
  have htk : cur.toList.take (4 + t.size) = Lib.byteCells (laidL l) := by rw [htake, Lib.strCells_eq, HXe.out]
  have hlt : k / 8 < cur.size := by omega
  have hcell : w2.drew.cell? ⟨g, k / 8, none⟩ = some (.int .u8 c.toNat) := by
    show w2.cell? ⟨g, k / 8, none⟩ = _
    rw [cell_of_row w2 g (k / 8) cur _ fz hg]
    have h1 : cur[k / 8]? = (cur.toList.take (4 + t.size))[k / 8]? := by rw [List.getElem?_take, if_pos hk3]; simp
    rw [h1, htk, hcc]
    simp [Lib.byteCells, List.getD, List.getElem?_eq_getElem (show k / 8 < (laidL l).length by omega)]
  have hfroz : w2.drew.frozen? ⟨g, k / 8, none⟩ = false := by
    show w2.frozen? ⟨g, k / 8, none⟩ = _
    have := hfr (k / 8) hlt
    obtain ⟨lo, hi⟩ := fz
    simp only [World.frozen?, hg, Bool.and_eq_false_iff, decide_eq_false_iff_not]
    simp only at this
    omega
  obtain ⟨d, hd, hde⟩ := xor_byte c (k % 8) (by omega)
  have hcc2 : c = (laidL l)[k / 8]'(by omega) := by rw [hcc]; simp [List.getD, List.getElem?_eq_getElem (show k / 8 < (laidL l).length by omega)]
  have hbad := cut_turned l (k / 8) (k % 8) d (by omega) (by omega) (by rw [hd, hcc2])
  have hrow := row_set d hg hlen htk hk3
  have h3 := cut_any ⟨((laidL l).set (k / 8) d).toArray⟩ (by show ((laidL l).set (k / 8) d).toArray.size ≤ _; simp; omega)
  rw [hbad] at h3
  unfold cutRet at h3
  have H3 := Lib.hid h3
  have HE := Lib.hid hde
  have HR := Lib.hid hrow
  have hB : Below w.heap.size w (w2.setCell ⟨g, k / 8, none⟩ (.int .u8 (d.toNat : Int))).drew := ((bthen hb1 hb2).setCell (p := ⟨g, k / 8, none⟩) (by have := hb1.size; show w.heap.size ≤ g; omega) _).drew
  have HB := Lib.hid hB
  have hlen2 : ((laidL l).set (k / 8) d).length = 4 + t.size := by simp; omega
  have HLn := Lib.hid hlen2
  have HD : Hid (32 ≤ k → crcN (l.set (k / 8 - 4) d) ≠ crcN l) := by
    intro h32
    have h5 : k / 8 - 4 < l.length := by rw [HL.out]; omega
    refine crc_set l (k / 8 - 4) (k % 8) d h5 (by omega) ?_
    rw [hd, hcc2, ← laid_at l (k / 8 - 4) h5]
    congr 2
    have : 4 + (k / 8 - 4) = k / 8 := by omega
    simp [this]
  have i1 : ((k : Int) / 8).toNat = k / 8 := by omega
  have i2 : (k : Int) / 8 < 4 + (t.size : Int) := by omega
  have i3 : 0 ≤ (k : Int) / 8 := by omega
  clear hbg hg hfr hcs htake hxl htk hlt hcc hcc2 hd hde hbad hrow h3 hB hlen2 hlen
  go_region
  rw [HE.out]
  have hcv2 := row_string (w2.setCell ⟨g, k / 8, none⟩ (.int .u8 (d.toNat : Int))).drew g 0 cap _ (HR.out _ (Below.refl _ _))
  rw [List.drop_zero, HLn.out] at hcv2
  generalize (w2.setCell ⟨g, k / 8, none⟩ (.int .u8 (d.toNat : Int))).drew = W at HR HB hcv2 ⊢
  clear hcell hfroz hcv
  by_cases h32 : k < 32
  · go_wp2_with fail
    refine (H3.out _).mono ?_
    rintro e w3 ⟨rfl, hb3⟩
    go_wp2_with fail
    refine (awake3_any _).mono ?_
    rintro e w4 ⟨rfl, hb4⟩
    go_wp2_with fail
    go_ret
    exact ⟨rfl, bthen (bthen HB.out hb3) hb4⟩
  · have hpos : 4 < cap := by omega
    go_wp2_with fail
    refine (H3.out _).mono ?_
    rintro e w3 ⟨rfl, hb3⟩
    go_wp2_with fail
    refine (awake3_any _).mono ?_
    rintro e w4 ⟨rfl, hb4⟩
    have hcv3 := row_string w4 g 4 (cap - 4) _ (HR.out _ (bthen hb3 hb4))
    rw [set_drop l (k / 8) d (by omega), List.length_set, HL.out] at hcv3
    have h5 := sum_any ⟨(l.set (k / 8 - 4) d).toArray⟩ (by unfold maxLen; show (l.set (k / 8 - 4) d).toArray.size ≤ _; have := HL.out; simp; omega)
    have hne := HD.out (by omega)
    have e5 : (ByteArray.mk (l.set (k / 8 - 4) d).toArray).data.toList = l.set (k / 8 - 4) d := rfl
    rw [e5] at h5
    clear e5
    have H5 := Lib.hid h5
    generalize crcN (l.set (k / 8 - 4) d) = x at H5 hne
    generalize crcN l = y at H2 hne
    have hxy : ((x : Int) != (y : Int)) = true := by simp; omega
    clear h5 hne
    go_wp2_with fail
    refine (H5.out _).mono ?_
    rintro e w5 ⟨rfl, rfl⟩
    go_wp2_with fail
    refine (H2.out _).mono ?_
    rintro e w5 ⟨rfl, rfl⟩
    go_wp2_with fail
    go_ret
    exact ⟨rfl, bthen (bthen HB.out hb3) hb4⟩

end Go.Proofs.Ytifoeolklmlbnaa
