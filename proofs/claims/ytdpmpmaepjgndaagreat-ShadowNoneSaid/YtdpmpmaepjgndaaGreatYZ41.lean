/- The program's Get. The program's Newer of any two texts. -/
import Derived.Test.YtdpmpmaepjgndaaGreatYZ40
namespace Go.Proofs.YtdpmpmaepjgndaaGreat
open Go.RowKit Go.Deep
set_option linter.unusedVariables false
set_option linter.unusedSimpArgs false
set_option maxRecDepth 100000

theorem filV_lst {b : ByteArray} {P m : Nat} (hm : m ≤ 5) {w : World} (h : w.heap[P]? = some (.cells (filV b 5).toArray 181 (0, 0))) : LstI ((List.range m).map fun i => rd2 b (4 + 2 * i)) (.slice (some ⟨P, 0, none⟩) m m) w := by
  have hl : ((List.range m).map fun i => rd2 b (4 + 2 * i)).length = m := by simp
  refine ⟨_, _, by rw [hl], by rw [hl]; exact Nat.le_refl _, by omega, fun _ => ⟨P, 0, rfl, (Array.getElem?_eq_some_iff.1 h).1, fun i hi j hj => ?_⟩⟩
  rw [hl] at hi
  obtain rfl : j = 0 := by omega
  rw [Lib.cell_of_heap h, Nat.mul_one, Nat.add_zero, Nat.zero_add]
  have := filV_at b 5 (i := i) (by omega)
  rw [if_pos (by omega)] at this
  have e : ((List.range m).map fun i => rd2 b (4 + 2 * i)).getD i 0 = rd2 b (4 + 2 * i) := by
    rw [List.getD_eq_getElem?_getD, List.getElem?_map, List.getElem?_range hi]; rfl
  show _ = some (Value.int .i64 (((List.range m).map fun i => rd2 b (4 + 2 * i)).getD i 0))
  rw [e]
  simpa using this
theorem getR_no {s : ByteArray} (h : s.size = 64 → epAt s 56 = epAt s 0 → ChkOk s → ¬ RightR (rtAt s)) (x : Rt) : ¬ SaysR s x := fun hx => by
  obtain ⟨rfl, h1, h2⟩ := says_rtAt hx
  exact h hx.size h1 h2 hx.right
/-- what Get hands back, zeros where the slot says nothing -/
def GotZ (s : ByteArray) (r : Ending) (u u' : World) : Prop := Below u.heap.size u u' ∧ ((∃ x v, SaysR s x ∧ r = .returned (.tuple #[rtV x.ep x.lg v, .bool true]) ∧ LstI x.parts v u' ∧ ∀ g, v.ownBlock = some g → u.heap.size ≤ g ∧ g < u'.heap.size) ∨ ((∀ x, ¬ SaysR s x) ∧ r = .returned (.tuple #[rtV 0 0 (.slice none 0 0), .bool false])))
set_option maxHeartbeats 1600000 in
theorem pgetZ_any (s : ByteArray) (u : World) (hs : s.size ≤ 1000) : Calls Tryz.prog 137 #[.string s] u fun r u' => GotZ s r u u' := by
  have X1 := Lib.hid (heap_alloc_new u (.cells #[.int .i64 0, .int .i64 0, .slice none 0 0] 100))
  have B1 := Lib.hid (balloc u (.cells #[.int .i64 0, .int .i64 0, .slice none 0 0] 100))
  obtain ⟨C, hC⟩ : ∃ C, C = u.heap.size := ⟨_, rfl⟩
  have HCC := Lib.hid hC
  rw [← hC] at X1 B1
  -- how it ends where the slot says nothing
  have NO : Hid (∀ w, w.heap[C]? = some (.cells #[.int .i64 0, .int .i64 0, .slice none 0 0] 100 (0, 0)) → Below C u w → (s.size = 64 → epAt s 56 = epAt s 0 → ChkOk s → ¬ RightR (rtAt s)) →
      Below u.heap.size u (World.setCells w C 0 [.int .i64 0, .int .i64 0, .slice none 0 0]) ∧ GotZ s (.returned (.tuple #[.agg #[.int .i64 0, .int .i64 0, .slice none 0 0], .bool false])) u (World.setCells w C 0 [.int .i64 0, .int .i64 0, .slice none 0 0])) := Lib.hid (fun w hx hb hn => by
    have := hb.trans (put_belowC (Nat.le_refl C) [.int .i64 0, .int .i64 0, .slice none 0 0] 0 w)
    rw [HCC.out] at this ⊢
    exact ⟨this, this, .inr ⟨getR_no hn, rfl⟩⟩)
  go_enter Tryz.func137, Tryz.ntmps137
  go_upto_region 1 with fail
  rw [← hC]
  generalize u.alloc (.cells #[.int .i64 0, .int .i64 0, .slice none 0 0] 100) = w1 at *
  clear hC
  by_cases hz : s.size = 64
  · have dz : ((s.size : Int) != 64) = false := by simp; omega
    have HR0 : Hid (∀ w, Calls Tryz.prog 166 #[.string s, .int .i64 0] w fun e w' => e = .returned (.tuple #[.int .i64 (epAt s 0), .int .i64 8, .int .i64 0]) ∧ w = w') := Lib.hid (fun w => by
      have := readI_any s 0 (by unfold maxLen; omega) (by omega) w
      unfold rdSpec at this
      rw [if_neg (by omega), if_neg (by omega)] at this
      exact this)
    have HR1 : Hid (∀ w, Calls Tryz.prog 166 #[.string s, .int .i64 56] w fun e w' => e = .returned (.tuple #[.int .i64 (epAt s 56), .int .i64 64, .int .i64 0]) ∧ w = w') := Lib.hid (fun w => by
      have := readI_any s 56 (by unfold maxLen; omega) (by omega) w
      unfold rdSpec at this
      rw [if_neg (by omega), if_neg (by omega)] at this
      exact this)
    have HE := Lib.hid (pisEpoch_any (epAt s 0))
    have N0 : Hid (¬ (1 ≤ epAt s 0 ∧ epAt s 0 ≤ 1099511627776) → ¬ RightR (rtAt s)) := Lib.hid (fun h hr => h ⟨hr.2.2.1, hr.2.2.2.1⟩)
    obtain ⟨x0, x1, x2⟩ := three_of X1.out
    have xf : ∀ q, w1.frozen? ⟨C, q, none⟩ = false := fun q => Lib.frozen_of_heap X1.out q
    have zz : (64 : Int) ≤ (s.size : Int) := by omega
    have zs : (s.size : Int) = 64 := by omega
    have HC := Lib.hid (fun w => cut_any (s.extract 8 56) (by rw [ByteArray.size_extract]; omega) w)
    have ez : (s.extract 8 56).size = 48 := by rw [ByteArray.size_extract]; omega
    have HC := Lib.hid (fun w => cut_any (s.extract 8 56) (by rw [ByteArray.size_extract]; omega) w)
    have ez : (s.extract 8 56).size = 48 := by rw [ByteArray.size_extract]; omega
    have HC := Lib.hid (fun w => cut_any (s.extract 8 56) (by rw [ByteArray.size_extract]; omega) w)
    have ez : (s.extract 8 56).size = 48 := by rw [ByteArray.size_extract]; omega
    have HC := Lib.hid (fun w => cut_any (s.extract 8 56) (by rw [ByteArray.size_extract]; omega) w)
    have ez : (s.extract 8 56).size = 48 := by rw [ByteArray.size_extract]; omega
    have HC := Lib.hid (fun w => cut_any (s.extract 8 56) (by rw [ByteArray.size_extract]; omega) w)
    have ez : (s.extract 8 56).size = 48 := by rw [ByteArray.size_extract]; omega
    by_cases h1 : epAt s 56 = epAt s 0
    · have d1 : (epAt s 0 != epAt s 56) = false := by simp [h1]
      cases hE : epOk (epAt s 0)
      · have N1 := Lib.hid (NO.out w1 X1.out B1.out fun _ _ _ => N0.out (by simpa [epOk] using hE))
        rw [hE] at HE
        generalize epAt s 0 = e0 at *
        generalize epAt s 56 = e1 at *
        clear hE h1 NO N0 HC
        go_wp2_with fail
        refine (HR0.out _).mono ?_
        rintro e w2 ⟨rfl, hw⟩
        rw [← hw]
        clear hw w2
        go_wp2_with fail
        refine (HR1.out _).mono ?_
        rintro e w2 ⟨rfl, hw⟩
        rw [← hw]
        clear hw w2
        go_wp2_with fail
        refine (HE.out _).mono ?_
        rintro e w2 ⟨rfl, hw⟩
        rw [hw]
        clear hw w2
        go_wp2_with fail
        change bodyPost _ _ _ _ _ (World.setCells w1 C 0 [.int .i64 0, .int .i64 0, .slice none 0 0])
        obtain ⟨t0, t1, t2⟩ := three_of (put_triple13 X1.out (.int .i64 0) (.int .i64 0) (.slice none 0 0))
        generalize World.setCells w1 C 0 [.int .i64 0, .int .i64 0, .slice none 0 0] = w9 at *
        exact bodyPost_ret (v := .tuple #[.agg #[.int .i64 0, .int .i64 0, .slice none 0 0], .bool false]) (by simp [results, Tryz.results137, go_sem, t0, t1, t2]) rfl N1.out.2
      rw [hE] at HE
      clear N0
      rcases cut_body hz with ⟨hc, ec⟩ | ⟨hc, ec⟩
      · have NX := Lib.hid (fun w hx hb hn => NO.out w hx hb hn)
        have HC2 : Hid (∀ w, Calls Tryz.prog 143 #[.string (s.extract 8 56)] w fun e w' => e = .returned (.tuple #[.string (s.extract 12 56), .int .i64 0]) ∧ Below w.heap.size w w') := Lib.hid (fun w => by
          have := HC.out w
          rw [ec] at this
          exact this)
        have hbz : (s.extract 12 56).size = 44 := by rw [ByteArray.size_extract]; omega
        have HRO := Lib.hid (prootOf_any (s.extract 12 56) hbz)
        have bm : rd2 (s.extract 12 56) 2 = rd2 s 14 := rd2_body hz (by omega)
        have bl : rd2 (s.extract 12 56) 0 = rd2 s 12 := rd2_body hz (by omega)
        have bp : ∀ m : Nat, m ≤ 5 → ((List.range m).map fun i => rd2 (s.extract 12 56) (4 + 2 * i)) = (List.range m).map fun i => rd2 s (16 + 2 * i) := fun m hm => by
          apply List.map_congr_left
          intro i hi
          have := List.mem_range.1 hi
          rw [rd2_body hz (by omega)]
          congr 1; omega
        rw [bm, bl] at HRO
        have BP := Lib.hid bp
        have HCK := Lib.hid hc
        have HE1 := Lib.hid h1
        have HEE : Hid (1 ≤ epAt s 0 ∧ epAt s 0 ≤ 1099511627776) := Lib.hid (by simpa [epOk] using hE)
        have FL : Hid (∀ P m w, m ≤ 5 → w.heap[P]? = some (.cells (filV (s.extract 12 56) 5).toArray 181 (0, 0)) → LstI ((List.range m).map fun i => rd2 s (16 + 2 * i)) (.slice (some ⟨P, 0, none⟩) m m) w) := Lib.hid (fun P m w hm h => by rw [← BP.out m hm]; exact filV_lst hm h)
        have RT : Hid (∀ m : Nat, rd2 s 14 = (m : Int) → rtAt s = ⟨epAt s 0, rd2 s 12, (List.range m).map fun i => rd2 s (16 + 2 * i)⟩) := Lib.hid (fun m hm => by unfold rtAt; rw [hm, Int.toNat_natCast])
        have hmb := rd2_bd s 14
        have hlb := rd2_bd s 12
        have HL : Hid (0 ≤ rd2 s 12 ∧ rd2 s 12 ≤ 65535 ∧ 0 ≤ rd2 s 14) := Lib.hid ⟨hlb.1, hlb.2, hmb.1⟩
        clear bm bl bp ec hc HC NX hmb hlb hE h1
        generalize s.extract 12 56 = b at *
        go_wp2_with fail
        refine (HR0.out _).mono ?_
        rintro e w2 ⟨rfl, hw⟩
        rw [← hw]
        clear hw w2
        go_wp2_with fail
        refine (HR1.out _).mono ?_
        rintro e w2 ⟨rfl, hw⟩
        rw [← hw]
        clear hw w2
        go_wp2_with fail
        refine (HE.out _).mono ?_
        rintro e w2 ⟨rfl, hw⟩
        rw [hw]
        clear hw w2
        clear HR0 HR1 HE
        go_wp2_with fail
        refine (HC2.out _).mono ?_
        rintro e w2 ⟨rfl, hb⟩
        have B2 := Lib.hid (B1.out.trans (hb.mono (by have := lt_of_block X1.out; omega)))
        have X2 := Lib.hid (heap_stays13 X1.out hb)
        clear hb HC2 B1 X1 x0 x1 x2 xf
        go_wp2_with fail
        refine (HRO.out _).mono ?_
        rintro e w3 ⟨hb, hcase⟩
        have B3 := Lib.hid (B2.out.trans (hb.mono (by have := lt_of_block X2.out; omega)))
        have X3 := Lib.hid (heap_stays13 X2.out hb)
        have S3 := Lib.hid hb.size
        have S2 := Lib.hid (lt_of_block X2.out)
        clear hb HRO B2 X2
        rcases hcase with ⟨h5, rfl⟩ | ⟨h5, P, hP, rfl, hcells⟩
        · have NR : Hid (s.size = 64 → epAt s 56 = epAt s 0 → ChkOk s → ¬ RightR (rtAt s)) := Lib.hid (fun _ _ _ hr => by
            have := hr.few
            have := rtAt_len s
            omega)
          have B4 := Lib.hid (B3.out.trans ((balloc w3 (.cells #[.int .i64 0, .int .i64 0, .slice none 0 0] 100)).mono (by have := lt_of_block X3.out; omega)))
          have X4 := Lib.hid (heap_stays13 X3.out (balloc w3 (.cells #[.int .i64 0, .int .i64 0, .slice none 0 0] 100)))
          have xf : ∀ q, (w3.alloc (.cells #[.int .i64 0, .int .i64 0, .slice none 0 0] 100)).frozen? ⟨C, q, none⟩ = false := fun q => Lib.frozen_of_heap X4.out q
          obtain ⟨x0, x1, x2⟩ := three_of X4.out
          unfold rtV
          clear h5 B3 X3
          go_upto_region 11 with fail
          generalize w3.alloc (.cells #[.int .i64 0, .int .i64 0, .slice none 0 0] 100) = w4 at *
          have N1 := Lib.hid (NO.out w4 X4.out B4.out NR.out)
          go_wp2_with fail
          change bodyPost _ _ _ _ _ (World.setCells w4 C 0 [.int .i64 0, .int .i64 0, .slice none 0 0])
          obtain ⟨t0, t1, t2⟩ := three_of (put_triple13 X4.out (.int .i64 0) (.int .i64 0) (.slice none 0 0))
          generalize World.setCells w4 C 0 [.int .i64 0, .int .i64 0, .slice none 0 0] = w9 at *
          exact bodyPost_ret (v := .tuple #[.agg #[.int .i64 0, .int .i64 0, .slice none 0 0], .bool false]) (by simp [results, Tryz.results137, go_sem, t0, t1, t2]) rfl N1.out.2
        · obtain ⟨m, hm⟩ : ∃ m : Nat, rd2 s 14 = (m : Int) := ⟨(rd2 s 14).toNat, by have := HL.out; omega⟩
          have hm5 : m ≤ 5 := by omega
          have L3 := Lib.hid (FL.out P m w3 hm5 hcells)
          have RTM := Lib.hid (RT.out m hm)
          have HPP : Hid (u.heap.size ≤ P) := Lib.hid (by have := S2.out; have := HCC.out; omega)
          have HPC : Hid (C ≠ P) := Lib.hid (by have := S2.out; omega)
          have HPL : Hid (P < w3.heap.size) := Lib.hid (lt_of_block hcells)
          have HDC : Hid (C < w3.heap.size) := Lib.hid (lt_of_block X3.out)
          have P3 := Lib.hid hcells
          obtain ⟨D, hD⟩ : ∃ D, D = w3.heap.size := ⟨_, rfl⟩
          have X4 := Lib.hid (heap_stays13 X3.out (balloc w3 (.cells #[.int .i64 0, .int .i64 (rd2 s 12), .slice (some ⟨P, 0, none⟩) m m] 100)))
          have P4 := Lib.hid (heap_stays13 P3.out (balloc w3 (.cells #[.int .i64 0, .int .i64 (rd2 s 12), .slice (some ⟨P, 0, none⟩) m m] 100)))
          have B4 := Lib.hid (B3.out.trans ((balloc w3 (.cells #[.int .i64 0, .int .i64 (rd2 s 12), .slice (some ⟨P, 0, none⟩) m m] 100)).mono (by have := HDC.out; omega)))
          have D4 := Lib.hid (heap_alloc_new w3 (.cells #[.int .i64 0, .int .i64 (rd2 s 12), .slice (some ⟨P, 0, none⟩) m m] 100))
          rw [← hD] at D4 HPL HDC
          unfold rtV
          have em : (rd2 s 14).toNat = m := by omega
          rw [em]
          clear em hcells hP h5 X3 B3 S3 S2 P3 L3
          go_upto_region 11 with fail
          rw [← hD]
          generalize w3.alloc (.cells #[.int .i64 0, .int .i64 (rd2 s 12), .slice (some ⟨P, 0, none⟩) m m] 100) = w4 at *
          clear hD
          have HMY := Lib.hid (pmayR_any 0 (rd2 s 12) ((List.range m).map fun i => rd2 s (16 + 2 * i)) (.slice (some ⟨P, 0, none⟩) m m) w4 (by have := HL.out; omega) (by simp; omega) (FL.out P m w4 hm5 P4.out))
          unfold rtV at HMY
          have HRR : Hid (RightR (rtAt s) ↔ MayR (rd2 s 12) ((List.range m).map fun i => rd2 s (16 + 2 * i))) := Lib.hid (by
            rw [rightR_iff, RTM.out]
            exact ⟨fun h => h.2, fun h => ⟨HEE.out, h⟩⟩)
          have HSY : Hid (RightR (rtAt s) → SaysR s (rtAt s)) := Lib.hid (fun h => rtAt_says hz HE1.out HCK.out h)
          have HM5 := Lib.hid hm5
          obtain ⟨y0, y1, y2⟩ := three_of D4.out
          clear hm hm5
          generalize rd2 s 12 = lg at *
          generalize epAt s 0 = e0 at *
          generalize epAt s 56 = e1 at *
          by_cases hmay : MayR lg ((List.range m).map fun i => rd2 s (16 + 2 * i))
          · rw [decide_eq_true hmay] at HMY
            have HR1 := Lib.hid (HRR.out.2 hmay)
            clear hmay NO
            go_wp2_with fail
            refine (HMY.out).mono ?_
            rintro e w5 ⟨rfl, hb⟩
            have X5 := Lib.hid (heap_stays13 X4.out hb)
            have P5 := Lib.hid (heap_stays13 P4.out hb)
            have D5 := Lib.hid (heap_stays13 D4.out hb)
            have B5 := Lib.hid (B4.out.trans (hb.mono (by have := lt_of_block X4.out; omega)))
            clear hb HMY X4 P4 D4 B4 y0 y1 y2
            obtain ⟨y0, y1, y2⟩ := three_of D5.out
            have yf : w5.frozen? ⟨D, 0, none⟩ = false := Lib.frozen_of_heap D5.out 0
            have X6 := Lib.hid ((set_off13 (w := w5) (.int .i64 e0) (by have := HDC.out; omega : C ≠ D)).trans X5.out)
            have P6 := Lib.hid ((set_off13 (w := w5) (.int .i64 e0) (by have := HPL.out; omega : P ≠ D)).trans P5.out)
            have D6 := Lib.hid (show (w5.setCell ⟨D, 0, none⟩ (.int .i64 e0)).heap[D]? = some (.cells #[.int .i64 e0, .int .i64 lg, .slice (some ⟨P, 0, none⟩) m m] 100 (0, 0)) from Joins.block_setCell D5.out _)
            have B6 := Lib.hid (B5.out.setCell (p := ⟨D, 0, none⟩) (by have := HDC.out; show C ≤ D; omega) (.int .i64 e0))
            clear X5 P5 D5 B5
            go_upto_region 14 with fail
            clear y0 y1 y2 yf
            generalize w5.setCell ⟨D, 0, none⟩ (.int .i64 e0) = w6 at *
            obtain ⟨y0, y1, y2⟩ := three_of D6.out
            obtain ⟨x0, x1, x2⟩ := three_of X6.out
            have xf : ∀ q, w6.frozen? ⟨C, q, none⟩ = false := fun q => Lib.frozen_of_heap X6.out q
            go_wp2_with fail
            change bodyPost _ _ _ _ _ (World.setCells w6 C 0 [.int .i64 e0, .int .i64 lg, .slice (some ⟨P, 0, none⟩) m m])
            obtain ⟨t0, t1, t2⟩ := three_of (put_triple13 X6.out (.int .i64 e0) (.int .i64 lg) (.slice (some ⟨P, 0, none⟩) m m))
            have P7 := Lib.hid ((put_keeps13 (C := C) (q := P) (fun h => HPC.out h.symm) [.int .i64 e0, .int .i64 lg, .slice (some ⟨P, 0, none⟩) m m] 0 w6).trans P6.out)
            have B7 := Lib.hid (B6.out.trans (put_belowC (Nat.le_refl C) [.int .i64 e0, .int .i64 lg, .slice (some ⟨P, 0, none⟩) m m] 0 w6))
            generalize World.setCells w6 C 0 [.int .i64 e0, .int .i64 lg, .slice (some ⟨P, 0, none⟩) m m] = w9 at *
            exact bodyPost_ret (v := .tuple #[.agg #[.int .i64 e0, .int .i64 lg, .slice (some ⟨P, 0, none⟩) m m], .bool true]) (by simp [results, Tryz.results137, go_sem, t0, t1, t2]) rfl ⟨HCC.out ▸ B7.out, .inl ⟨rtAt s, .slice (some ⟨P, 0, none⟩) m m, HSY.out HR1.out, by rw [RTM.out]; rfl, by rw [RTM.out]; exact FL.out P m w9 HM5.out P7.out, fun g hg => by
              have e : g = P := by simpa [Value.ownBlock] using hg.symm
              rw [e]
              exact ⟨HPP.out, lt_of_block P7.out⟩⟩⟩
          · rw [decide_eq_false hmay] at HMY
            have NR : Hid (s.size = 64 → e1 = e0 → ChkOk s → ¬ RightR (rtAt s)) := Lib.hid (fun _ _ _ hr => hmay (HRR.out.1 hr))
            clear hmay
            go_wp2_with fail
            refine (HMY.out).mono ?_
            rintro e w5 ⟨rfl, hb⟩
            have X5 := Lib.hid (heap_stays13 X4.out hb)
            have B5 := Lib.hid (B4.out.trans (hb.mono (by have := lt_of_block X4.out; omega)))
            clear hb HMY X4 P4 D4 B4 y0 y1 y2
            have xf : ∀ q, w5.frozen? ⟨C, q, none⟩ = false := fun q => Lib.frozen_of_heap X5.out q
            obtain ⟨x0, x1, x2⟩ := three_of X5.out
            have N1 := Lib.hid (NO.out w5 X5.out B5.out NR.out)
            go_wp2_with fail
            change bodyPost _ _ _ _ _ (World.setCells w5 C 0 [.int .i64 0, .int .i64 0, .slice none 0 0])
            obtain ⟨t0, t1, t2⟩ := three_of (put_triple13 X5.out (.int .i64 0) (.int .i64 0) (.slice none 0 0))
            generalize World.setCells w5 C 0 [.int .i64 0, .int .i64 0, .slice none 0 0] = w9 at *
            exact bodyPost_ret (v := .tuple #[.agg #[.int .i64 0, .int .i64 0, .slice none 0 0], .bool false]) (by simp [results, Tryz.results137, go_sem, t0, t1, t2]) rfl N1.out.2
      · have HC2 : Hid (∀ w, Calls Tryz.prog 143 #[.string (s.extract 8 56)] w fun e w' => e = .returned (.tuple #[.string ⟨#[]⟩, .int .i64 14]) ∧ Below w.heap.size w w') := Lib.hid (fun w => by
          have := HC.out w
          rw [ec] at this
          exact this)
        have HCK := Lib.hid hc
        clear ec hc HC hE h1
        generalize epAt s 0 = e0 at *
        generalize epAt s 56 = e1 at *
        go_wp2_with fail
        refine (HR0.out _).mono ?_
        rintro e w2 ⟨rfl, hw⟩
        rw [← hw]
        clear hw w2
        go_wp2_with fail
        refine (HR1.out _).mono ?_
        rintro e w2 ⟨rfl, hw⟩
        rw [← hw]
        clear hw w2
        go_wp2_with fail
        refine (HE.out _).mono ?_
        rintro e w2 ⟨rfl, hw⟩
        rw [hw]
        clear hw w2
        clear HR0 HR1 HE
        go_wp2_with fail
        refine (HC2.out _).mono ?_
        rintro e w2 ⟨rfl, hb⟩
        have B2 := Lib.hid (B1.out.trans (hb.mono (by have := lt_of_block X1.out; omega)))
        have X2 := Lib.hid (heap_stays13 X1.out hb)
        clear hb HC2 B1 X1 x0 x1 x2 xf
        have xf : ∀ q, w2.frozen? ⟨C, q, none⟩ = false := fun q => Lib.frozen_of_heap X2.out q
        obtain ⟨x0, x1, x2⟩ := three_of X2.out
        have N1 := Lib.hid (NO.out w2 X2.out B2.out fun _ _ hk => absurd hk HCK.out)
        go_wp2_with fail
        change bodyPost _ _ _ _ _ (World.setCells w2 C 0 [.int .i64 0, .int .i64 0, .slice none 0 0])
        obtain ⟨t0, t1, t2⟩ := three_of (put_triple13 X2.out (.int .i64 0) (.int .i64 0) (.slice none 0 0))
        generalize World.setCells w2 C 0 [.int .i64 0, .int .i64 0, .slice none 0 0] = w9 at *
        exact bodyPost_ret (v := .tuple #[.agg #[.int .i64 0, .int .i64 0, .slice none 0 0], .bool false]) (by simp [results, Tryz.results137, go_sem, t0, t1, t2]) rfl N1.out.2
    · have d1 : (epAt s 0 != epAt s 56) = true := by simp; exact fun h => h1 h.symm
      have N1 := Lib.hid (NO.out w1 X1.out B1.out fun _ h => absurd h h1)
      generalize epAt s 0 = e0 at *
      generalize epAt s 56 = e1 at *
      clear h1 NO N0 HC
      go_wp2_with fail
      refine (HR0.out _).mono ?_
      rintro e w2 ⟨rfl, hw⟩
      rw [← hw]
      clear hw w2
      go_wp2_with fail
      refine (HR1.out _).mono ?_
      rintro e w2 ⟨rfl, hw⟩
      rw [← hw]
      clear hw w2
      go_wp2_with fail
      change bodyPost _ _ _ _ _ (World.setCells w1 C 0 [.int .i64 0, .int .i64 0, .slice none 0 0])
      obtain ⟨t0, t1, t2⟩ := three_of (put_triple13 X1.out (.int .i64 0) (.int .i64 0) (.slice none 0 0))
      generalize World.setCells w1 C 0 [.int .i64 0, .int .i64 0, .slice none 0 0] = w9 at *
      exact bodyPost_ret (v := .tuple #[.agg #[.int .i64 0, .int .i64 0, .slice none 0 0], .bool false]) (by simp [results, Tryz.results137, go_sem, t0, t1, t2]) rfl N1.out.2
  · have dz : ((s.size : Int) != 64) = true := by simp; omega
    have N1 := Lib.hid (NO.out w1 X1.out B1.out fun h => absurd h hz)
    obtain ⟨x0, x1, x2⟩ := three_of X1.out
    have xf : ∀ q, w1.frozen? ⟨C, q, none⟩ = false := fun q => Lib.frozen_of_heap X1.out q
    clear hz NO
    go_wp2_with fail
    change bodyPost _ _ _ _ _ (World.setCells w1 C 0 [.int .i64 0, .int .i64 0, .slice none 0 0])
    obtain ⟨t0, t1, t2⟩ := three_of (put_triple13 X1.out (.int .i64 0) (.int .i64 0) (.slice none 0 0))
    generalize World.setCells w1 C 0 [.int .i64 0, .int .i64 0, .slice none 0 0] = w9 at *
    exact bodyPost_ret (v := .tuple #[.agg #[.int .i64 0, .int .i64 0, .slice none 0 0], .bool false]) (by simp [results, Tryz.results137, go_sem, t0, t1, t2]) rfl N1.out.2
end Go.Proofs.YtdpmpmaepjgndaaGreat
namespace Go.Proofs.YtdpmpmaepjgndaaGreat
open Go.RowKit Go.Deep
set_option linter.unusedVariables false
set_option linter.unusedSimpArgs false
set_option maxRecDepth 100000

def NewerZ (a b : ByteArray) (r : Ending) (u u' : World) : Prop := Below u.heap.size u u' ∧ ((∃ x v slot, LaterR a b x slot ∧ r = .returned (.tuple #[rtV x.ep x.lg v, .int .i64 slot, .bool true]) ∧ LstI x.parts v u' ∧ ∀ g, v.ownBlock = some g → u.heap.size ≤ g ∧ g < u'.heap.size) ∨ ((∀ x, ¬ SaysR a x) ∧ (∀ x, ¬ SaysR b x) ∧ r = .returned (.tuple #[rtV 0 0 (.slice none 0 0), .int .i64 (-1), .bool false])))
/-- what Get hands back, its parts named -/
structure GZ (s : ByteArray) (is : Bool) (ep lg : Int) (a : Option Addr) (n c : Nat) (u u' : World) : Prop where
  yes : is = true → ∃ x, SaysR s x ∧ x.ep = ep ∧ x.lg = lg ∧ LstI x.parts (.slice a n c) u' ∧ ∀ g, (Value.slice a n c).ownBlock = some g → u.heap.size ≤ g ∧ g < u'.heap.size
  no : is = false → (∀ x, ¬ SaysR s x) ∧ ep = 0 ∧ lg = 0 ∧ a = none ∧ n = 0 ∧ c = 0
theorem GZ.on {s : ByteArray} {is : Bool} {ep lg : Int} {a : Option Addr} {n c : Nat} {u u1 u2 : World} (h : GZ s is ep lg a n c u u1) (k : Below u1.heap.size u1 u2) : GZ s is ep lg a n c u u2 :=
  ⟨fun hi => by
    obtain ⟨x, h1, h2, h3, h4, h5⟩ := h.yes hi
    exact ⟨x, h1, h2, h3, h4.below k, fun g hg => ⟨(h5 g hg).1, Nat.lt_of_lt_of_le (h5 g hg).2 k.size⟩⟩, h.no⟩
theorem pgetGZ_any (s : ByteArray) (u : World) (hs : s.size ≤ 1000) : Calls Tryz.prog 137 #[.string s] u fun r u' => Below u.heap.size u u' ∧ ∃ is ep lg a n c, r = .returned (.tuple #[.agg #[.int .i64 ep, .int .i64 lg, .slice a n c], .bool is]) ∧ GZ s is ep lg a n c u u' :=
  (pgetZ_any s u hs).mono fun r u' h => by
    obtain ⟨hb, ⟨x, v, hx, hr, hl, hg⟩ | ⟨hn, hr⟩⟩ := h
    · have hl2 := hl
      obtain ⟨ao, cap, hv, _⟩ := hl
      rw [hv] at hl2 hg hr
      exact ⟨hb, true, x.ep, x.lg, ao, _, cap, hr, ⟨fun _ => ⟨x, hx, rfl, rfl, hl2, hg⟩, fun h => Bool.noConfusion h⟩⟩
    · exact ⟨hb, false, 0, 0, none, 0, 0, hr, ⟨fun h => Bool.noConfusion h, fun _ => ⟨hn, rfl, rfl, rfl, rfl, rfl⟩⟩⟩
theorem LstI.keep {l : List Int} {a : Option Addr} {n c : Nat} {w w2 : World} (h : LstI l (.slice a n c) w) (e : ∀ g, (Value.slice a n c).ownBlock = some g → w2.heap[g]? = w.heap[g]?) (k : ∀ g, g < w.heap.size → g < w2.heap.size) : LstI l (.slice a n c) w2 := by
  obtain ⟨ao, cap, hv, h1, h2, h3⟩ := h
  simp only [Value.slice.injEq] at hv
  obtain ⟨rfl, rfl, rfl⟩ := hv
  refine ⟨a, c, rfl, h1, h2, fun hn => ?_⟩
  obtain ⟨b, o, rfl, hA⟩ := h3 hn
  have eb := e b rfl
  refine ⟨b, o, rfl, k b hA.1, fun i hi j hj => ?_⟩
  rw [← hA.2 i hi j hj]
  exact World.cell?_of_block eb

set_option maxHeartbeats 3200000 in
theorem pnewerZ_any (s t : ByteArray) (u : World) (hs : s.size ≤ 1000) (ht : t.size ≤ 1000) : Calls Tryz.prog 100 #[.string s, .string t] u fun r u' => NewerZ s t r u u' := by
  have HG1 := Lib.hid (fun w => pgetGZ_any s w hs)
  have HG2 := Lib.hid (fun w => pgetGZ_any t w ht)
  have X1 := Lib.hid (heap_alloc_new u (.cells #[.int .i64 0, .int .i64 0, .slice none 0 0] 100))
  have B1 := Lib.hid (balloc u (.cells #[.int .i64 0, .int .i64 0, .slice none 0 0] 100))
  obtain ⟨C, hC⟩ : ∃ C, C = u.heap.size := ⟨_, rfl⟩
  have HCC := Lib.hid hC
  rw [← hC] at X1 B1
  clear hs ht
  go_enter Tryz.func100, Tryz.ntmps100
  go_upto_region 1 with fail
  rw [← hC]
  generalize u.alloc (.cells #[.int .i64 0, .int .i64 0, .slice none 0 0] 100) = w1 at *
  clear hC
  go_wp2_with fail
  refine (HG1.out _).mono ?_
  rintro e w2 ⟨hb, is1, ep1, lg1, a1, n1, c1, rfl, hz⟩
  have B2 := Lib.hid (B1.out.trans (hb.mono (by have := lt_of_block X1.out; omega)))
  have X2 := Lib.hid (heap_stays13 X1.out hb)
  have L1 := Lib.hid (lt_of_block X1.out)
  have Z2 := Lib.hid hz
  clear hb hz HG1 B1 X1
  have B3 := Lib.hid (B2.out.trans ((balloc w2 (.cells #[.int .i64 ep1, .int .i64 lg1, .slice a1 n1 c1] 100)).mono (by have := lt_of_block X2.out; omega)))
  have X3 := Lib.hid (heap_stays13 X2.out (balloc w2 (.cells #[.int .i64 ep1, .int .i64 lg1, .slice a1 n1 c1] 100)))
  have D3 := Lib.hid (heap_alloc_new w2 (.cells #[.int .i64 ep1, .int .i64 lg1, .slice a1 n1 c1] 100))
  have Z3 := Lib.hid (Z2.out.on (balloc w2 (.cells #[.int .i64 ep1, .int .i64 lg1, .slice a1 n1 c1] 100)))
  obtain ⟨D1, hD1⟩ : ∃ D, D = w2.heap.size := ⟨_, rfl⟩
  rw [← hD1] at D3
  have CD1 : Hid (C < D1) := Lib.hid (by rw [hD1]; exact lt_of_block X2.out)
  clear B2 X2 Z2
  go_upto_region 2 with fail
  rw [← hD1]
  generalize w2.alloc (.cells #[.int .i64 ep1, .int .i64 lg1, .slice a1 n1 c1] 100) = w3 at *
  clear hD1
  go_wp2_with fail
  refine (HG2.out _).mono ?_
  rintro e w4 ⟨hb, is2, ep2, lg2, a2, n2, c2, rfl, hz⟩
  have B4 := Lib.hid (B3.out.trans (hb.mono (by have := lt_of_block X3.out; omega)))
  have X4 := Lib.hid (heap_stays13 X3.out hb)
  have D4 := Lib.hid (heap_stays13 D3.out hb)
  have Z4 := Lib.hid (Z3.out.on hb)
  have Y4 := Lib.hid hz
  have L3 := Lib.hid (lt_of_block X3.out)
  clear hb hz HG2 B3 X3 D3 Z3
  have B5 := Lib.hid (B4.out.trans ((balloc w4 (.cells #[.int .i64 ep2, .int .i64 lg2, .slice a2 n2 c2] 100)).mono (by have := lt_of_block X4.out; omega)))
  have X5 := Lib.hid (heap_stays13 X4.out (balloc w4 (.cells #[.int .i64 ep2, .int .i64 lg2, .slice a2 n2 c2] 100)))
  have D5 := Lib.hid (heap_stays13 D4.out (balloc w4 (.cells #[.int .i64 ep2, .int .i64 lg2, .slice a2 n2 c2] 100)))
  have E5 := Lib.hid (heap_alloc_new w4 (.cells #[.int .i64 ep2, .int .i64 lg2, .slice a2 n2 c2] 100))
  have Z5 := Lib.hid (Z4.out.on (balloc w4 (.cells #[.int .i64 ep2, .int .i64 lg2, .slice a2 n2 c2] 100)))
  have Y5 := Lib.hid (Y4.out.on (balloc w4 (.cells #[.int .i64 ep2, .int .i64 lg2, .slice a2 n2 c2] 100)))
  obtain ⟨D, hD⟩ : ∃ D, D = w4.heap.size := ⟨_, rfl⟩
  rw [← hD] at E5
  clear B4 X4 D4 Z4 Y4
  go_upto_region 3 with fail
  rw [← hD]
  generalize w4.alloc (.cells #[.int .i64 ep2, .int .i64 lg2, .slice a2 n2 c2] 100) = w5 at *
  clear hD
  obtain ⟨y0, y1, y2⟩ := three_of D5.out
  obtain ⟨z0, z1, z2⟩ := three_of E5.out
  obtain ⟨x0, x1, x2⟩ := three_of X5.out
  have xf : ∀ q, w5.frozen? ⟨C, q, none⟩ = false := fun q => Lib.frozen_of_heap X5.out q
  -- how it ends: a root is written into the result's block
  have END : Hid (∀ (ep lg : Int) (a : Option Addr) (n c : Nat) (slot : Int) (is : Bool), (∀ w9, w9 = World.setCells w5 C 0 [.int .i64 ep, .int .i64 lg, .slice a n c] → Below u.heap.size u w9 → NewerZ s t (.returned (.tuple #[.agg #[.int .i64 ep, .int .i64 lg, .slice a n c], .int .i64 slot, .bool is])) u w9) → NewerZ s t (.returned (.tuple #[.agg #[.int .i64 ep, .int .i64 lg, .slice a n c], .int .i64 slot, .bool is])) u (World.setCells w5 C 0 [.int .i64 ep, .int .i64 lg, .slice a n c])) := Lib.hid (fun ep lg a n c slot is h => h _ rfl (HCC.out ▸ (B5.out.trans (put_belowC (Nat.le_refl C) [.int .i64 ep, .int .i64 lg, .slice a n c] 0 w5))))
  have YES : Hid (∀ (x : Rt) (a : Option Addr) (n c : Nat) (slot : Int) (ua : World), LaterR s t x slot → LstI x.parts (.slice a n c) w5 → (∀ g, (Value.slice a n c).ownBlock = some g → ua.heap.size ≤ g ∧ g < w5.heap.size) → C < ua.heap.size → NewerZ s t (.returned (.tuple #[.agg #[.int .i64 x.ep, .int .i64 x.lg, .slice a n c], .int .i64 slot, .bool true])) u (World.setCells w5 C 0 [.int .i64 x.ep, .int .i64 x.lg, .slice a n c])) := Lib.hid (fun x a n c slot ua hl hls hg hu => END.out x.ep x.lg a n c slot true fun w9 h9 hb9 => by
    have hsz : w9.heap.size = w5.heap.size := by rw [h9]; simp [World.setCells, World.setCell]
    refine ⟨hb9, .inl ⟨x, .slice a n c, slot, hl, rfl, hls.keep (fun g hg2 => ?_) (fun g hg2 => by omega), fun g hg2 => ?_⟩⟩
    · rw [h9]
      exact put_keeps13 (C := C) (q := g) (by have := (hg g hg2).1; omega) _ 0 w5
    · have := hg g hg2
      have := HCC.out
      omega)
  cases is1
  · obtain ⟨n1a, rfl, rfl, rfl, rfl, rfl⟩ := Z5.out.no rfl
    cases is2
    · obtain ⟨n2a, rfl, rfl, rfl, rfl, rfl⟩ := Y5.out.no rfl
      have NO := Lib.hid (END.out 0 0 none 0 0 (-1) false fun w9 h9 hb9 => ⟨hb9, .inr ⟨n1a, n2a, rfl⟩⟩)
      clear n1a n2a YES END
      go_wp2_with fail
      change bodyPost _ _ _ _ _ (World.setCells w5 C 0 [.int .i64 0, .int .i64 0, .slice none 0 0])
      obtain ⟨t0, t1, t2⟩ := three_of (put_triple13 X5.out (.int .i64 0) (.int .i64 0) (.slice none 0 0))
      generalize World.setCells w5 C 0 [.int .i64 0, .int .i64 0, .slice none 0 0] = w9 at *
      exact bodyPost_ret (v := .tuple #[.agg #[.int .i64 0, .int .i64 0, .slice none 0 0], .int .i64 (-1), .bool false]) (by simp [results, Tryz.results100, go_sem, t0, t1, t2]) rfl NO.out
    · obtain ⟨x, hx, rfl, rfl, hl, hg⟩ := Y5.out.yes rfl
      have NO := Lib.hid (YES.out x a2 n2 c2 1 w3 (.inr ⟨rfl, hx, fun y hy => absurd hy (n1a y)⟩) hl hg L3.out)
      clear n1a hx hl hg YES END
      go_wp2_with fail
      change bodyPost _ _ _ _ _ (World.setCells w5 C 0 [.int .i64 x.ep, .int .i64 x.lg, .slice a2 n2 c2])
      obtain ⟨t0, t1, t2⟩ := three_of (put_triple13 X5.out (.int .i64 x.ep) (.int .i64 x.lg) (.slice a2 n2 c2))
      generalize World.setCells w5 C 0 [.int .i64 x.ep, .int .i64 x.lg, .slice a2 n2 c2] = w9 at *
      exact bodyPost_ret (v := .tuple #[.agg #[.int .i64 x.ep, .int .i64 x.lg, .slice a2 n2 c2], .int .i64 1, .bool true]) (by simp [results, Tryz.results100, go_sem, t0, t1, t2]) rfl NO.out
  · obtain ⟨x, hx, rfl, rfl, hl, hg⟩ := Z5.out.yes rfl
    have hx1 := hx.right.2.2.1
    by_cases hge : ep2 ≤ x.ep
    · have d1 : decide (ep2 ≤ x.ep) = true := by simp [hge]
      have NO := Lib.hid (YES.out x a1 n1 c1 0 w1 (.inl ⟨rfl, hx, fun y hy => by
        cases is2
        · exact absurd hy ((Y5.out.no rfl).1 y)
        · obtain ⟨z, hz, e1, _⟩ := Y5.out.yes rfl
          have := hy.one hz
          subst this
          omega⟩) hl hg L1.out)
      clear hx hl hg YES END hge hx1
      go_wp2_with fail
      change bodyPost _ _ _ _ _ (World.setCells w5 C 0 [.int .i64 x.ep, .int .i64 x.lg, .slice a1 n1 c1])
      obtain ⟨t0, t1, t2⟩ := three_of (put_triple13 X5.out (.int .i64 x.ep) (.int .i64 x.lg) (.slice a1 n1 c1))
      generalize World.setCells w5 C 0 [.int .i64 x.ep, .int .i64 x.lg, .slice a1 n1 c1] = w9 at *
      exact bodyPost_ret (v := .tuple #[.agg #[.int .i64 x.ep, .int .i64 x.lg, .slice a1 n1 c1], .int .i64 0, .bool true]) (by simp [results, Tryz.results100, go_sem, t0, t1, t2]) rfl NO.out
    · have d1 : decide (ep2 ≤ x.ep) = false := by simp; omega
      cases is2
      · exfalso
        have := (Y5.out.no rfl).2.1
        omega
      obtain ⟨y, hy, rfl, rfl, hl2, hg2⟩ := Y5.out.yes rfl
      have NO := Lib.hid (YES.out y a2 n2 c2 1 w3 (.inr ⟨rfl, hy, fun z hz => by
        have := hz.one hx
        subst this
        omega⟩) hl2 hg2 L3.out)
      clear hx hl hg hy hl2 hg2 YES END hge hx1
      go_wp2_with fail
      change bodyPost _ _ _ _ _ (World.setCells w5 C 0 [.int .i64 y.ep, .int .i64 y.lg, .slice a2 n2 c2])
      obtain ⟨t0, t1, t2⟩ := three_of (put_triple13 X5.out (.int .i64 y.ep) (.int .i64 y.lg) (.slice a2 n2 c2))
      generalize World.setCells w5 C 0 [.int .i64 y.ep, .int .i64 y.lg, .slice a2 n2 c2] = w9 at *
      exact bodyPost_ret (v := .tuple #[.agg #[.int .i64 y.ep, .int .i64 y.lg, .slice a2 n2 c2], .int .i64 1, .bool true]) (by simp [results, Tryz.results100, go_sem, t0, t1, t2]) rfl NO.out

end Go.Proofs.YtdpmpmaepjgndaaGreat
