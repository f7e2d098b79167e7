/- The program's Get. -/
import Derived.Test.YtaaagmcdbmppmaaYRtP7
namespace Go.Proofs.Ytaaagmcdbmppmaa
open Go.RowKit Go.Deep
set_option linter.unusedVariables false
set_option linter.unusedSimpArgs false
set_option maxRecDepth 100000

theorem filV_lst {b : ByteArray} {P m : Nat} (hm : m ≤ 5) {w : World} (h : w.heap[P]? = some (.cells (filV b 5).toArray 70 (0, 0))) : LstI ((List.range m).map fun i => rd2 b (4 + 2 * i)) (.slice (some ⟨P, 0, none⟩) m m) w := by
  have hl : ((List.range m).map fun i => rd2 b (4 + 2 * i)).length = m := by simp
  refine ⟨_, _, by rw [hl], by rw [hl]; exact Nat.le_refl _, by omega, fun _ => ⟨P, 0, rfl, (Array.getElem?_eq_some_iff.1 h).1, fun i hi j hj => ?_⟩⟩
  rw [hl] at hi
  obtain rfl : j = 0 := by omega
  rw [Lib.cell_of_heap h, Nat.mul_one, Nat.add_zero, Nat.zero_add]
  have := filV_at b 5 (i := i) (by omega)
  rw [if_pos (by omega)] at this
  have e : ((List.range m).map fun i => rd2 b (4 + 2 * i)).getD i 0 = rd2 b (4 + 2 * i) := by
    rw [List.getD_eq_getElem?_getD, List.getElem?_map, List.getElem?_range hi]; rfl
  show _ = some (Value.int .i64 (((List.range m).map fun i => rd2 b (4 + 2 * i)).getD i 0))
  rw [e]
  simpa using this
theorem getR_no {s : ByteArray} (h : s.size = 64 → epAt s 56 = epAt s 0 → ChkOk s → ¬ RightR (rtAt s)) (x : Rt) : ¬ SaysR s x := fun hx => by
  obtain ⟨rfl, h1, h2⟩ := says_rtAt hx
  exact h hx.size h1 h2 hx.right
set_option maxHeartbeats 1600000 in
theorem pgetR_any (s : ByteArray) (u : World) (hs : s.size ≤ 1000) : Calls Try.prog 9 #[.string s] u fun r u' => GotR s r u u' := by
  have X1 := Lib.hid (heap_alloc_new u (.cells #[.int .i64 0, .int .i64 0, .slice none 0 0] 29))
  have B1 := Lib.hid (balloc u (.cells #[.int .i64 0, .int .i64 0, .slice none 0 0] 29))
  obtain ⟨C, hC⟩ : ∃ C, C = u.heap.size := ⟨_, rfl⟩
  have HCC := Lib.hid hC
  rw [← hC] at X1 B1
  -- how it ends where the slot says nothing
  have NO : Hid (∀ w, w.heap[C]? = some (.cells #[.int .i64 0, .int .i64 0, .slice none 0 0] 29 (0, 0)) → Below C u w → (s.size = 64 → epAt s 56 = epAt s 0 → ChkOk s → ¬ RightR (rtAt s)) →
      Below u.heap.size u (World.setCells w C 0 [.int .i64 0, .int .i64 0, .slice none 0 0]) ∧ GotR s (.returned (.tuple #[.agg #[.int .i64 0, .int .i64 0, .slice none 0 0], .bool false])) u (World.setCells w C 0 [.int .i64 0, .int .i64 0, .slice none 0 0])) := Lib.hid (fun w hx hb hn => by
    have := hb.trans (put_belowC (Nat.le_refl C) [.int .i64 0, .int .i64 0, .slice none 0 0] 0 w)
    rw [HCC.out] at this ⊢
    exact ⟨this, this, .inr ⟨getR_no hn, 0, 0, none, 0, 0, rfl⟩⟩)
  go_enter Try.func9, Try.ntmps9
  go_upto_region 1 with fail
  rw [← hC]
  generalize u.alloc (.cells #[.int .i64 0, .int .i64 0, .slice none 0 0] 29) = w1 at *
  clear hC
  by_cases hz : s.size = 64
  · have dz : ((s.size : Int) != 64) = false := by simp; omega
    have HR0 : Hid (∀ w, Calls Try.prog 25 #[.string s, .int .i64 0] w fun e w' => e = .returned (.tuple #[.int .i64 (epAt s 0), .int .i64 8, .int .i64 0]) ∧ w = w') := Lib.hid (fun w => by
      have := readI_any s 0 (by unfold maxLen; omega) (by omega) w
      unfold rdSpec at this
      rw [if_neg (by omega), if_neg (by omega)] at this
      exact this)
    have HR1 : Hid (∀ w, Calls Try.prog 25 #[.string s, .int .i64 56] w fun e w' => e = .returned (.tuple #[.int .i64 (epAt s 56), .int .i64 64, .int .i64 0]) ∧ w = w') := Lib.hid (fun w => by
      have := readI_any s 56 (by unfold maxLen; omega) (by omega) w
      unfold rdSpec at this
      rw [if_neg (by omega), if_neg (by omega)] at this
      exact this)
    have HE := Lib.hid (pisEpoch_any (epAt s 0))
    have N0 : Hid (¬ (1 ≤ epAt s 0 ∧ epAt s 0 ≤ 1099511627776) → ¬ RightR (rtAt s)) := Lib.hid (fun h hr => h ⟨hr.2.2.1, hr.2.2.2.1⟩)
    obtain ⟨x0, x1, x2⟩ := three_of X1.out
    have xf : ∀ q, w1.frozen? ⟨C, q, none⟩ = false := fun q => Lib.frozen_of_heap X1.out q
    have zz : (64 : Int) ≤ (s.size : Int) := by omega
    have zs : (s.size : Int) = 64 := by omega
    have HC := Lib.hid (fun w => cut_any (s.extract 8 56) (by rw [ByteArray.size_extract]; omega) w)
    have ez : (s.extract 8 56).size = 48 := by rw [ByteArray.size_extract]; omega
    have HC := Lib.hid (fun w => cut_any (s.extract 8 56) (by rw [ByteArray.size_extract]; omega) w)
    have ez : (s.extract 8 56).size = 48 := by rw [ByteArray.size_extract]; omega
    have HC := Lib.hid (fun w => cut_any (s.extract 8 56) (by rw [ByteArray.size_extract]; omega) w)
    have ez : (s.extract 8 56).size = 48 := by rw [ByteArray.size_extract]; omega
    have HC := Lib.hid (fun w => cut_any (s.extract 8 56) (by rw [ByteArray.size_extract]; omega) w)
    have ez : (s.extract 8 56).size = 48 := by rw [ByteArray.size_extract]; omega
    by_cases h1 : epAt s 56 = epAt s 0
    · have d1 : (epAt s 0 != epAt s 56) = false := by simp [h1]
      cases hE : epOk (epAt s 0)
      · have N1 := Lib.hid (NO.out w1 X1.out B1.out fun _ _ _ => N0.out (by simpa [epOk] using hE))
        rw [hE] at HE
        generalize epAt s 0 = e0 at *
        generalize epAt s 56 = e1 at *
        clear hE h1 NO N0 HC
        go_wp2_with fail
        refine (HR0.out _).mono ?_
        rintro e w2 ⟨rfl, hw⟩
        rw [← hw]
        clear hw w2
        go_wp2_with fail
        refine (HR1.out _).mono ?_
        rintro e w2 ⟨rfl, hw⟩
        rw [← hw]
        clear hw w2
        go_wp2_with fail
        refine (HE.out _).mono ?_
        rintro e w2 ⟨rfl, hw⟩
        rw [hw]
        clear hw w2
        go_wp2_with fail
        change bodyPost _ _ _ _ _ (World.setCells w1 C 0 [.int .i64 0, .int .i64 0, .slice none 0 0])
        obtain ⟨t0, t1, t2⟩ := three_of (put_triple13 X1.out (.int .i64 0) (.int .i64 0) (.slice none 0 0))
        generalize World.setCells w1 C 0 [.int .i64 0, .int .i64 0, .slice none 0 0] = w9 at *
        exact bodyPost_ret (v := .tuple #[.agg #[.int .i64 0, .int .i64 0, .slice none 0 0], .bool false]) (by simp [results, Try.results9, go_sem, t0, t1, t2]) rfl N1.out.2
      rw [hE] at HE
      clear N0
      rcases cut_body hz with ⟨hc, ec⟩ | ⟨hc, ec⟩
      · have NX := Lib.hid (fun w hx hb hn => NO.out w hx hb hn)
        have HC2 : Hid (∀ w, Calls Try.prog 26 #[.string (s.extract 8 56)] w fun e w' => e = .returned (.tuple #[.string (s.extract 12 56), .int .i64 0]) ∧ Below w.heap.size w w') := Lib.hid (fun w => by
          have := HC.out w
          rw [ec] at this
          exact this)
        have hbz : (s.extract 12 56).size = 44 := by rw [ByteArray.size_extract]; omega
        have HRO := Lib.hid (prootOf_any (s.extract 12 56) hbz)
        have bm : rd2 (s.extract 12 56) 2 = rd2 s 14 := rd2_body hz (by omega)
        have bl : rd2 (s.extract 12 56) 0 = rd2 s 12 := rd2_body hz (by omega)
        have bp : ∀ m : Nat, m ≤ 5 → ((List.range m).map fun i => rd2 (s.extract 12 56) (4 + 2 * i)) = (List.range m).map fun i => rd2 s (16 + 2 * i) := fun m hm => by
          apply List.map_congr_left
          intro i hi
          have := List.mem_range.1 hi
          rw [rd2_body hz (by omega)]
          congr 1; omega
        rw [bm, bl] at HRO
        have BP := Lib.hid bp
        have HCK := Lib.hid hc
        have HE1 := Lib.hid h1
        have HEE : Hid (1 ≤ epAt s 0 ∧ epAt s 0 ≤ 1099511627776) := Lib.hid (by simpa [epOk] using hE)
        have FL : Hid (∀ P m w, m ≤ 5 → w.heap[P]? = some (.cells (filV (s.extract 12 56) 5).toArray 70 (0, 0)) → LstI ((List.range m).map fun i => rd2 s (16 + 2 * i)) (.slice (some ⟨P, 0, none⟩) m m) w) := Lib.hid (fun P m w hm h => by rw [← BP.out m hm]; exact filV_lst hm h)
        have RT : Hid (∀ m : Nat, rd2 s 14 = (m : Int) → rtAt s = ⟨epAt s 0, rd2 s 12, (List.range m).map fun i => rd2 s (16 + 2 * i)⟩) := Lib.hid (fun m hm => by unfold rtAt; rw [hm, Int.toNat_natCast])
        have hmb := rd2_bd s 14
        have hlb := rd2_bd s 12
        have HL : Hid (0 ≤ rd2 s 12 ∧ rd2 s 12 ≤ 65535 ∧ 0 ≤ rd2 s 14) := Lib.hid ⟨hlb.1, hlb.2, hmb.1⟩
        clear bm bl bp ec hc HC NX hmb hlb hE h1
        generalize s.extract 12 56 = b at *
        go_wp2_with fail
        refine (HR0.out _).mono ?_
        rintro e w2 ⟨rfl, hw⟩
        rw [← hw]
        clear hw w2
        go_wp2_with fail
        refine (HR1.out _).mono ?_
        rintro e w2 ⟨rfl, hw⟩
        rw [← hw]
        clear hw w2
        go_wp2_with fail
        refine (HE.out _).mono ?_
        rintro e w2 ⟨rfl, hw⟩
        rw [hw]
        clear hw w2
        clear HR0 HR1 HE
        go_wp2_with fail
        refine (HC2.out _).mono ?_
        rintro e w2 ⟨rfl, hb⟩
        have B2 := Lib.hid (B1.out.trans (hb.mono (by have := lt_of_block X1.out; omega)))
        have X2 := Lib.hid (heap_stays13 X1.out hb)
        clear hb HC2 B1 X1 x0 x1 x2 xf
        go_wp2_with fail
        refine (HRO.out _).mono ?_
        rintro e w3 ⟨hb, hcase⟩
        have B3 := Lib.hid (B2.out.trans (hb.mono (by have := lt_of_block X2.out; omega)))
        have X3 := Lib.hid (heap_stays13 X2.out hb)
        have S3 := Lib.hid hb.size
        have S2 := Lib.hid (lt_of_block X2.out)
        clear hb HRO B2 X2
        rcases hcase with ⟨h5, rfl⟩ | ⟨h5, P, hP, rfl, hcells⟩
        · have NR : Hid (s.size = 64 → epAt s 56 = epAt s 0 → ChkOk s → ¬ RightR (rtAt s)) := Lib.hid (fun _ _ _ hr => by
            have := hr.few
            have := rtAt_len s
            omega)
          have B4 := Lib.hid (B3.out.trans ((balloc w3 (.cells #[.int .i64 0, .int .i64 0, .slice none 0 0] 29)).mono (by have := lt_of_block X3.out; omega)))
          have X4 := Lib.hid (heap_stays13 X3.out (balloc w3 (.cells #[.int .i64 0, .int .i64 0, .slice none 0 0] 29)))
          have xf : ∀ q, (w3.alloc (.cells #[.int .i64 0, .int .i64 0, .slice none 0 0] 29)).frozen? ⟨C, q, none⟩ = false := fun q => Lib.frozen_of_heap X4.out q
          obtain ⟨x0, x1, x2⟩ := three_of X4.out
          unfold rtV
          clear h5 B3 X3
          go_upto_region 11 with fail
          generalize w3.alloc (.cells #[.int .i64 0, .int .i64 0, .slice none 0 0] 29) = w4 at *
          have N1 := Lib.hid (NO.out w4 X4.out B4.out NR.out)
          go_wp2_with fail
          change bodyPost _ _ _ _ _ (World.setCells w4 C 0 [.int .i64 0, .int .i64 0, .slice none 0 0])
          obtain ⟨t0, t1, t2⟩ := three_of (put_triple13 X4.out (.int .i64 0) (.int .i64 0) (.slice none 0 0))
          generalize World.setCells w4 C 0 [.int .i64 0, .int .i64 0, .slice none 0 0] = w9 at *
          exact bodyPost_ret (v := .tuple #[.agg #[.int .i64 0, .int .i64 0, .slice none 0 0], .bool false]) (by simp [results, Try.results9, go_sem, t0, t1, t2]) rfl N1.out.2
        · obtain ⟨m, hm⟩ : ∃ m : Nat, rd2 s 14 = (m : Int) := ⟨(rd2 s 14).toNat, by have := HL.out; omega⟩
          have hm5 : m ≤ 5 := by omega
          have L3 := Lib.hid (FL.out P m w3 hm5 hcells)
          have RTM := Lib.hid (RT.out m hm)
          have HPP : Hid (u.heap.size ≤ P) := Lib.hid (by have := S2.out; have := HCC.out; omega)
          have HPC : Hid (C ≠ P) := Lib.hid (by have := S2.out; omega)
          have HPL : Hid (P < w3.heap.size) := Lib.hid (lt_of_block hcells)
          have HDC : Hid (C < w3.heap.size) := Lib.hid (lt_of_block X3.out)
          have P3 := Lib.hid hcells
          obtain ⟨D, hD⟩ : ∃ D, D = w3.heap.size := ⟨_, rfl⟩
          have X4 := Lib.hid (heap_stays13 X3.out (balloc w3 (.cells #[.int .i64 0, .int .i64 (rd2 s 12), .slice (some ⟨P, 0, none⟩) m m] 29)))
          have P4 := Lib.hid (heap_stays13 P3.out (balloc w3 (.cells #[.int .i64 0, .int .i64 (rd2 s 12), .slice (some ⟨P, 0, none⟩) m m] 29)))
          have B4 := Lib.hid (B3.out.trans ((balloc w3 (.cells #[.int .i64 0, .int .i64 (rd2 s 12), .slice (some ⟨P, 0, none⟩) m m] 29)).mono (by have := HDC.out; omega)))
          have D4 := Lib.hid (heap_alloc_new w3 (.cells #[.int .i64 0, .int .i64 (rd2 s 12), .slice (some ⟨P, 0, none⟩) m m] 29))
          rw [← hD] at D4 HPL HDC
          unfold rtV
          have em : (rd2 s 14).toNat = m := by omega
          rw [em]
          clear em hcells hP h5 X3 B3 S3 S2 P3 L3
          go_upto_region 11 with fail
          rw [← hD]
          generalize w3.alloc (.cells #[.int .i64 0, .int .i64 (rd2 s 12), .slice (some ⟨P, 0, none⟩) m m] 29) = w4 at *
          clear hD
          have HMY := Lib.hid (pmayR_any 0 (rd2 s 12) ((List.range m).map fun i => rd2 s (16 + 2 * i)) (.slice (some ⟨P, 0, none⟩) m m) w4 (by have := HL.out; omega) (by simp; omega) (FL.out P m w4 hm5 P4.out))
          unfold rtV at HMY
          have HRR : Hid (RightR (rtAt s) ↔ MayR (rd2 s 12) ((List.range m).map fun i => rd2 s (16 + 2 * i))) := Lib.hid (by
            rw [rightR_iff, RTM.out]
            exact ⟨fun h => h.2, fun h => ⟨HEE.out, h⟩⟩)
          have HSY : Hid (RightR (rtAt s) → SaysR s (rtAt s)) := Lib.hid (fun h => rtAt_says hz HE1.out HCK.out h)
          have HM5 := Lib.hid hm5
          obtain ⟨y0, y1, y2⟩ := three_of D4.out
          clear hm hm5
          generalize rd2 s 12 = lg at *
          generalize epAt s 0 = e0 at *
          generalize epAt s 56 = e1 at *
          by_cases hmay : MayR lg ((List.range m).map fun i => rd2 s (16 + 2 * i))
          · rw [decide_eq_true hmay] at HMY
            have HR1 := Lib.hid (HRR.out.2 hmay)
            clear hmay NO
            go_wp2_with fail
            refine (HMY.out).mono ?_
            rintro e w5 ⟨rfl, hb⟩
            have X5 := Lib.hid (heap_stays13 X4.out hb)
            have P5 := Lib.hid (heap_stays13 P4.out hb)
            have D5 := Lib.hid (heap_stays13 D4.out hb)
            have B5 := Lib.hid (B4.out.trans (hb.mono (by have := lt_of_block X4.out; omega)))
            clear hb HMY X4 P4 D4 B4 y0 y1 y2
            obtain ⟨y0, y1, y2⟩ := three_of D5.out
            have yf : w5.frozen? ⟨D, 0, none⟩ = false := Lib.frozen_of_heap D5.out 0
            have X6 := Lib.hid ((set_off13 (w := w5) (.int .i64 e0) (by have := HDC.out; omega : C ≠ D)).trans X5.out)
            have P6 := Lib.hid ((set_off13 (w := w5) (.int .i64 e0) (by have := HPL.out; omega : P ≠ D)).trans P5.out)
            have D6 := Lib.hid (show (w5.setCell ⟨D, 0, none⟩ (.int .i64 e0)).heap[D]? = some (.cells #[.int .i64 e0, .int .i64 lg, .slice (some ⟨P, 0, none⟩) m m] 29 (0, 0)) from Joins.block_setCell D5.out _)
            have B6 := Lib.hid (B5.out.setCell (p := ⟨D, 0, none⟩) (by have := HDC.out; show C ≤ D; omega) (.int .i64 e0))
            clear X5 P5 D5 B5
            go_upto_region 14 with fail
            clear y0 y1 y2 yf
            generalize w5.setCell ⟨D, 0, none⟩ (.int .i64 e0) = w6 at *
            obtain ⟨y0, y1, y2⟩ := three_of D6.out
            obtain ⟨x0, x1, x2⟩ := three_of X6.out
            have xf : ∀ q, w6.frozen? ⟨C, q, none⟩ = false := fun q => Lib.frozen_of_heap X6.out q
            go_wp2_with fail
            change bodyPost _ _ _ _ _ (World.setCells w6 C 0 [.int .i64 e0, .int .i64 lg, .slice (some ⟨P, 0, none⟩) m m])
            obtain ⟨t0, t1, t2⟩ := three_of (put_triple13 X6.out (.int .i64 e0) (.int .i64 lg) (.slice (some ⟨P, 0, none⟩) m m))
            have P7 := Lib.hid ((put_keeps13 (C := C) (q := P) (fun h => HPC.out h.symm) [.int .i64 e0, .int .i64 lg, .slice (some ⟨P, 0, none⟩) m m] 0 w6).trans P6.out)
            have B7 := Lib.hid (B6.out.trans (put_belowC (Nat.le_refl C) [.int .i64 e0, .int .i64 lg, .slice (some ⟨P, 0, none⟩) m m] 0 w6))
            generalize World.setCells w6 C 0 [.int .i64 e0, .int .i64 lg, .slice (some ⟨P, 0, none⟩) m m] = w9 at *
            exact bodyPost_ret (v := .tuple #[.agg #[.int .i64 e0, .int .i64 lg, .slice (some ⟨P, 0, none⟩) m m], .bool true]) (by simp [results, Try.results9, go_sem, t0, t1, t2]) rfl ⟨HCC.out ▸ B7.out, .inl ⟨rtAt s, .slice (some ⟨P, 0, none⟩) m m, HSY.out HR1.out, by rw [RTM.out]; rfl, by rw [RTM.out]; exact FL.out P m w9 HM5.out P7.out, fun g hg => by
              have e : g = P := by simpa [Value.ownBlock] using hg.symm
              rw [e]
              exact ⟨HPP.out, lt_of_block P7.out⟩⟩⟩
          · rw [decide_eq_false hmay] at HMY
            have NR : Hid (s.size = 64 → e1 = e0 → ChkOk s → ¬ RightR (rtAt s)) := Lib.hid (fun _ _ _ hr => hmay (HRR.out.1 hr))
            clear hmay
            go_wp2_with fail
            refine (HMY.out).mono ?_
            rintro e w5 ⟨rfl, hb⟩
            have X5 := Lib.hid (heap_stays13 X4.out hb)
            have B5 := Lib.hid (B4.out.trans (hb.mono (by have := lt_of_block X4.out; omega)))
            clear hb HMY X4 P4 D4 B4 y0 y1 y2
            have xf : ∀ q, w5.frozen? ⟨C, q, none⟩ = false := fun q => Lib.frozen_of_heap X5.out q
            obtain ⟨x0, x1, x2⟩ := three_of X5.out
            have N1 := Lib.hid (NO.out w5 X5.out B5.out NR.out)
            go_wp2_with fail
            change bodyPost _ _ _ _ _ (World.setCells w5 C 0 [.int .i64 0, .int .i64 0, .slice none 0 0])
            obtain ⟨t0, t1, t2⟩ := three_of (put_triple13 X5.out (.int .i64 0) (.int .i64 0) (.slice none 0 0))
            generalize World.setCells w5 C 0 [.int .i64 0, .int .i64 0, .slice none 0 0] = w9 at *
            exact bodyPost_ret (v := .tuple #[.agg #[.int .i64 0, .int .i64 0, .slice none 0 0], .bool false]) (by simp [results, Try.results9, go_sem, t0, t1, t2]) rfl N1.out.2
      · have HC2 : Hid (∀ w, Calls Try.prog 26 #[.string (s.extract 8 56)] w fun e w' => e = .returned (.tuple #[.string ⟨#[]⟩, .int .i64 14]) ∧ Below w.heap.size w w') := Lib.hid (fun w => by
          have := HC.out w
          rw [ec] at this
          exact this)
        have HCK := Lib.hid hc
        clear ec hc HC hE h1
        generalize epAt s 0 = e0 at *
        generalize epAt s 56 = e1 at *
        go_wp2_with fail
        refine (HR0.out _).mono ?_
        rintro e w2 ⟨rfl, hw⟩
        rw [← hw]
        clear hw w2
        go_wp2_with fail
        refine (HR1.out _).mono ?_
        rintro e w2 ⟨rfl, hw⟩
        rw [← hw]
        clear hw w2
        go_wp2_with fail
        refine (HE.out _).mono ?_
        rintro e w2 ⟨rfl, hw⟩
        rw [hw]
        clear hw w2
        clear HR0 HR1 HE
        go_wp2_with fail
        refine (HC2.out _).mono ?_
        rintro e w2 ⟨rfl, hb⟩
        have B2 := Lib.hid (B1.out.trans (hb.mono (by have := lt_of_block X1.out; omega)))
        have X2 := Lib.hid (heap_stays13 X1.out hb)
        clear hb HC2 B1 X1 x0 x1 x2 xf
        have xf : ∀ q, w2.frozen? ⟨C, q, none⟩ = false := fun q => Lib.frozen_of_heap X2.out q
        obtain ⟨x0, x1, x2⟩ := three_of X2.out
        have N1 := Lib.hid (NO.out w2 X2.out B2.out fun _ _ hk => absurd hk HCK.out)
        go_wp2_with fail
        change bodyPost _ _ _ _ _ (World.setCells w2 C 0 [.int .i64 0, .int .i64 0, .slice none 0 0])
        obtain ⟨t0, t1, t2⟩ := three_of (put_triple13 X2.out (.int .i64 0) (.int .i64 0) (.slice none 0 0))
        generalize World.setCells w2 C 0 [.int .i64 0, .int .i64 0, .slice none 0 0] = w9 at *
        exact bodyPost_ret (v := .tuple #[.agg #[.int .i64 0, .int .i64 0, .slice none 0 0], .bool false]) (by simp [results, Try.results9, go_sem, t0, t1, t2]) rfl N1.out.2
    · have d1 : (epAt s 0 != epAt s 56) = true := by simp; exact fun h => h1 h.symm
      have N1 := Lib.hid (NO.out w1 X1.out B1.out fun _ h => absurd h h1)
      generalize epAt s 0 = e0 at *
      generalize epAt s 56 = e1 at *
      clear h1 NO N0 HC
      go_wp2_with fail
      refine (HR0.out _).mono ?_
      rintro e w2 ⟨rfl, hw⟩
      rw [← hw]
      clear hw w2
      go_wp2_with fail
      refine (HR1.out _).mono ?_
      rintro e w2 ⟨rfl, hw⟩
      rw [← hw]
      clear hw w2
      go_wp2_with fail
      change bodyPost _ _ _ _ _ (World.setCells w1 C 0 [.int .i64 0, .int .i64 0, .slice none 0 0])
      obtain ⟨t0, t1, t2⟩ := three_of (put_triple13 X1.out (.int .i64 0) (.int .i64 0) (.slice none 0 0))
      generalize World.setCells w1 C 0 [.int .i64 0, .int .i64 0, .slice none 0 0] = w9 at *
      exact bodyPost_ret (v := .tuple #[.agg #[.int .i64 0, .int .i64 0, .slice none 0 0], .bool false]) (by simp [results, Try.results9, go_sem, t0, t1, t2]) rfl N1.out.2
  · have dz : ((s.size : Int) != 64) = true := by simp; omega
    have N1 := Lib.hid (NO.out w1 X1.out B1.out fun h => absurd h hz)
    obtain ⟨x0, x1, x2⟩ := three_of X1.out
    have xf : ∀ q, w1.frozen? ⟨C, q, none⟩ = false := fun q => Lib.frozen_of_heap X1.out q
    clear hz NO
    go_wp2_with fail
    change bodyPost _ _ _ _ _ (World.setCells w1 C 0 [.int .i64 0, .int .i64 0, .slice none 0 0])
    obtain ⟨t0, t1, t2⟩ := three_of (put_triple13 X1.out (.int .i64 0) (.int .i64 0) (.slice none 0 0))
    generalize World.setCells w1 C 0 [.int .i64 0, .int .i64 0, .slice none 0 0] = w9 at *
    exact bodyPost_ret (v := .tuple #[.agg #[.int .i64 0, .int .i64 0, .slice none 0 0], .bool false]) (by simp [results, Try.results9, go_sem, t0, t1, t2]) rfl N1.out.2

end Go.Proofs.Ytaaagmcdbmppmaa
