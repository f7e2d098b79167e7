/- The program's root: the bytes behind the check, laid. The program's Put. The program's Format. -/
import Derived.Test.YtmflkkkbahghgaaGreatYZ37
import Derived.Test.YtmflkkkbahghgaaGreatYZ13
import Derived.Test.YtmflkkkbahghgaaGreatYZ36
import Derived.Test.YtmflkkkbahghgaaGreatYZ17
import Derived.Test.YtmflkkkbahghgaaGreatYZ16
namespace Go.Proofs.YtmflkkkbahghgaaGreat
open Go.RowKit Go.Deep
set_option linter.unusedVariables false
set_option linter.unusedSimpArgs false
set_option maxRecDepth 100000

/-- a builder in block b that holds these bytes -/
def Bl13 (b : Nat) (xs : List Int) (w : World) : Prop := Lib.IsBuilder 161 5 b b (Lib.byteCells (xs.map toU8)) w
theorem Bl13.write {b : Nat} {xs : List Int} {w : World} (h : Bl13 b xs w) (hb : b ≤ w.heap.size) (ys : List Int) (hl : xs.length + ys.length ≤ 100000) :
    Calls Tryz.prog 149 #[.pointer (some ⟨b, 0, none⟩), .string (strOfNums ys)] w fun e w' => (∃ v, e = .returned v) ∧ Bl13 b (xs ++ ys) w' ∧ Below b w w' := by
  refine (writeString b b _ (strOfNums ys) w h (by rw [Lib.byteCells_length, List.length_map, strOfNums_size]; omega) hb).mono ?_
  rintro e w' ⟨rfl, h1, h2⟩
  refine ⟨⟨_, rfl⟩, Or.inr ?_, h2⟩
  rw [byteCells_nums, ← byteCells_append, ← List.map_append] at h1
  exact h1
theorem Bl13.below {b : Nat} {xs : List Int} {w w' : World} (h : Bl13 b xs w) (k : Below w.heap.size w w') : Bl13 b xs w' := isBuilder_below h k
theorem Bl13.new (w : World) : Bl13 w.heap.size [] (w.alloc (.cells #[.pointer none, .slice none 0 0] 161)) := Or.inl (builder_new w)
theorem Bl13.text {b : Nat} {xs : List Int} {w : World} (h : Bl13 b xs w) (hb : b ≤ w.heap.size) :
    Calls Tryz.prog 153 #[.pointer (some ⟨b, 0, none⟩)] w fun e w' => e = .returned (.string (strOfNums xs)) ∧ Below b w w' := by
  have := builderString b b (xs.map toU8) w h hb
  rw [← strOfNums_eq] at this
  exact this
theorem Bl13.len {b : Nat} {xs : List Int} {w : World} (h : Bl13 b xs w) :
    Calls Tryz.prog 152 #[.pointer (some ⟨b, 0, none⟩)] w fun e w' => e = .returned (.int .i64 xs.length) ∧ w' = w := by
  have := lenF b b _ w (Lib.IsBuilderF.of h)
  rw [Lib.byteCells_length, List.length_map] at this
  exact this
/-- what a function made in new memory, and what was below it -/
theorem Below.down {b B : Nat} {w w' : World} (h : Below b w w') (hB : B ≤ b) : Below B w w' := h.mono hB

/-- what bodyOf has in memory: its root, its pages, its builder -/
structure B13 (u : World) (C : Nat) (r p : Obj) (xs : List Int) (w : World) : Prop where
  bl : Bl13 (C + 2) xs w
  lo : Below C u w
  sz : C + 3 ≤ w.heap.size
  bx : w.heap[C]? = some r
  ar : w.heap[C + 1]? = some p
theorem B13.below {u : World} {C : Nat} {r p : Obj} {xs : List Int} {w w' : World} (h : B13 u C r p xs w) (k : Below w.heap.size w w') : B13 u C r p xs w' :=
  ⟨h.bl.below k, h.lo.trans (k.mono (by have := h.sz; omega)), Nat.le_trans h.sz k.size, heap_stays13 h.bx k, heap_stays13 h.ar k⟩
theorem B13.write {u : World} {C : Nat} {r p : Obj} {xs : List Int} {w : World} (h : B13 u C r p xs w) (ys : List Int) (hl : xs.length + ys.length ≤ 100000) :
    Calls Tryz.prog 149 #[.pointer (some ⟨C + 2, 0, none⟩), .string (strOfNums ys)] w fun e w' => (∃ v, e = .returned v) ∧ B13 u C r p (xs ++ ys) w' := by
  refine (h.bl.write (by have := h.sz; omega) ys hl).mono ?_
  rintro e w' ⟨he, h1, h2⟩
  exact ⟨he, h1, h.lo.trans (h2.mono (by omega)), Nat.le_trans h.sz h2.size, (h2.block C (by omega)).trans h.bx, (h2.block (C + 1) (by omega)).trans h.ar⟩
theorem B13.same {u : World} {C : Nat} {r p : Obj} {xs ys : List Int} {w : World} (h : B13 u C r p xs w) (e : xs = ys) : B13 u C r p ys w := e ▸ h
theorem run_index_five (q : Nat → Int) (j : Nat) (hj : j < 5) (w : World) : (Instr.index 158 (.agg #[.int .i64 (q 0), .int .i64 (q 1), .int .i64 (q 2), .int .i64 (q 3), .int .i64 (q 4)]) (.int .i64 (j : Int))).run Tryz.prog w = .ok (.int .i64 (q j)) w := by
  have h1 : ¬ (j : Int) < 0 := by omega
  rcases (by omega : j = 0 ∨ j = 1 ∨ j = 2 ∨ j = 3 ∨ j = 4) with rfl | rfl | rfl | rfl | rfl <;>
    simp [Instr.index, run_underlying Tryz.underlying158, asIntOf, h1, go_sem]
set_option maxHeartbeats 12800000 in
theorem pbodyOf_any (ep lg : Int) (l : List Int) (v : Value) (u : World) (hm : MayR lg l) (hv : LstI l v u) :
    Calls Tryz.prog 110 #[rtV ep lg v] u fun e w' => e = .returned (.string (bodyR ⟨ep, lg, l⟩)) ∧ Below u.heap.size u w' := by
  obtain ⟨ao, cap, rfl, hc1, hc2, hA⟩ := hv
  obtain ⟨m1, m2, m3, m4, m5⟩ := hm
  have h5 : l.length ≤ 5 := by have := need_le (n := lg) m2; omega
  have EB := Lib.hid (body_nums ep lg h5)
  have HPG : Hid (∀ j, 0 ≤ l.getD j 0 ∧ l.getD j 0 ≤ 1023) := Lib.hid (fun j => by
    rcases Nat.lt_or_ge j l.length with h | h
    · exact m4 j h
    · rw [List.getD_eq_getElem?_getD, List.getElem?_eq_none h]; simp)
  have HR := Lib.hid repeat30
  have HS1 := Lib.hid (fun w => pshort_any lg m1 (by omega) w)
  have HS2 := Lib.hid (fun w => pshort_any (l.length : Int) (by omega) (by omega) w)
  have HS3 : Hid (∀ j w, Calls Tryz.prog 150 #[.int .i64 (l.getD j 0)] w fun e w' => e = .returned (.string (strOfNums (beI 2 (l.getD j 0)))) ∧ Below w.heap.size w w') := Lib.hid (fun j w => pshort_any _ (HPG.out j).1 (by have := (HPG.out j).2; omega) w)
  have X1 := Lib.hid (heap_alloc_new u (.cells #[.int .i64 ep, .int .i64 lg, .slice ao l.length cap] 98))
  have B1 := Lib.hid (balloc u (.cells #[.int .i64 ep, .int .i64 lg, .slice ao l.length cap] 98))
  have S1 : (u.alloc (.cells #[.int .i64 ep, .int .i64 lg, .slice ao l.length cap] 98)).heap.size = u.heap.size + 1 := by simp
  have A1 : Hid (0 < l.length → ∃ b o, ao = some ⟨b, o, none⟩ ∧ b < u.heap.size ∧ At 1 (gW fun i => l.getD i 0) l.length b o (u.alloc (.cells #[.int .i64 ep, .int .i64 lg, .slice ao l.length cap] 98))) := Lib.hid (fun h => by
    obtain ⟨b, o, e, hb⟩ := hA h
    exact ⟨b, o, e, hb.1, hb.below (balloc u _)⟩)
  obtain ⟨C, hC⟩ : ∃ C, C = u.heap.size := ⟨_, rfl⟩
  have HCC := Lib.hid hC
  rw [← hC] at X1 S1
  unfold rtV
  clear hA m1 m2 m3 m4 m5 HPG
  go_enter Tryz.func110, Tryz.ntmps110
  go_upto_region 2 with fail
  rw [← hC]
  generalize u.alloc (.cells #[.int .i64 ep, .int .i64 lg, .slice ao l.length cap] 98) = w1 at *
  have P2 := Lib.hid (heap_alloc_new w1 (.cells #[.int .i64 0, .int .i64 0, .int .i64 0, .int .i64 0, .int .i64 0] 158))
  have B2 := Lib.hid (bthen B1.out (balloc w1 (.cells #[.int .i64 0, .int .i64 0, .int .i64 0, .int .i64 0, .int .i64 0] 158)))
  have X2 := Lib.hid (heap_stays13 X1.out (balloc w1 (.cells #[.int .i64 0, .int .i64 0, .int .i64 0, .int .i64 0, .int .i64 0] 158)))
  have S2 : (w1.alloc (.cells #[.int .i64 0, .int .i64 0, .int .i64 0, .int .i64 0, .int .i64 0] 158)).heap.size = C + 2 := by simp; omega
  have A2 : Hid (0 < l.length → ∃ b o, ao = some ⟨b, o, none⟩ ∧ At 1 (gW fun i => l.getD i 0) l.length b o (w1.alloc (.cells #[.int .i64 0, .int .i64 0, .int .i64 0, .int .i64 0, .int .i64 0] 158))) := Lib.hid (fun h => by
    obtain ⟨b, o, e, hlt, hb⟩ := A1.out h
    exact ⟨b, o, e, hb.below (balloc w1 _)⟩)
  rw [S1] at P2
  clear hC X1 B1 A1 S1
  generalize w1.alloc (.cells #[.int .i64 0, .int .i64 0, .int .i64 0, .int .i64 0, .int .i64 0] 158) = w2 at *
  refine wp_region_held_drew (S := (fun w' => w'.cell? ⟨C, 2, none⟩ = some (.slice ao l.length cap))) (by kernel_rfl) (by show w2.cell? ⟨C, 2, none⟩ = _; rw [Lib.cell_of_heap X2.out]; rfl) (fun hHeld => ?_)
  have P3 := Lib.hid (show (World.drew w2).heap[C + 1]? = some (.cells (fiveV []).toArray 158 (0, 0)) from P2.out)
  have X3 := Lib.hid (show (World.drew w2).heap[C]? = _ from X2.out)
  have B3 := Lib.hid (bthen B2.out (bdrew w2))
  have S3 : (World.drew w2).heap.size = C + 2 := S2
  have A3 : Hid (0 < l.length → ∃ b o, ao = some ⟨b, o, none⟩ ∧ At 1 (gW fun i => l.getD i 0) l.length b o (World.drew w2)) := Lib.hid (fun h => by
    obtain ⟨b, o, e, hb⟩ := A2.out h
    exact ⟨b, o, e, hb.below (bdrew w2)⟩)
  clear P2 X2 B2 S2 A2
  change wpAnyH _ _ _ _ _ _ _ _ (World.drew w2)
  generalize World.drew w2 = w3 at *
  obtain ⟨w4, hcp, P4, hb4, hs4, ho4⟩ := copy_five (base := C) (cap := cap) P3.out h5 A3.out (by omega)
  have B4 := Lib.hid (B3.out.trans (HCC.out ▸ hb4))
  have X4 := Lib.hid ((ho4 C (by omega)).trans X3.out)
  have S4 : w4.heap.size = C + 2 := hs4.trans S3
  clear hb4 hs4 ho4 X3 B3 P3 A3 S3
  first | refine tq0 0 rfl ?_ | refine tq1 0 rfl ?_
  try go_frame
  first | refine tq0 1 rfl ?_ | refine tq1 1 rfl ?_
  try go_frame
  first | refine tq0 2 rfl ?_ | refine tq1 2 rfl ?_
  try go_frame
  refine wpAnyH_ready (rs := [3]) (by kernel_rfl) (by simp) ?_
  refine AllReadyH.cons (o := ⟨_, _, _, _, _, _⟩) rfl (fun Kx hKx => ?_) AllReadyH.nil
  go_simp
  refine hKx.out _ _ (by rw [Lib.cell_of_heap X4.out]; rfl) (fun hHeld => ?_)
  clear hKx Kx
  try simp only [Act.put, List.setIfInBounds_toArray, List.set_cons_zero, List.set_cons_succ]
  refine wpAnyH_done (by kernel_rfl) ?_ _
  clear hHeld hcp
  have T5 := Lib.hid (show B13 u C _ _ [] (w4.alloc (.cells #[.pointer none, .slice none 0 0] 161)) from ⟨S4 ▸ Bl13.new w4, HCC.out ▸ bthen B4.out (balloc w4 (.cells #[.pointer none, .slice none 0 0] 161)), by simp; omega, heap_stays13 X4.out (balloc w4 (.cells #[.pointer none, .slice none 0 0] 161)), heap_stays13 P4 (balloc w4 (.cells #[.pointer none, .slice none 0 0] 161))⟩)
  clear P4 X4 B4
  go_upto_region 4 with fail
  generalize w4.alloc (.cells #[.pointer none, .slice none 0 0] 161) = w5 at *
  clear S4
  have x1 : w5.cell? ⟨C, 1, none⟩ = some (.int .i64 lg) := by rw [Lib.cell_of_heap T5.out.bx]; rfl
  go_wp2_with fail
  refine (HS1.out _).mono ?_
  rintro e w6 ⟨rfl, hb⟩
  have T6 := Lib.hid ((T5.out.below hb).write (beI 2 lg) (by rw [beI_len]; simp))
  clear hb x1 T5 HS1
  go_wp2_with fail
  refine (T6.out).mono ?_
  rintro e w7 ⟨⟨ve, rfl⟩, hT⟩
  have T7 := Lib.hid hT
  clear hT T6
  have x2 : w7.cell? ⟨C, 2, none⟩ = some (.slice ao l.length cap) := by rw [Lib.cell_of_heap T7.out.bx]; rfl
  go_wp2_with fail
  refine (HS2.out _).mono ?_
  rintro e w8 ⟨rfl, hb⟩
  have T8 := Lib.hid ((T7.out.below hb).write (beI 2 (l.length : Int)) (by rw [List.nil_append, beI_len, beI_len]; omega))
  clear hb x2 T7 HS2
  go_wp2_with fail
  refine (T8.out).mono ?_
  rintro e w9 ⟨⟨ve2, rfl⟩, hT⟩
  have T9 := Lib.hid (hT.same (show _ = preR lg l 0 from by simp [preR, twosL]))
  clear hT T8
  obtain ⟨p, hp⟩ : ∃ p : Nat → Int, p = fun j => l.getD j 0 := ⟨_, rfl⟩
  have y0 : w9.cell? ⟨C + 1, 0, none⟩ = some (.int .i64 (p 0)) := by rw [Lib.cell_of_heap T9.out.ar, hp]; rfl
  have y1 : w9.cell? ⟨C + 1, 1, none⟩ = some (.int .i64 (p 1)) := by rw [Lib.cell_of_heap T9.out.ar, hp]; rfl
  have y2 : w9.cell? ⟨C + 1, 2, none⟩ = some (.int .i64 (p 2)) := by rw [Lib.cell_of_heap T9.out.ar, hp]; rfl
  have y3 : w9.cell? ⟨C + 1, 3, none⟩ = some (.int .i64 (p 3)) := by rw [Lib.cell_of_heap T9.out.ar, hp]; rfl
  have y4 : w9.cell? ⟨C + 1, 4, none⟩ = some (.int .i64 (p 4)) := by rw [Lib.cell_of_heap T9.out.ar, hp]; rfl
  have HP := Lib.hid hp
  clear hp
  go_wp2_with fail
  clear y0 y1 y2 y3 y4
  go_loopw [21] (fun i wr => ∃ j : Nat, j ≤ 5 ∧ i = .int .i64 j ∧ Hid (B13 u C (.cells #[.int .i64 ep, .int .i64 lg, .slice ao l.length cap] 98 (0, 0)) (.cells (fiveV l).toArray 158 (0, 0)) (preR lg l j) wr)) (fun i _ => 5 - (intOf i).toNat)
  case atStart => exact ⟨0, Nat.zero_le _, rfl, T9⟩
  case round =>
    obtain ⟨j, hj, rfl, HT⟩ := hrel
    by_cases hlt : j < 5
    · have HS : Hid (∀ w, Calls Tryz.prog 150 #[.int .i64 (p j)] w fun e w' => e = .returned (.string (strOfNums (beI 2 (l.getD j 0)))) ∧ Below w.heap.size w w') := Lib.hid (fun w => by rw [HP.out]; exact HS3.out j w)
      have HW : Hid (∀ w, Below wr.heap.size wr w → Calls Tryz.prog 149 #[.pointer (some ⟨C + 2, 0, none⟩), .string (strOfNums (beI 2 (l.getD j 0)))] w fun e w' => (∃ v, e = .returned v) ∧ B13 u C (.cells #[.int .i64 ep, .int .i64 lg, .slice ao l.length cap] 98 (0, 0)) (.cells (fiveV l).toArray 158 (0, 0)) (preR lg l (j + 1)) w') := Lib.hid (fun w hb => ((HT.out.below hb).write (beI 2 (l.getD j 0)) (by rw [preR_len lg l (by omega), beI_len]; omega)).mono fun r w' h => ⟨h.1, h.2.same (preR_succ lg l hlt).symm⟩)
      clear HS3 HT
      have qi : Hid (∀ w, (Instr.index 158 (.agg #[.int .i64 (p 0), .int .i64 (p 1), .int .i64 (p 2), .int .i64 (p 3), .int .i64 (p 4)]) (.int .i64 (j : Int))).run Tryz.prog w = .ok (.int .i64 (p j)) w) := Lib.hid (run_index_five p j hlt)
      have hj2 : (j : Int) < 5 := by omega
      have HLT := Lib.hid hlt
      clear hlt
      have qi2 := qi.out
      go_wp2_with fail
      clear qi2 qi
      refine (HS.out _).mono ?_
      rintro e w10 ⟨rfl, hb⟩
      have HW2 := Lib.hid (HW.out _ hb)
      clear hb HW
      go_wp2_with fail
      refine (HW2.out).mono ?_
      rintro e w11 ⟨⟨ve3, rfl⟩, hT⟩
      have T11 := Lib.hid hT
      clear hT HW2
      go_wp2_with fail
      go_roundw
      case rel => have := HLT.out; exact ⟨j + 1, by omega, by go_num, T11⟩
      case measure => have := HLT.out; simp [intOf]; omega
    · obtain rfl : j = 5 := by omega
      have HL := Lib.hid HT.out.bl.len
      rw [preR_len lg l (Nat.le_refl 5)] at HL
      go_wp2_with fail
      refine (HL.out).mono ?_
      rintro e w10 ⟨rfl, hw⟩
      rw [hw]
      clear hw w10 HL
      go_wp2_with fail
      refine (HR.out _).mono ?_
      rintro e w10 ⟨rfl, hb⟩
      have e30 : (⟨(zerosB 30).toArray⟩ : ByteArray) = strOfNums (List.replicate 30 0) := rfl
      have T10 := Lib.hid ((HT.out.below hb).write (List.replicate 30 0) (by rw [preR_len lg l (Nat.le_refl 5)]; simp))
      rw [e30]
      clear hb HT e30 HR
      go_wp2_with fail
      refine (T10.out).mono ?_
      rintro e w11 ⟨⟨ve3, rfl⟩, hT⟩
      have T11 := Lib.hid hT
      have HX := Lib.hid (hT.bl.text (by have := hT.sz; omega))
      clear hT T10
      go_wp2_with fail
      refine (HX.out).mono ?_
      rintro e w12 ⟨rfl, hb⟩
      have B12 : Hid (Below u.heap.size u w12) := Lib.hid (by
        rw [← HCC.out]
        exact T11.out.lo.trans (hb.mono (by omega)))
      rw [EB.out]
      clear hb HX T11
      go_wp2_with fail
      go_ret
      exact ⟨rfl, B12.out⟩

end Go.Proofs.YtmflkkkbahghgaaGreat
namespace Go.Proofs.YtmflkkkbahghgaaGreat
open Go.RowKit Go.Deep
set_option linter.unusedVariables false
set_option linter.unusedSimpArgs false
set_option maxRecDepth 100000

theorem rtO_no {r : Rt} (h : ¬ RightR r) : rtO r = ⟨#[]⟩ ∧ rtE r = 2 := by unfold rtO rtE; rw [if_neg h, if_neg h]; exact ⟨rfl, rfl⟩
theorem rtO_yes {r : Rt} (h : RightR r) : rtO r = bytesR r ∧ rtE r = 0 := by unfold rtO rtE; rw [if_pos h, if_pos h]; exact ⟨rfl, rfl⟩
theorem layP_laid (s : ByteArray) : (⟨(laidL s.data.toList).toArray⟩ : ByteArray) = layP s := rfl
set_option maxHeartbeats 6400000 in
theorem pputR_any (ep lg : Int) (l : List Int) (v : Value) (u : World) (he : big64 ep) (hg : big64 lg) (hl : l.length ≤ 40) (hv : LstI l v u) :
    Calls Tryz.prog 64 #[rtV ep lg v] u fun r u' => r = .returned (.tuple #[.string (rtO ⟨ep, lg, l⟩), .int .i64 (rtE ⟨ep, lg, l⟩)]) ∧ Below u.heap.size u u' := by
  have X1 := Lib.hid (heap_alloc_new u (.cells #[.int .i64 ep, .int .i64 lg, v] 98))
  have B1 := Lib.hid (balloc u (.cells #[.int .i64 ep, .int .i64 lg, v] 98))
  have V1 := Lib.hid (hv.below (balloc u (.cells #[.int .i64 ep, .int .i64 lg, v] 98)))
  have hoc : v.oneCell' = true := by obtain ⟨ao, cap, rfl, _⟩ := hv; rfl
  obtain ⟨C, hC⟩ : ∃ C, C = u.heap.size := ⟨_, rfl⟩
  rw [← hC] at X1
  have HE := Lib.hid (pisEpoch_any ep)
  have HM := Lib.hid (fun w h => pmayR_any ep lg l v w hg (by omega) h)
  have HI := Lib.hid (packI ep)
  have HBO := Lib.hid (fun w hm h => pbodyOf_any ep lg l v w hm h)
  have hbz : (bodyR ⟨ep, lg, l⟩).size = 44 := by unfold bodyR; rw [padN_size]
  have HL := Lib.hid (fun w => lay_any (bodyR ⟨ep, lg, l⟩) (by rw [hbz]; omega) w)
  rw [layP_laid] at HL
  have hlz : (layP (bodyR ⟨ep, lg, l⟩)).size = 48 := by rw [layP_size, hbz]
  have R := Lib.hid (rightR_iff ⟨ep, lg, l⟩)
  have hez : (strOfNums (beI 8 (flip63 ep))).size = 8 := by rw [strOfNums_size, beI_len]
  have EO : Hid (bytesR ⟨ep, lg, l⟩ = strOfNums (beI 8 (flip63 ep)) ++ layP (bodyR ⟨ep, lg, l⟩) ++ strOfNums (beI 8 (flip63 ep))) := Lib.hid rfl
  unfold rtV at *
  clear he hg hv hbz
  go_enter Tryz.func64, Tryz.ntmps64
  go_upto_region 1 with fail
  rw [← hC]
  generalize u.alloc (.cells #[.int .i64 ep, .int .i64 lg, v] 98) = w1 at *
  clear hC
  obtain ⟨x0, x1, x2⟩ := three_of X1.out
  cases hE : epOk ep
  · obtain ⟨E1, E2⟩ := rtO_no (r := ⟨ep, lg, l⟩) fun h => by
      have : 1 ≤ ep ∧ ep ≤ 1099511627776 := (R.out.1 h).1
      simp [epOk] at hE
      omega
    have E3 := Lib.hid (And.intro E1 E2)
    rw [hE] at HE
    clear hE E1 E2
    go_wp2_with fail
    refine (HE.out _).mono ?_
    rintro e w9 ⟨rfl, hw⟩
    rw [hw]
    clear hw w9
    go_wp2_with fail
    go_ret2
    exact ⟨by rw [E3.out.1, E3.out.2]; rfl, B1.out⟩
  have HEE : Hid (1 ≤ ep ∧ ep ≤ 1099511627776) := Lib.hid (by simpa [epOk] using hE)
  rw [hE] at HE
  clear hE
  by_cases hm : MayR lg l
  · obtain ⟨E1, E2⟩ := rtO_yes (r := ⟨ep, lg, l⟩) (R.out.2 ⟨HEE.out, hm⟩)
    have E3 := Lib.hid (And.intro E1 E2)
    have HM2 : Hid (∀ w, LstI l v w → Calls Tryz.prog 107 #[.agg #[.int .i64 ep, .int .i64 lg, v]] w fun e w' => e = .returned (.bool true) ∧ Below w.heap.size w w') := Lib.hid (fun w h => by
      have := HM.out w h
      rw [decide_eq_true hm] at this
      exact this)
    have HB2 := Lib.hid (fun w h => HBO.out w hm h)
    clear hm E1 E2 HM HBO
    go_wp2_with fail
    refine (HE.out _).mono ?_
    rintro e w9 ⟨rfl, hw⟩
    rw [hw]
    clear hw w9
    go_wp2_with fail
    refine (HM2.out _ V1.out).mono ?_
    rintro e w2 ⟨rfl, hb⟩
    have B2 := Lib.hid (bthen B1.out hb)
    have X2 := Lib.hid (heap_stays13 X1.out hb)
    have V2 := Lib.hid (V1.out.below hb)
    clear hb B1 X1 V1 x0 x1 x2
    obtain ⟨x0, x1, x2⟩ := three_of X2.out
    go_wp2_with fail
    refine (HI.out _).mono ?_
    rintro e w3 ⟨rfl, hb⟩
    have B3 := Lib.hid (bthen B2.out hb)
    have X3 := Lib.hid (heap_stays13 X2.out hb)
    have V3 := Lib.hid (V2.out.below hb)
    clear hb B2 X2 V2 x0 x1 x2
    obtain ⟨x0, x1, x2⟩ := three_of X3.out
    generalize strOfNums (beI 8 (flip63 ep)) = se at *
    go_wp2_with fail
    refine (HB2.out _ V3.out).mono ?_
    rintro e w4 ⟨rfl, hb⟩
    have B4 := Lib.hid (bthen B3.out hb)
    clear hb B3 X3 V3 x0 x1 x2
    generalize bodyR ⟨ep, lg, l⟩ = sb at *
    go_wp2_with fail
    refine (HL.out _).mono ?_
    rintro e w5 ⟨rfl, hb⟩
    have B5 := Lib.hid (bthen B4.out hb)
    clear hb B4
    generalize layP sb = sl at *
    have z1 : ¬ 9223372036854775807 < se.size + sl.size := by omega
    have z2 : ¬ 9223372036854775807 < (se ++ sl).size + se.size := by rw [ByteArray.size_append]; omega
    go_wp2_with fail
    go_ret2
    exact ⟨by rw [E3.out.1, E3.out.2, EO.out]; rfl, B5.out⟩
  · obtain ⟨E1, E2⟩ := rtO_no (r := ⟨ep, lg, l⟩) fun h => hm (R.out.1 h).2
    have E3 := Lib.hid (And.intro E1 E2)
    have HM2 : Hid (∀ w, LstI l v w → Calls Tryz.prog 107 #[.agg #[.int .i64 ep, .int .i64 lg, v]] w fun e w' => e = .returned (.bool false) ∧ Below w.heap.size w w') := Lib.hid (fun w h => by
      have := HM.out w h
      rw [decide_eq_false hm] at this
      exact this)
    clear hm E1 E2 HM HBO
    go_wp2_with fail
    refine (HE.out _).mono ?_
    rintro e w9 ⟨rfl, hw⟩
    rw [hw]
    clear hw w9
    go_wp2_with fail
    refine (HM2.out _ V1.out).mono ?_
    rintro e w2 ⟨rfl, hb⟩
    have B2 := Lib.hid (bthen B1.out hb)
    clear hb x0 x1 x2
    go_wp2_with fail
    go_ret2
    exact ⟨by rw [E3.out.1, E3.out.2]; rfl, B2.out⟩

end Go.Proofs.YtmflkkkbahghgaaGreat
namespace Go.Proofs.YtmflkkkbahghgaaGreat
open Go.RowKit Go.Deep
set_option linter.unusedVariables false
set_option linter.unusedSimpArgs false
set_option maxRecDepth 100000

/-- the first root -/
def root1 : Rt := ⟨1, 0, []⟩
theorem root1_right : RightR root1 := ⟨List.Pairwise.nil, fun _ h => absurd h List.not_mem_nil, by decide, by decide, by decide, by decide, rfl⟩
theorem many_of (n : Nat) (hn : 1 ≤ n) : manyP ((2 + 4 * n : Nat) : Int) = (n : Int) := by unfold manyP; split <;> omega
/-- what Format leaves on a new disk, by steps -/
theorem format_math {n : Nat} (h1 : 1 ≤ n) (h2 : n ≤ 1000) {z : ByteArray} (hz : ∀ j, byD z j = 0) :
    let d1 := writeD (newD (2 + 4 * n)) 0 (bytesR root1)
    let d2 := writeD d1 1 z
    writeE (newD (2 + 4 * n)) 0 = 0 ∧ writeE d1 1 = 0 ∧ syncE d2 = 0 ∧ BdD (newD (2 + 4 * n)) ∧ BdD d1 ∧ BdD d2 ∧ (syncD d2).arm = 0 ∧ (syncD d2).calls ≤ 64 ∧ (syncD d2).n ≤ 4096 ∧ (n : Int) = manyP (syncD d2).n ∧
      HoldP (syncD d2) ⟨(n : Int), [], [], 1, 64⟩ n (fun _ => 0) (fun _ => -1) [] [] 0 := by
  intro d1 d2
  have e1 : d1 = ⟨2 + 4 * n, fun _ _ => 0, upd (fun _ _ => 0) 0 (byD (bytesR root1)), upd (fun _ => false) 0 true, 0, 1, false⟩ := by
    show writeD (newD (2 + 4 * n)) 0 (bytesR root1) = _
    unfold writeD newD countD
    dsimp only
    rw [if_neg (by decide), if_neg (by show ¬ ((0 : Int) < 0 ∨ ((2 + 4 * n : Nat) : Int) ≤ 0); omega), if_neg (by decide)]
    rfl
  have e2 : d2 = ⟨2 + 4 * n, fun _ _ => 0, upd (upd (fun _ _ => 0) 0 (byD (bytesR root1))) 1 (byD z), upd (upd (fun _ => false) 0 true) 1 true, 0, 2, false⟩ := by
    show writeD d1 1 z = _
    rw [e1]
    unfold writeD countD
    dsimp only
    rw [if_neg (by decide), if_neg (by show ¬ ((1 : Int) < 0 ∨ ((2 + 4 * n : Nat) : Int) ≤ 1); omega), if_neg (by decide)]
    rfl
  have w1 : writeE (newD (2 + 4 * n)) 0 = 0 := by
    unfold writeE newD countE
    dsimp only
    rw [if_neg (by decide), if_neg (by show ¬ ((0 : Int) < 0 ∨ ((2 + 4 * n : Nat) : Int) ≤ 0); omega), if_neg (by decide)]
  have w2 : writeE d1 1 = 0 := by
    rw [e1]
    unfold writeE countE
    dsimp only
    rw [if_neg (by decide), if_neg (by show ¬ ((1 : Int) < 0 ∨ ((2 + 4 * n : Nat) : Int) ≤ 1); omega), if_neg (by decide)]
  have s1 : syncE d2 = 0 := by
    rw [e2]
    unfold syncE countE
    dsimp only
    rw [if_neg (by decide), if_neg (by decide)]
  obtain ⟨g1, g2, g3, g4⟩ := sync_done s1
  have ok2 : OkD d2 := ((OkD.new ⟨by omega, by omega⟩).write 0 (bytesR root1)).write 1 z
  have hn3 : (syncD d2).n = 2 + 4 * n := by
    rw [e2]
    unfold syncD countD safeD
    dsimp only
    rw [if_neg (by decide), if_neg (by decide)]
    rfl
  have hc3 : (syncD d2).calls = 3 ∧ (syncD d2).arm = 0 := by
    rw [e2]
    unfold syncD countD safeD
    dsimp only
    rw [if_neg (by decide), if_neg (by decide)]
    exact ⟨rfl, rfl⟩
  refine ⟨w1, w2, s1, ⟨by show 2 + 4 * n ≤ 4096; omega, by show 0 < 1000000; omega, by show 0 ≤ _; omega⟩, by rw [e1]; exact ⟨by show 2 + 4 * n ≤ 4096; omega, by show 1 < 1000000; omega, by show 0 ≤ _; omega⟩, by rw [e2]; exact ⟨by show 2 + 4 * n ≤ 4096; omega, by show 2 < 1000000; omega, by show 0 ≤ _; omega⟩, hc3.2, by rw [hc3.1]; omega, by rw [hn3]; omega, by rw [hn3, many_of n h1], ?_⟩
  have hcom : ComV (syncD d2).sf (n : Int) [] 1 0 [] [] := ComV.first (fun j hj => by
    rw [g2, e2]
    rfl) (fun j hj => by
    rw [g2, e2]
    exact hz j)
  refine HoldP.of_com hcom (fun k => by unfold slA; simp [noSlt]) ⟨h1, by omega, by rw [hn3, many_of n h1]; exact Int.le_refl _⟩ (fun k => by unfold atL; simp) (fun q hq => .inr ⟨rfl, fun h => by rcases h.2 with h | h <;> exact absurd h List.not_mem_nil⟩) ⟨g3 0, g3 1⟩ (fun p hp => by rcases hp.2 with h | h <;> exact absurd h List.not_mem_nil) g1 ok2.sync

set_option maxHeartbeats 1600000 in
theorem sform1_any {base D bS bm cS n B : Nat} {u : World} (h : PDk base D bS bm cS (newD (2 + 4 * n)) u) (h1 : 1 ≤ n) (h2 : n ≤ 1000) (hx : u.heap[B]? = some (.cells #[.pointer (some ⟨D, 0, none⟩)] 60 (0, 0))) (hB : P3 D bS bm B = false) : Calls Tryz.prog 63 #[.pointer (some ⟨B, 0, none⟩)] u fun r u' => r = .returned (.tuple #[]) ∧ KpS (P3 D bS bm) u u' ∧ ∃ bm2, NewOr bm u bm2 ∧ PDk base D bS bm2 cS (syncD (writeD (writeD (newD (2 + 4 * n)) 0 (bytesR root1)) 1 ⟨#[]⟩)) u' := by
  obtain ⟨m1, m2, m3, m4, m5, m6, _⟩ := format_math (n := n) h1 h2 (z := ⟨#[]⟩) (fun j => by unfold byD; simp)
  have H := Lib.hid h
  have HP : Hid (∀ w, Calls Tryz.prog 64 #[.agg #[.int .i64 1, .int .i64 0, .slice none 0 0]] w fun r u' => r = .returned (.tuple #[.string (bytesR root1), .int .i64 0]) ∧ Below w.heap.size w u') := Lib.hid (fun w => by
    have := pputR_any 1 0 [] (.slice none 0 0) w (by unfold big64; omega) (by unfold big64; omega) (by decide) (LstI.nil w)
    obtain ⟨e1, e2⟩ := rtO_yes root1_right
    unfold root1 at e1 e2
    rw [e1, e2] at this
    exact this)
  have HW1 := Lib.hid (fun w (hq : PDk base D bS bm cS (newD (2 + 4 * n)) w) => pwrite_any hq m4 0 (bytesR root1))
  rw [m1] at HW1
  have HW2 := Lib.hid (fun w (hq : PDk base D bS bm cS (writeD (newD (2 + 4 * n)) 0 (bytesR root1)) w) => pwrite_any hq m5 1 ⟨#[]⟩)
  rw [m2] at HW2
  have HS := Lib.hid (fun w (hq : PDk base D bS bm cS (writeD (writeD (newD (2 + 4 * n)) 0 (bytesR root1)) 1 ⟨#[]⟩) w) => psyncB_any hq m6)
  rw [m3] at HS
  have HM := Lib.hid (fun w => smust_ok w)
  have HX := Lib.hid hx
  have BX : Hid (∀ w, KpS (P3 D bS bm) u w → w.cell? ⟨B, 0, none⟩ = some (.pointer (some ⟨D, 0, none⟩))) := Lib.hid (fun w k => by
    rw [Lib.cell_of_heap ((k.blk (lt_of_block HX.out) hB).trans HX.out)]; rfl)
  generalize syncD (writeD (writeD (newD (2 + 4 * n)) 0 (bytesR root1)) 1 ⟨#[]⟩) = d3 at *
  generalize writeD (writeD (newD (2 + 4 * n)) 0 (bytesR root1)) 1 ⟨#[]⟩ = d2 at *
  generalize writeD (newD (2 + 4 * n)) 0 (bytesR root1) = dd1 at *
  generalize bytesR root1 = s1 at *
  clear m1 m2 m3 m4 m5 m6 h hx hB
  go_enter Tryz.func63, Tryz.ntmps63
  go_wp2_with fail
  refine (HP.out _).mono ?_
  rintro e w1 ⟨rfl, hb1⟩
  have B1 := Lib.hid hb1
  have x1 := BX.out w1 (KpS.of hb1)
  clear hb1
  go_wp2_with fail
  refine (HM.out _).mono ?_
  rintro e w9 ⟨rfl, hw⟩
  rw [hw]
  clear hw w9
  go_wp2_with fail
  refine (HW1.out _ (H.out.below B1.out)).mono ?_
  rintro e w2 ⟨rfl, p2, k2⟩
  have P2 := Lib.hid p2
  have K2 := Lib.hid ((KpS.of B1.out).trans k2)
  have x2 := BX.out w2 K2.out
  clear p2 k2 x1
  go_wp2_with fail
  refine (HM.out _).mono ?_
  rintro e w9 ⟨rfl, hw⟩
  rw [hw]
  clear hw w9
  go_wp2_with fail
  refine (HW2.out _ P2.out).mono ?_
  rintro e w3 ⟨rfl, p3, k3⟩
  have P3' := Lib.hid p3
  have K3 := Lib.hid (K2.out.trans k3)
  have x3 := BX.out w3 K3.out
  clear p3 k3 x2
  go_wp2_with fail
  refine (HM.out _).mono ?_
  rintro e w9 ⟨rfl, hw⟩
  rw [hw]
  clear hw w9
  go_wp2_with fail
  refine (HS.out _ P3'.out).mono ?_
  rintro e w4 ⟨rfl, ⟨bm2, ho, hlt, p4⟩, k4⟩
  have P4 := Lib.hid p4
  have K4 := Lib.hid (K3.out.trans k4)
  have NO : Hid (NewOr bm u bm2) := Lib.hid (Or.imp id (fun h => Nat.le_trans K3.out.size h) ho)
  clear p4 k4 ho hlt x3
  go_wp2_with fail
  refine (HM.out _).mono ?_
  rintro e w9 ⟨rfl, hw⟩
  rw [hw]
  clear hw w9
  go_wp2_with fail
  go_end0
  exact ⟨rfl, K4.out, bm2, NO.out, P4.out⟩
set_option maxHeartbeats 1600000 in
theorem sformat_any {base D bS bm cS n : Nat} {u : World} (h : PDk base D bS bm cS (newD (2 + 4 * n)) u) (h1 : 1 ≤ n) (h2 : n ≤ 1000) (hb : base ≤ u.heap.size) : Calls Tryz.prog 23 #[.pointer (some ⟨D, 0, none⟩)] u fun r u' => ∃ P S2, r = .returned (.tuple #[.pointer (some ⟨P, 0, none⟩), .int .i64 0]) ∧ PMx base D P ⟨(n : Int), [], [], 1, 64⟩ 0 S2 u' ∧ NewB (P3 D bS bm) S2 u ∧ KpS (P3 D bS bm) u u' := by
  obtain ⟨_, _, _, _, _, _, m7, m8, m9, m11, m10⟩ := format_math (n := n) h1 h2 (z := ⟨#[]⟩) (fun j => by unfold byD; simp)
  have hmf : ∀ (fn : Fn) (first cap : Array Value) (w : World), (Instr.makeFunc fn first cap).run Tryz.prog w = .ok (.func fn first cap) w := fun _ _ _ _ => rfl
  have H := Lib.hid h
  have HM : Hid (∀ w, PDk base D bS bm cS (newD (2 + 4 * n)) w → Calls Tryz.prog 61 #[.pointer (some ⟨D, 0, none⟩)] w fun r u' => r = .returned (.int .i64 (n : Int)) ∧ u' = w) := Lib.hid (fun w hw => by
    have := pmany_any hw (by show 2 + 4 * n ≤ 4096; omega)
    rw [show ((newD (2 + 4 * n)).n : Int) = ((2 + 4 * n : Nat) : Int) from rfl, many_of n h1] at this
    exact this)
  have M7 := Lib.hid (And.intro m7 (And.intro m8 (And.intro m9 m10)))
  have M11 := Lib.hid m11
  have HF1 := Lib.hid (fun (w : World) (B : Nat) (hq : PDk base D bS bm cS (newD (2 + 4 * n)) w) hx hB => sform1_any (B := B) hq h1 h2 hx hB)
  generalize syncD (writeD (writeD (newD (2 + 4 * n)) 0 (bytesR root1)) 1 ⟨#[]⟩) = d3 at *
  have HO := Lib.hid (fun (w : World) (bm2 : Nat) (hq : PDk base D bS bm2 cS d3 w) (hbw : base ≤ w.heap.size) => over_sto hq hbw M7.out.2.2.1 M11.out 1)
  have d1 : decide ((n : Int) < 1) = false := by rw [decide_eq_false_iff_not]; omega
  have HB := Lib.hid hb
  have X0 := Lib.hid (heap_alloc_new u (.cells #[.pointer (some ⟨D, 0, none⟩)] 60))
  have B0 := Lib.hid (balloc u (.cells #[.pointer (some ⟨D, 0, none⟩)] 60))
  have SZ0 : Hid ((u.alloc (.cells #[.pointer (some ⟨D, 0, none⟩)] 60)).heap.size = u.heap.size + 1) := Lib.hid (by simp)
  have H0 := Lib.hid (H.out.below B0.out)
  have LP := Lib.hid (pdk_lo H.out)
  obtain ⟨B, hBe⟩ : ∃ B, B = u.heap.size := ⟨_, rfl⟩
  have HBE := Lib.hid hBe
  rw [← hBe] at X0
  have PB : Hid (P3 D bS bm B = false) := Lib.hid (by
    cases c : P3 D bS bm B with
    | false => rfl
    | true => have := (LP.out _ c).2; omega)
  clear m7 m8 m9 m10 m11 h hb
  go_enter Tryz.func23, Tryz.ntmps23
  go_upto_region 1 with fail
  rw [← hBe]
  generalize u.alloc (.cells #[.pointer (some ⟨D, 0, none⟩)] 60) = w0 at *
  clear hBe
  have x0 : w0.cell? ⟨B, 0, none⟩ = some (.pointer (some ⟨D, 0, none⟩)) := by rw [Lib.cell_of_heap X0.out]; rfl
  go_wp2_with fail
  refine (HM.out _ H0.out).mono ?_
  rintro e w1 ⟨rfl, hw⟩
  rw [hw]
  clear hw w1
  have HT := Lib.hid (attempt_any (f := 63) (caps := #[.pointer (some ⟨B, 0, none⟩)]) (u := w0) (Q := fun e w => e = 0 ∧ KpS (P3 D bS bm) w0 w ∧ ∃ bm2, NewOr bm (w0.alloc (.cells #[.int .i64 0] 33)) bm2 ∧ PDk base D bS bm2 cS d3 w)
    (fun w => callFunc_in Tryz.func63 (by kernel_rfl) (by kernel_rfl) _ w)
    (by
      have bE := balloc w0 (.cells #[.int .i64 0] 33)
      refine (HF1.out (w0.alloc (.cells #[.int .i64 0] 33)) B (H0.out.below bE) (heap_stays X0.out bE) PB.out).mono ?_
      rintro r w' ⟨rfl, k, bm2, ho, hp⟩
      refine ⟨?_, .inl ⟨rfl, rfl, (KpS.of bE).trans k, bm2, ho, hp⟩⟩
      refine (k.blk (by simp) ?_).trans (heap_alloc_new w0 _)
      cases c : P3 D bS bm w0.heap.size with
      | false => rfl
      | true => have := (LP.out _ c).2; have := SZ0.out; omega))
  clear HF1 HM
  go_wp2_with fail
  refine (HT.out).mono ?_
  rintro r w3 ⟨e, w2, rfl, ⟨rfl, k2, bm2, ho, p2⟩, hw3, hx2⟩
  have ks3 : KpS (fun q => q == w0.heap.size) w2 w3 := by rw [hw3]; exact KpS.set (b := w0.heap.size) (by simp) 0 _ w2
  have np3 : ∀ k, P3 D bS bm2 k = true → k ≠ w0.heap.size := fun k hk e => by
    subst e
    unfold P3 at hk
    simp only [Bool.or_eq_true, beq_iff_eq] at hk
    have hs := SZ0.out
    rcases hk with (e | e) | e
    · have := (LP.out _ (P3.a D bS bm)).2; omega
    · have := (LP.out _ (P3.b D bS bm)).2; omega
    · rcases ho with e2 | e2
      · have := (LP.out _ (P3.c D bS bm)).2; omega
      · simp at e2; omega
  have P3W := Lib.hid (pdk_kept p2 (T := fun q => q == w0.heap.size) (fun k hk => by simpa using np3 k hk) ks3)
  have K3 : Hid (KpS (P3 D bS bm) u w3) := Lib.hid (by
    have k03 : KpS (P3 D bS bm) w0 w3 := by
      refine kps_new (S2 := fun q => q == w0.heap.size) (fun q hq => .inr ?_) k2 ks3
      have : q = w0.heap.size := by simpa using hq
      omega
    exact (KpS.of B0.out).trans k03)
  have NO : Hid (NewOr bm u bm2) := Lib.hid (Or.imp id (fun h => by have := SZ0.out; simp at h; omega) ho)
  have x3 : w3.cell? ⟨B, 0, none⟩ = some (.pointer (some ⟨D, 0, none⟩)) := by
    have e2 := (k2.blk (lt_of_block X0.out) PB.out).trans X0.out
    have e3 := (ks3.blk (lt_of_block e2) (by have := HBE.out; have := SZ0.out; simp; omega)).trans e2
    rw [Lib.cell_of_heap e3]; rfl
  have HO3 := Lib.hid (HO.out w3 bm2 P3W.out (Nat.le_trans HB.out K3.out.size))
  clear HT k2 ho p2 hw3 hx2 ks3 np3 x0
  go_wp2_with fail
  refine (HO3.out).mono ?_
  rintro r w4 ⟨P, M, SK, rfl, hm, hP, hk, hbl⟩
  have FIN : Hid (∃ P2 S2, Ending.returned (.tuple #[.pointer (some ⟨P, 0, none⟩), .int .i64 0]) = .returned (.tuple #[.pointer (some ⟨P2, 0, none⟩), .int .i64 0]) ∧ PMx base D P2 ⟨(n : Int), [], [], 1, 64⟩ 0 S2 w4 ∧ NewB (P3 D bS bm) S2 u ∧ KpS (P3 D bS bm) u w4) := Lib.hid (by
    refine ⟨P, stoS P D bS bm2 SK (.slice none 0 0), rfl, ⟨M, bS, bm2, cS, d3, n, fun _ => 0, fun _ => -1, [], [], 0, .slice none 0 0, SK, ⟨hm, M7.out.2.2.2, M7.out.1, M7.out.2.1, M7.out.2.2.1, by rw [M7.out.1]; omega, .inl rfl, M11.out⟩, rfl⟩, fun k hk2 => ?_, K3.out.trans (KpS.of hbl)⟩
    rcases stoS_iff.1 hk2 with rfl | h2 | h2 | h2
    · exact .inr (Nat.le_trans K3.out.size hP)
    · exact newB_p3 (fun q hq => hq) NO.out k h2
    · exact .inr (Nat.le_trans K3.out.size (hk k h2))
    · cases h2)
  clear hm hP hk hbl HO3 x3
  go_wp2_with fail
  go_ret2
  exact FIN.out

end Go.Proofs.YtmflkkkbahghgaaGreat
