/- The program's root: the bytes behind the check, laid. -/
import Derived.Test.YtaaagmcdbmppmaaYRtP3
import Derived.Test.YtaaagmcdbmppmaaYZ0
namespace Go.Proofs.Ytaaagmcdbmppmaa
open Go.RowKit Go.Deep
set_option linter.unusedVariables false
set_option linter.unusedSimpArgs false
set_option maxRecDepth 100000

/-- a builder in block b that holds these bytes -/
def Bl13 (b : Nat) (xs : List Int) (w : World) : Prop := Lib.IsBuilder 58 5 b b (Lib.byteCells (xs.map toU8)) w
theorem Bl13.write {b : Nat} {xs : List Int} {w : World} (h : Bl13 b xs w) (hb : b ≤ w.heap.size) (ys : List Int) (hl : xs.length + ys.length ≤ 100000) :
    Calls Try.prog 28 #[.pointer (some ⟨b, 0, none⟩), .string (strOfNums ys)] w fun e w' => (∃ v, e = .returned v) ∧ Bl13 b (xs ++ ys) w' ∧ Below b w w' := by
  refine (writeString b b _ (strOfNums ys) w h (by rw [Lib.byteCells_length, List.length_map, strOfNums_size]; omega) hb).mono ?_
  rintro e w' ⟨rfl, h1, h2⟩
  refine ⟨⟨_, rfl⟩, Or.inr ?_, h2⟩
  rw [byteCells_nums, ← byteCells_append, ← List.map_append] at h1
  exact h1
theorem Bl13.below {b : Nat} {xs : List Int} {w w' : World} (h : Bl13 b xs w) (k : Below w.heap.size w w') : Bl13 b xs w' := isBuilder_below h k
theorem Bl13.new (w : World) : Bl13 w.heap.size [] (w.alloc (.cells #[.pointer none, .slice none 0 0] 58)) := Or.inl (builder_new w)
theorem Bl13.text {b : Nat} {xs : List Int} {w : World} (h : Bl13 b xs w) (hb : b ≤ w.heap.size) :
    Calls Try.prog 30 #[.pointer (some ⟨b, 0, none⟩)] w fun e w' => e = .returned (.string (strOfNums xs)) ∧ Below b w w' := by
  have := builderString b b (xs.map toU8) w h hb
  rw [← strOfNums_eq] at this
  exact this
theorem Bl13.len {b : Nat} {xs : List Int} {w : World} (h : Bl13 b xs w) :
    Calls Try.prog 38 #[.pointer (some ⟨b, 0, none⟩)] w fun e w' => e = .returned (.int .i64 xs.length) ∧ w' = w := by
  have := lenF b b _ w (Lib.IsBuilderF.of h)
  rw [Lib.byteCells_length, List.length_map] at this
  exact this
/-- what a function made in new memory, and what was below it -/
theorem Below.down {b B : Nat} {w w' : World} (h : Below b w w') (hB : B ≤ b) : Below B w w' := h.mono hB

/-- what bodyOf has in memory: its root, its pages, its builder -/
structure B13 (u : World) (C : Nat) (r p : Obj) (xs : List Int) (w : World) : Prop where
  bl : Bl13 (C + 2) xs w
  lo : Below C u w
  sz : C + 3 ≤ w.heap.size
  bx : w.heap[C]? = some r
  ar : w.heap[C + 1]? = some p
theorem B13.below {u : World} {C : Nat} {r p : Obj} {xs : List Int} {w w' : World} (h : B13 u C r p xs w) (k : Below w.heap.size w w') : B13 u C r p xs w' :=
  ⟨h.bl.below k, h.lo.trans (k.mono (by have := h.sz; omega)), Nat.le_trans h.sz k.size, heap_stays13 h.bx k, heap_stays13 h.ar k⟩
theorem B13.write {u : World} {C : Nat} {r p : Obj} {xs : List Int} {w : World} (h : B13 u C r p xs w) (ys : List Int) (hl : xs.length + ys.length ≤ 100000) :
    Calls Try.prog 28 #[.pointer (some ⟨C + 2, 0, none⟩), .string (strOfNums ys)] w fun e w' => (∃ v, e = .returned v) ∧ B13 u C r p (xs ++ ys) w' := by
  refine (h.bl.write (by have := h.sz; omega) ys hl).mono ?_
  rintro e w' ⟨he, h1, h2⟩
  exact ⟨he, h1, h.lo.trans (h2.mono (by omega)), Nat.le_trans h.sz h2.size, (h2.block C (by omega)).trans h.bx, (h2.block (C + 1) (by omega)).trans h.ar⟩
theorem B13.same {u : World} {C : Nat} {r p : Obj} {xs ys : List Int} {w : World} (h : B13 u C r p xs w) (e : xs = ys) : B13 u C r p ys w := e ▸ h
theorem cell_box13 {w : World} {B : Nat} {r : List Value} {t : TypeId} {z : Nat × Nat} (h : w.heap[B]? = some (.cells r.toArray t z)) (i : Nat) (v : Value) (hi : r[i]? = some v) : w.cell? ⟨B, i, none⟩ = some v := by
  rw [Lib.cell_of_heap h]
  simpa using hi

theorem run_index_five (q : Nat → Int) (j : Nat) (hj : j < 5) (w : World) : (Instr.index 70 (.agg #[.int .i64 (q 0), .int .i64 (q 1), .int .i64 (q 2), .int .i64 (q 3), .int .i64 (q 4)]) (.int .i64 (j : Int))).run Try.prog w = .ok (.int .i64 (q j)) w := by
  have h1 : ¬ (j : Int) < 0 := by omega
  rcases (by omega : j = 0 ∨ j = 1 ∨ j = 2 ∨ j = 3 ∨ j = 4) with rfl | rfl | rfl | rfl | rfl <;>
    simp [Instr.index, run_underlying Try.underlying70, asIntOf, h1, go_sem]
set_option maxHeartbeats 12800000 in
theorem pbodyOf_any (ep lg : Int) (l : List Int) (v : Value) (u : World) (hm : MayR lg l) (hv : LstI l v u) :
    Calls Try.prog 24 #[rtV ep lg v] u fun e w' => e = .returned (.string (bodyR ⟨ep, lg, l⟩)) ∧ Below u.heap.size u w' := by
  obtain ⟨ao, cap, rfl, hc1, hc2, hA⟩ := hv
  obtain ⟨m1, m2, m3, m4, m5⟩ := hm
  have h5 : l.length ≤ 5 := by have := need_le (n := lg) m2; omega
  have EB := Lib.hid (body_nums ep lg h5)
  have HPG : Hid (∀ j, 0 ≤ l.getD j 0 ∧ l.getD j 0 ≤ 1023) := Lib.hid (fun j => by
    rcases Nat.lt_or_ge j l.length with h | h
    · exact m4 j h
    · rw [List.getD_eq_getElem?_getD, List.getElem?_eq_none h]; simp)
  have HR := Lib.hid repeat30
  have HS1 := Lib.hid (fun w => pshort_any lg m1 (by omega) w)
  have HS2 := Lib.hid (fun w => pshort_any (l.length : Int) (by omega) (by omega) w)
  have HS3 : Hid (∀ j w, Calls Try.prog 29 #[.int .i64 (l.getD j 0)] w fun e w' => e = .returned (.string (strOfNums (beI 2 (l.getD j 0)))) ∧ Below w.heap.size w w') := Lib.hid (fun j w => pshort_any _ (HPG.out j).1 (by have := (HPG.out j).2; omega) w)
  have X1 := Lib.hid (heap_alloc_new u (.cells #[.int .i64 ep, .int .i64 lg, .slice ao l.length cap] 29))
  have B1 := Lib.hid (balloc u (.cells #[.int .i64 ep, .int .i64 lg, .slice ao l.length cap] 29))
  have S1 : (u.alloc (.cells #[.int .i64 ep, .int .i64 lg, .slice ao l.length cap] 29)).heap.size = u.heap.size + 1 := by simp
  have A1 : Hid (0 < l.length → ∃ b o, ao = some ⟨b, o, none⟩ ∧ b < u.heap.size ∧ At 1 (gW fun i => l.getD i 0) l.length b o (u.alloc (.cells #[.int .i64 ep, .int .i64 lg, .slice ao l.length cap] 29))) := Lib.hid (fun h => by
    obtain ⟨b, o, e, hb⟩ := hA h
    exact ⟨b, o, e, hb.1, hb.below (balloc u _)⟩)
  obtain ⟨C, hC⟩ : ∃ C, C = u.heap.size := ⟨_, rfl⟩
  have HCC := Lib.hid hC
  rw [← hC] at X1 S1
  unfold rtV
  clear hA m1 m2 m3 m4 m5 HPG
  go_enter Try.func24, Try.ntmps24
  go_upto_region 2 with fail
  rw [← hC]
  generalize u.alloc (.cells #[.int .i64 ep, .int .i64 lg, .slice ao l.length cap] 29) = w1 at *
  have P2 := Lib.hid (heap_alloc_new w1 (.cells #[.int .i64 0, .int .i64 0, .int .i64 0, .int .i64 0, .int .i64 0] 70))
  have B2 := Lib.hid (bthen B1.out (balloc w1 (.cells #[.int .i64 0, .int .i64 0, .int .i64 0, .int .i64 0, .int .i64 0] 70)))
  have X2 := Lib.hid (heap_stays13 X1.out (balloc w1 (.cells #[.int .i64 0, .int .i64 0, .int .i64 0, .int .i64 0, .int .i64 0] 70)))
  have S2 : (w1.alloc (.cells #[.int .i64 0, .int .i64 0, .int .i64 0, .int .i64 0, .int .i64 0] 70)).heap.size = C + 2 := by simp; omega
  have A2 : Hid (0 < l.length → ∃ b o, ao = some ⟨b, o, none⟩ ∧ At 1 (gW fun i => l.getD i 0) l.length b o (w1.alloc (.cells #[.int .i64 0, .int .i64 0, .int .i64 0, .int .i64 0, .int .i64 0] 70))) := Lib.hid (fun h => by
    obtain ⟨b, o, e, hlt, hb⟩ := A1.out h
    exact ⟨b, o, e, hb.below (balloc w1 _)⟩)
  rw [S1] at P2
  clear hC X1 B1 A1 S1
  generalize w1.alloc (.cells #[.int .i64 0, .int .i64 0, .int .i64 0, .int .i64 0, .int .i64 0] 70) = w2 at *
  refine wp_region_held_drew (S := (fun w' => w'.cell? ⟨C, 2, none⟩ = some (.slice ao l.length cap))) (by kernel_rfl) (by show w2.cell? ⟨C, 2, none⟩ = _; rw [Lib.cell_of_heap X2.out]; rfl) (fun hHeld => ?_)
  have P3 := Lib.hid (show (World.drew w2).heap[C + 1]? = some (.cells (fiveV []).toArray 70 (0, 0)) from P2.out)
  have X3 := Lib.hid (show (World.drew w2).heap[C]? = _ from X2.out)
  have B3 := Lib.hid (bthen B2.out (bdrew w2))
  have S3 : (World.drew w2).heap.size = C + 2 := S2
  have A3 : Hid (0 < l.length → ∃ b o, ao = some ⟨b, o, none⟩ ∧ At 1 (gW fun i => l.getD i 0) l.length b o (World.drew w2)) := Lib.hid (fun h => by
    obtain ⟨b, o, e, hb⟩ := A2.out h
    exact ⟨b, o, e, hb.below (bdrew w2)⟩)
  clear P2 X2 B2 S2 A2
  change wpAnyH _ _ _ _ _ _ _ _ (World.drew w2)
  generalize World.drew w2 = w3 at *
  obtain ⟨w4, hcp, P4, hb4, hs4, ho4⟩ := copy_five (base := C) (cap := cap) P3.out h5 A3.out (by omega)
  have B4 := Lib.hid (B3.out.trans (HCC.out ▸ hb4))
  have X4 := Lib.hid ((ho4 C (by omega)).trans X3.out)
  have S4 : w4.heap.size = C + 2 := hs4.trans S3
  clear hb4 hs4 ho4 X3 B3 P3 A3 S3
  first | refine tq0 0 rfl ?_ | refine tq1 0 rfl ?_
  try go_frame
  first | refine tq0 1 rfl ?_ | refine tq1 1 rfl ?_
  try go_frame
  first | refine tq0 2 rfl ?_ | refine tq1 2 rfl ?_
  try go_frame
  refine wpAnyH_ready (rs := [3]) (by kernel_rfl) (by simp) ?_
  refine AllReadyH.cons (o := ⟨_, _, _, _, _, _⟩) rfl (fun Kx hKx => ?_) AllReadyH.nil
  go_simp
  refine hKx.out _ _ (by rw [Lib.cell_of_heap X4.out]; rfl) (fun hHeld => ?_)
  clear hKx Kx
  try go_frame
  refine wpAnyH_done (by kernel_rfl) ?_ _
  clear hHeld hcp
  have T5 := Lib.hid (show B13 u C _ _ [] (w4.alloc (.cells #[.pointer none, .slice none 0 0] 58)) from ⟨S4 ▸ Bl13.new w4, HCC.out ▸ bthen B4.out (balloc w4 (.cells #[.pointer none, .slice none 0 0] 58)), by simp; omega, heap_stays13 X4.out (balloc w4 (.cells #[.pointer none, .slice none 0 0] 58)), heap_stays13 P4 (balloc w4 (.cells #[.pointer none, .slice none 0 0] 58))⟩)
  clear P4 X4 B4
  go_upto_region 4 with fail
  generalize w4.alloc (.cells #[.pointer none, .slice none 0 0] 58) = w5 at *
  clear S4
  have x1 : w5.cell? ⟨C, 1, none⟩ = some (.int .i64 lg) := by rw [Lib.cell_of_heap T5.out.bx]; rfl
  go_wp2_with fail
  refine (HS1.out _).mono ?_
  rintro e w6 ⟨rfl, hb⟩
  have T6 := Lib.hid ((T5.out.below hb).write (beI 2 lg) (by rw [beI_len]; simp))
  clear hb x1 T5 HS1
  go_wp2_with fail
  refine (T6.out).mono ?_
  rintro e w7 ⟨⟨ve, rfl⟩, hT⟩
  have T7 := Lib.hid hT
  clear hT T6
  have x2 : w7.cell? ⟨C, 2, none⟩ = some (.slice ao l.length cap) := by rw [Lib.cell_of_heap T7.out.bx]; rfl
  go_wp2_with fail
  refine (HS2.out _).mono ?_
  rintro e w8 ⟨rfl, hb⟩
  have T8 := Lib.hid ((T7.out.below hb).write (beI 2 (l.length : Int)) (by rw [List.nil_append, beI_len, beI_len]; omega))
  clear hb x2 T7 HS2
  go_wp2_with fail
  refine (T8.out).mono ?_
  rintro e w9 ⟨⟨ve2, rfl⟩, hT⟩
  have T9 := Lib.hid (hT.same (show _ = preR lg l 0 from by simp [preR, twosL]))
  clear hT T8
  obtain ⟨p, hp⟩ : ∃ p : Nat → Int, p = fun j => l.getD j 0 := ⟨_, rfl⟩
  have y0 : w9.cell? ⟨C + 1, 0, none⟩ = some (.int .i64 (p 0)) := by rw [Lib.cell_of_heap T9.out.ar, hp]; rfl
  have y1 : w9.cell? ⟨C + 1, 1, none⟩ = some (.int .i64 (p 1)) := by rw [Lib.cell_of_heap T9.out.ar, hp]; rfl
  have y2 : w9.cell? ⟨C + 1, 2, none⟩ = some (.int .i64 (p 2)) := by rw [Lib.cell_of_heap T9.out.ar, hp]; rfl
  have y3 : w9.cell? ⟨C + 1, 3, none⟩ = some (.int .i64 (p 3)) := by rw [Lib.cell_of_heap T9.out.ar, hp]; rfl
  have y4 : w9.cell? ⟨C + 1, 4, none⟩ = some (.int .i64 (p 4)) := by rw [Lib.cell_of_heap T9.out.ar, hp]; rfl
  have HP := Lib.hid hp
  clear hp
  go_wp2_with fail
  clear y0 y1 y2 y3 y4
  go_loopw [21] (fun i wr => ∃ j : Nat, j ≤ 5 ∧ i = .int .i64 j ∧ Hid (B13 u C (.cells #[.int .i64 ep, .int .i64 lg, .slice ao l.length cap] 29 (0, 0)) (.cells (fiveV l).toArray 70 (0, 0)) (preR lg l j) wr)) (fun i _ => 5 - (intOf i).toNat)
  case atStart => exact ⟨0, Nat.zero_le _, rfl, T9⟩
  case round =>
    obtain ⟨j, hj, rfl, HT⟩ := hrel
    by_cases hlt : j < 5
    · have HS : Hid (∀ w, Calls Try.prog 29 #[.int .i64 (p j)] w fun e w' => e = .returned (.string (strOfNums (beI 2 (l.getD j 0)))) ∧ Below w.heap.size w w') := Lib.hid (fun w => by rw [HP.out]; exact HS3.out j w)
      have HW : Hid (∀ w, Below wr.heap.size wr w → Calls Try.prog 28 #[.pointer (some ⟨C + 2, 0, none⟩), .string (strOfNums (beI 2 (l.getD j 0)))] w fun e w' => (∃ v, e = .returned v) ∧ B13 u C (.cells #[.int .i64 ep, .int .i64 lg, .slice ao l.length cap] 29 (0, 0)) (.cells (fiveV l).toArray 70 (0, 0)) (preR lg l (j + 1)) w') := Lib.hid (fun w hb => ((HT.out.below hb).write (beI 2 (l.getD j 0)) (by rw [preR_len lg l (by omega), beI_len]; omega)).mono fun r w' h => ⟨h.1, h.2.same (preR_succ lg l hlt).symm⟩)
      clear HS3 HT
      have qi : Hid (∀ w, (Instr.index 70 (.agg #[.int .i64 (p 0), .int .i64 (p 1), .int .i64 (p 2), .int .i64 (p 3), .int .i64 (p 4)]) (.int .i64 (j : Int))).run Try.prog w = .ok (.int .i64 (p j)) w) := Lib.hid (run_index_five p j hlt)
      have hj2 : (j : Int) < 5 := by omega
      have HLT := Lib.hid hlt
      clear hlt
      have qi2 := qi.out
      go_wp2_with fail
      clear qi2 qi
      refine (HS.out _).mono ?_
      rintro e w10 ⟨rfl, hb⟩
      have HW2 := Lib.hid (HW.out _ hb)
      clear hb HW
      go_wp2_with fail
      refine (HW2.out).mono ?_
      rintro e w11 ⟨⟨ve3, rfl⟩, hT⟩
      have T11 := Lib.hid hT
      clear hT HW2
      go_wp2_with fail
      go_roundw
      case rel => have := HLT.out; exact ⟨j + 1, by omega, by go_num, T11⟩
      case measure => have := HLT.out; simp [intOf]; omega
    · obtain rfl : j = 5 := by omega
      have HL := Lib.hid HT.out.bl.len
      rw [preR_len lg l (Nat.le_refl 5)] at HL
      go_wp2_with fail
      refine (HL.out).mono ?_
      rintro e w10 ⟨rfl, hw⟩
      rw [hw]
      clear hw w10 HL
      go_wp2_with fail
      refine (HR.out _).mono ?_
      rintro e w10 ⟨rfl, hb⟩
      have e30 : (⟨(zerosB 30).toArray⟩ : ByteArray) = strOfNums (List.replicate 30 0) := rfl
      have T10 := Lib.hid ((HT.out.below hb).write (List.replicate 30 0) (by rw [preR_len lg l (Nat.le_refl 5)]; simp))
      rw [e30]
      clear hb HT e30 HR
      go_wp2_with fail
      refine (T10.out).mono ?_
      rintro e w11 ⟨⟨ve3, rfl⟩, hT⟩
      have T11 := Lib.hid hT
      have HX := Lib.hid (hT.bl.text (by have := hT.sz; omega))
      clear hT T10
      go_wp2_with fail
      refine (HX.out).mono ?_
      rintro e w12 ⟨rfl, hb⟩
      have B12 : Hid (Below u.heap.size u w12) := Lib.hid (by
        rw [← HCC.out]
        exact T11.out.lo.trans (hb.mono (by omega)))
      rw [EB.out]
      clear hb HX T11
      go_wp2_with fail
      go_ret
      exact ⟨rfl, B12.out⟩

end Go.Proofs.Ytaaagmcdbmppmaa
