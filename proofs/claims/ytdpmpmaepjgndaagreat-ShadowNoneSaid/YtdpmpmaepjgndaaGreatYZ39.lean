/- The program's reader of numbers of two bytes, and roots without their epochs. The program's GetPart. -/
import Derived.Test.YtdpmpmaepjgndaaGreatYZ36
import Derived.Test.YtdpmpmaepjgndaaGreatYZ14
import Derived.Test.YtdpmpmaepjgndaaGreatYZ1
import Derived.Test.YtdpmpmaepjgndaaGreatYZ24
namespace Go.Proofs.YtdpmpmaepjgndaaGreat
open Go.RowKit Go.Deep
set_option linter.unusedVariables false
set_option linter.unusedSimpArgs false
set_option maxRecDepth 100000

def rd2 (s : ByteArray) (a : Nat) : Int := byD s a * 256 + byD s (a + 1)
theorem rd2_bd (s : ByteArray) (a : Nat) : 0 ≤ rd2 s a ∧ rd2 s a ≤ 65535 := by
  have := byD_bd s a
  have := byD_bd s (a + 1)
  unfold rd2; omega
def six0 : ByteArray := ⟨#[0, 0, 0, 0, 0, 0]⟩
theorem byD_six (t : ByteArray) (j : Nat) : byD (six0 ++ t) j = if j < 6 then 0 else byD t (j - 6) := by
  rw [byD_app, show six0.size = 6 from rfl]
  split
  · rename_i h
    rcases (by omega : j = 0 ∨ j = 1 ∨ j = 2 ∨ j = 3 ∨ j = 4 ∨ j = 5) with rfl | rfl | rfl | rfl | rfl | rfl <;> rfl
  · rfl
theorem rdI_six (s : ByteArray) (a : Nat) : rdI (six0 ++ s.extract a (a + 2)) 0 8 = rd2 s a := by
  have b : ∀ j, byteI (six0 ++ s.extract a (a + 2)) j = if j < 6 then 0 else byD (s.extract a (a + 2)) (j - 6) := fun j => by rw [byteI_byD, byD_six]
  simp only [rdI, b]
  simp only [Nat.zero_add]
  rw [if_pos (by omega), if_pos (by omega), if_pos (by omega), if_pos (by omega), if_pos (by omega), if_pos (by omega), if_neg (by omega), if_neg (by omega), byD_cut _ _ _ _ (by omega), byD_cut _ _ _ _ (by omega)]
  unfold rd2
  rw [show a + (6 - 6) = a by omega, show a + (7 - 6) = a + 1 by omega]
  omega
/-- the value that reader hands back -/
def rdrV (q1 q2 : Nat) : Value := .func (.func 169) #[] #[.pointer (some ⟨q1, 0, none⟩), .pointer (some ⟨q2, 0, none⟩)]
/-- a reader in memory: its text, its place -/
structure RdAt (q1 q2 : Nat) (s : ByteArray) (a : Nat) (w : World) : Prop where
  tx : w.heap[q1]? = some (.cells #[.string s] 9 (0, 0))
  pl : w.heap[q2]? = some (.cells #[.int .i64 (a : Int)] 3 (0, 0))
theorem RdAt.below {q1 q2 : Nat} {s : ByteArray} {a : Nat} {w w' : World} (h : RdAt q1 q2 s a w) (k : Below w.heap.size w w') : RdAt q1 q2 s a w' := ⟨heap_stays13 h.tx k, heap_stays13 h.pl k⟩
theorem RdAt.ne {q1 q2 : Nat} {s : ByteArray} {a : Nat} {w : World} (h : RdAt q1 q2 s a w) : q1 ≠ q2 := by
  rintro rfl
  have := h.tx.symm.trans h.pl
  simp at this
theorem set_off13 {w : World} {B q : Nat} (v : Value) (h : q ≠ B) : (w.setCell ⟨B, 0, none⟩ v).heap[q]? = w.heap[q]? := by
  simp only [World.setCell]
  rw [Array.getElem?_modify, if_neg (fun e => h e.symm)]
theorem heap_off13 {w w2 : World} {B q : Nat} {v : Value} {o : Obj} (hw : w2 = w.setCell ⟨B, 0, none⟩ v) (h : q ≠ B) (hq : w.heap[q]? = some o) : w2.heap[q]? = some o := by
  rw [hw, set_off13 _ h]; exact hq
theorem size_off13 {w w2 : World} {B n : Nat} {v : Value} (hw : w2 = w.setCell ⟨B, 0, none⟩ v) (h : w.heap.size = n) : w2.heap.size = n := by
  rw [hw]; simpa [World.setCell] using h
theorem RdAt.set {q1 q2 : Nat} {s : ByteArray} {a : Nat} {w : World} (h : RdAt q1 q2 s a w) (b : Nat) : RdAt q1 q2 s b (w.setCell ⟨q2, 0, none⟩ (.int .i64 (b : Int))) := by
  refine ⟨?_, ?_⟩
  · rw [set_off13 _ h.ne]; exact h.tx
  · have := Joins.block_setCell h.pl (.int .i64 (b : Int)) (i := 0)
    simpa using this
theorem preader_any (s : ByteArray) (w : World) : Calls Tryz.prog 140 #[.string s] w fun e w' => e = .returned (rdrV w.heap.size (w.heap.size + 1)) ∧ RdAt w.heap.size (w.heap.size + 1) s 0 w' ∧ w'.heap.size = w.heap.size + 2 ∧ Below w.heap.size w w' := by
  have hmf : ∀ (fn : Fn) (first cap : Array Value) (w : World), (Instr.makeFunc fn first cap).run Tryz.prog w = .ok (.func fn first cap) w := fun _ _ _ _ => rfl
  have H1 := heap_alloc_new w (.cells #[.string s] 9)
  have B1 := balloc w (.cells #[.string s] 9)
  have S1 : (w.alloc (.cells #[.string s] 9)).heap.size = w.heap.size + 1 := by simp
  have H2 := heap_alloc_new (w.alloc (.cells #[.string s] 9)) (.cells #[.int .i64 0] 3)
  have H3 := heap_stays13 H1 (balloc (w.alloc (.cells #[.string s] 9)) (.cells #[.int .i64 0] 3))
  have B2 := bthen B1 (balloc (w.alloc (.cells #[.string s] 9)) (.cells #[.int .i64 0] 3))
  rw [S1] at H2
  have Z := Lib.hid (And.intro (show RdAt w.heap.size (w.heap.size + 1) s 0 ((w.alloc (.cells #[.string s] 9)).alloc (.cells #[.int .i64 0] 3)) from ⟨H3, H2⟩) B2)
  clear H1 B1 S1 H2 H3 B2
  go_enter Tryz.func140, Tryz.ntmps140
  go_wp2_with fail
  go_ret
  exact ⟨rfl, Z.out.1, by simp, Z.out.2⟩
set_option maxHeartbeats 1600000 in
theorem pread2_any (q1 q2 : Nat) (s : ByteArray) (a : Nat) (w : World) (h : RdAt q1 q2 s a w) (hs : s.size ≤ 100000) (ha : a + 2 ≤ s.size) :
    Calls Tryz.prog 169 #[.pointer (some ⟨q1, 0, none⟩), .pointer (some ⟨q2, 0, none⟩)] w fun e w' => e = .returned (.int .i64 (rd2 s a)) ∧ w' = w.setCell ⟨q2, 0, none⟩ (.int .i64 ((a + 2 : Nat) : Int)) := by
  have x1 : w.cell? ⟨q1, 0, none⟩ = some (.string s) := by rw [Lib.cell_of_heap h.tx]; rfl
  have x2 : w.cell? ⟨q2, 0, none⟩ = some (.int .i64 (a : Int)) := by rw [Lib.cell_of_heap h.pl]; rfl
  have fz : w.frozen? ⟨q2, 0, none⟩ = false := Lib.frozen_of_heap h.pl 0
  have hz : (six0 ++ s.extract a (a + 2)).size = 8 := by rw [ByteArray.size_append, ByteArray.size_extract, show six0.size = 6 from rfl]; omega
  have HR : Hid (∀ w, Calls Tryz.prog 170 #[.string (six0 ++ s.extract a (a + 2)), .int .i64 0] w fun e w' => e = .returned (.tuple #[.int .u64 (rd2 s a), .int .i64 8, .int .i64 0]) ∧ w = w') := Lib.hid (fun w => by
    have := readU_any (six0 ++ s.extract a (a + 2)) 0 (by rw [hz]; unfold maxLen; omega) (by omega) w
    unfold rdSpec at this
    rw [if_neg (by rw [hz]; omega), if_neg (by rw [hz]; omega), show (0 : Int).toNat = 0 from rfl, rdI_six] at this
    exact this)
  have hb := rd2_bd s a
  have hw : IntKind.i64.wrap (rd2 s a) = rd2 s a := by rw [IntKind.wrap_i64]; omega
  generalize rd2 s a = r at *
  have e6 : (⟨#[0, 0, 0, 0, 0, 0]⟩ : ByteArray) = six0 := rfl
  have a1 : (a : Int) ≤ (s.size : Int) := by omega
  have a2 : (a : Int) + 2 ≤ (s.size : Int) := by omega
  have a3 : (0 : Int) ≤ (a : Int) := by omega
  have a4 : (a : Int) ≤ (a : Int) + 2 := by omega
  have a5 : ((a : Int) + 2).toNat = a + 2 := by omega
  have a6 : (s.extract a (a + 2)).size = 2 := by rw [ByteArray.size_extract]; omega
  have EC : ((a + 2 : Nat) : Int) = (a : Int) + 2 := by omega
  rw [EC]
  clear hb h ha hz EC
  go_enter Tryz.func169, Tryz.ntmps169
  go_wp2_with fail
  refine (HR.out _).mono ?_
  rintro e w1 ⟨rfl, hw1⟩
  rw [← hw1]
  clear hw1 w1
  go_wp2_with fail
  go_ret
  exact ⟨rfl, rfl⟩
/-- the program's array as it is filled -/
def filV (b : ByteArray) (j : Nat) : List Value := (List.range 5).map fun i => .int .i64 (if i < j then rd2 b (4 + 2 * i) else 0)
theorem filV_set (b : ByteArray) {j : Nat} (h : j < 5) : (filV b j).set j (.int .i64 (rd2 b (4 + 2 * j))) = filV b (j + 1) := by
  apply List.ext_getElem
  · simp [filV]
  · intro i h1 h2
    have hi : i < 5 := by simpa [filV] using h2
    rw [List.getElem_set]
    split
    · rename_i e
      subst e
      simp [filV]
    · rename_i e
      have : (i < j) = (i < j + 1) := by apply propext; omega
      simp [filV, this]
theorem filV_at (b : ByteArray) (j : Nat) {i : Nat} (h : i < 5) : (filV b j)[i]? = some (.int .i64 (if i < j then rd2 b (4 + 2 * i) else 0)) := by
  have hl : i < (filV b j).length := by simpa [filV] using h
  rw [List.getElem?_eq_getElem hl]
  simp [filV]
theorem put_triple13 {w : World} {C : Nat} {a b c : Value} {T : TypeId} {z : Nat × Nat} (h : w.heap[C]? = some (.cells #[a, b, c] T z)) (x y v : Value) : (World.setCells w C 0 [x, y, v]).heap[C]? = some (.cells #[x, y, v] T z) := by
  simp [World.setCells, World.setCell, Array.getElem?_modify, h]
theorem put_belowC {C base : Nat} (h : base ≤ C) (l : List Value) (o : Nat) (w : World) : Below base w (World.setCells w C o l) := by
  induction l generalizing o w with
  | nil => exact Below.refl _ _
  | cons x l ih => exact ((Below.refl _ _).setCell (p := ⟨C, o, none⟩) h x).trans (ih _ _)
theorem put_keeps13 {C q : Nat} (h : q ≠ C) (l : List Value) (o : Nat) (w : World) : (World.setCells w C o l).heap[q]? = w.heap[q]? := by
  induction l generalizing o w with
  | nil => rfl
  | cons x l ih => exact (ih _ _).trans (Below.heap_setCell _ _ _ _ h)
/-- what rootOf has in memory: the result, its reader, its pages -/
structure R13 (u : World) (C : Nat) (b : ByteArray) (a : Nat) (o p : Obj) (w : World) : Prop where
  rd : RdAt (C + 1) (C + 1 + 1) b a w
  bx : w.heap[C]? = some o
  ar : w.heap[C + 1 + 2]? = some p
  lo : Below C u w
theorem R13.read {u : World} {C : Nat} {b : ByteArray} {a : Nat} {o p : Obj} {w w2 : World} (h : R13 u C b a o p w) (hw : w2 = w.setCell ⟨C + 1 + 1, 0, none⟩ (.int .i64 ((a + 2 : Nat) : Int))) : R13 u C b (a + 2) o p w2 :=
  ⟨hw ▸ h.rd.set (a + 2), heap_off13 hw (by omega) h.bx, heap_off13 hw (by omega) h.ar, hw ▸ h.lo.setCell (p := ⟨C + 1 + 1, 0, none⟩) (by show C ≤ C + 1 + 1; omega) _⟩
theorem R13.fill {u : World} {C : Nat} {b : ByteArray} {a : Nat} {o : Obj} {j : Nat} {w : World} (hj : j < 5) (h : R13 u C b a o (.cells (filV b j).toArray 181 (0, 0)) w) : R13 u C b a o (.cells (filV b (j + 1)).toArray 181 (0, 0)) (w.setCell ⟨C + 1 + 2, j, none⟩ (.int .i64 (rd2 b (4 + 2 * j)))) := by
  refine ⟨⟨?_, ?_⟩, ?_, ?_, h.lo.setCell (p := ⟨C + 1 + 2, j, none⟩) (by show C ≤ C + 1 + 2; omega) _⟩
  · rw [Below.heap_setCell _ _ _ _ (by show C + 1 ≠ C + 1 + 2; omega)]; exact h.rd.tx
  · rw [Below.heap_setCell _ _ _ _ (by show C + 1 + 1 ≠ C + 1 + 2; omega)]; exact h.rd.pl
  · rw [Below.heap_setCell _ _ _ _ (by show C ≠ C + 1 + 2; omega)]; exact h.bx
  · have := Joins.block_setCell h.ar (.int .i64 (rd2 b (4 + 2 * j))) (i := j)
    rw [this, ← filV_set b hj]
    simp
set_option maxHeartbeats 12800000 in
theorem prootOf_any (b : ByteArray) (hb : b.size = 44) (u : World) :
    Calls Tryz.prog 167 #[.string b] u fun r u' => Below u.heap.size u u' ∧ ((5 < rd2 b 2 ∧ r = .returned (.tuple #[rtV 0 0 (.slice none 0 0), .bool false])) ∨ (rd2 b 2 ≤ 5 ∧ ∃ P, u.heap.size ≤ P ∧ r = .returned (.tuple #[rtV 0 (rd2 b 0) (.slice (some ⟨P, 0, none⟩) (rd2 b 2).toNat (rd2 b 2).toNat), .bool true]) ∧ u'.heap[P]? = some (.cells (filV b 5).toArray 181 (0, 0)))) := by
  have X1 := Lib.hid (heap_alloc_new u (.cells #[.int .i64 0, .int .i64 0, .slice none 0 0] 100))
  have B1 := Lib.hid (balloc u (.cells #[.int .i64 0, .int .i64 0, .slice none 0 0] 100))
  have S1 : (u.alloc (.cells #[.int .i64 0, .int .i64 0, .slice none 0 0] 100)).heap.size = u.heap.size + 1 := by simp
  obtain ⟨C, hC⟩ : ∃ C, C = u.heap.size := ⟨_, rfl⟩
  have HCC := Lib.hid hC
  rw [← hC] at X1 S1 B1
  have HRD := Lib.hid (preader_any b)
  go_enter Tryz.func167, Tryz.ntmps167
  go_upto_region 1 with fail
  rw [← hC]
  generalize u.alloc (.cells #[.int .i64 0, .int .i64 0, .slice none 0 0] 100) = w1 at *
  clear hC
  go_wp2_with fail
  refine (HRD.out _).mono ?_
  rintro e w2 ⟨rfl, hr, hs, hb2⟩
  rw [S1] at hr hs ⊢
  have B2 := Lib.hid (B1.out.trans (hb2.mono (by omega)))
  have X2 := Lib.hid (heap_stays13 X1.out hb2)
  have R2 := Lib.hid hr
  have S2 := Lib.hid hs
  have HR2 := Lib.hid (pread2_any (C + 1) (C + 1 + 1) b 0 w2 hr (by omega) (by omega))
  clear hb2 B1 X1 hr hs S1 HRD
  unfold rdrV
  go_wp2_with fail
  refine (HR2.out).mono ?_
  rintro e w3 ⟨rfl, hw⟩
  have R3 := Lib.hid (hw ▸ R2.out.set 2)
  have X3 := Lib.hid (heap_off13 hw (by omega) X2.out)
  have B3 := Lib.hid (show Below C u w3 from by rw [hw]; exact B2.out.setCell (p := ⟨C + 1 + 1, 0, none⟩) (by show C ≤ C + 1 + 1; omega) _)
  have S3 := Lib.hid (size_off13 hw S2.out)
  clear hw R2 X2 B2 S2 HR2
  have HR3 := Lib.hid (pread2_any (C + 1) (C + 1 + 1) b 2 w3 R3.out (by omega) (by omega))
  go_wp2_with fail
  refine (HR3.out).mono ?_
  rintro e w4 ⟨rfl, hw⟩
  have R4 := Lib.hid (show RdAt (C + 1) (C + 1 + 1) b 4 w4 from by rw [hw]; exact R3.out.set 4)
  have X4 := Lib.hid (heap_off13 hw (by omega) X3.out)
  have B4 := Lib.hid (show Below C u w4 from by rw [hw]; exact B3.out.setCell (p := ⟨C + 1 + 1, 0, none⟩) (by show C ≤ C + 1 + 1; omega) _)
  have S4 := Lib.hid (size_off13 hw S3.out)
  clear hw R3 X3 B3 S3 HR3
  have hm := rd2_bd b 2
  by_cases h5 : 5 < rd2 b 2
  · have d5 : decide (5 < rd2 b 2) = true := by simp [h5]
    have f0 : w4.frozen? ⟨C, 0, none⟩ = false := Lib.frozen_of_heap X4.out 0
    have f1 : w4.frozen? ⟨C, 1, none⟩ = false := Lib.frozen_of_heap X4.out 1
    have f2 : w4.frozen? ⟨C, 2, none⟩ = false := Lib.frozen_of_heap X4.out 2
    obtain ⟨x0, x1, x2⟩ := three_of X4.out
    have H5 := Lib.hid h5
    clear h5 hm
    go_wp2_with fail
    change bodyPost _ _ _ _ _ (World.setCells w4 C 0 [.int .i64 0, .int .i64 0, .slice none 0 0])
    obtain ⟨t0, t1, t2⟩ := three_of (put_triple13 X4.out (.int .i64 0) (.int .i64 0) (.slice none 0 0))
    have LZ := Lib.hid (B4.out.trans (put_belowC (Nat.le_refl C) [.int .i64 0, .int .i64 0, .slice none 0 0] 0 w4))
    generalize World.setCells w4 C 0 [.int .i64 0, .int .i64 0, .slice none 0 0] = w9 at *
    exact bodyPost_ret (v := .tuple #[.agg #[.int .i64 0, .int .i64 0, .slice none 0 0], .bool false]) (by simp [results, Tryz.results167, go_sem, t0, t1, t2]) rfl ⟨HCC.out ▸ LZ.out, .inl ⟨H5.out, rfl⟩⟩
  · have d5 : decide (5 < rd2 b 2) = false := by simp; omega
    have H5 : Hid (0 ≤ rd2 b 2 ∧ rd2 b 2 ≤ 5) := Lib.hid (by omega)
    have P5 := Lib.hid (heap_alloc_new w4 (.cells #[.int .i64 0, .int .i64 0, .int .i64 0, .int .i64 0, .int .i64 0] 181))
    have B5 := balloc w4 (.cells #[.int .i64 0, .int .i64 0, .int .i64 0, .int .i64 0, .int .i64 0] 181)
    rw [S4.out] at P5
    have T5 := Lib.hid (show R13 u C b 4 _ _ (w4.alloc (.cells #[.int .i64 0, .int .i64 0, .int .i64 0, .int .i64 0, .int .i64 0] 181)) from ⟨R4.out.below B5, heap_stays13 X4.out B5, P5.out, B4.out.trans (B5.mono (by have := S4.out; omega))⟩)
    have s4 := S4.out
    clear h5 hm B5 P5 B4 X4 R4 S4
    go_wp2_with fail
    generalize w4.alloc (.cells #[.int .i64 0, .int .i64 0, .int .i64 0, .int .i64 0, .int .i64 0] 181) = w5 at *
    clear s4
    go_loopw [18] (fun i wr => ∃ j : Nat, j ≤ 5 ∧ i = .int .i64 j ∧ Hid (R13 u C b (4 + 2 * j) (.cells #[.int .i64 0, .int .i64 0, .slice none 0 0] 100 (0, 0)) (.cells (filV b j).toArray 181 (0, 0)) wr)) (fun i _ => 5 - (intOf i).toNat)
    case atStart => exact ⟨0, Nat.zero_le _, rfl, T5⟩
    case round =>
      obtain ⟨j, hj, rfl, HT⟩ := hrel
      by_cases hlt : j < 5
      · have HR := Lib.hid (pread2_any (C + 1) (C + 1 + 1) b (4 + 2 * j) wr HT.out.rd (by omega) (by omega))
        have hj2 : (j : Int) < 5 := by omega
        have hj3 : (0 : Int) ≤ (j : Int) := by omega
        have HLT := Lib.hid hlt
        go_wp2_with fail
        refine (HR.out).mono ?_
        rintro e w6 ⟨rfl, hw⟩
        have T6 := Lib.hid (HT.out.read hw)
        clear hw HR HT
        have fz : w6.frozen? ⟨C + 1 + 2, j, none⟩ = false := Lib.frozen_of_heap T6.out.ar j
        have cx : w6.cell? ⟨C + 1 + 2, j, none⟩ = some (.int .i64 (if j < j then rd2 b (4 + 2 * j) else 0)) := by rw [Lib.cell_of_heap T6.out.ar]; simpa using filV_at b j hlt
        have T7 := Lib.hid (R13.fill hlt T6.out)
        clear hlt T6
        go_wp2_with fail
        go_roundw
        case rel => have := HLT.out; exact ⟨j + 1, by omega, by go_num, T7⟩
        case measure => have := HLT.out; simp [intOf]; omega
      · obtain rfl : j = 5 := by omega
        obtain ⟨m, hm⟩ : ∃ m : Nat, rd2 b 2 = (m : Int) := ⟨(rd2 b 2).toNat, by have := H5.out; omega⟩
        have f0 : wr.frozen? ⟨C, 0, none⟩ = false := Lib.frozen_of_heap HT.out.bx 0
        have f1 : wr.frozen? ⟨C, 1, none⟩ = false := Lib.frozen_of_heap HT.out.bx 1
        have f2 : wr.frozen? ⟨C, 2, none⟩ = false := Lib.frozen_of_heap HT.out.bx 2
        obtain ⟨x0, x1, x2⟩ := three_of HT.out.bx
        have m5 : (m : Int) ≤ 5 := by have := H5.out; omega
        have m0 : (0 : Int) ≤ (m : Int) := by omega
        have m6 : m ≤ 5 := by omega
        rw [hm]
        have HM := Lib.hid hm
        clear hm
        go_wp2_with fail
        change bodyPost _ _ _ _ _ (World.setCells wr C 0 [.int .i64 0, .int .i64 (rd2 b 0), .slice (some ⟨C + 1 + 2, 0, none⟩) m m])
        obtain ⟨t0, t1, t2⟩ := three_of (put_triple13 HT.out.bx (.int .i64 0) (.int .i64 (rd2 b 0)) (.slice (some ⟨C + 1 + 2, 0, none⟩) m m))
        have LZ := Lib.hid (HT.out.lo.trans (put_belowC (Nat.le_refl C) [.int .i64 0, .int .i64 (rd2 b 0), .slice (some ⟨C + 1 + 2, 0, none⟩) m m] 0 wr))
        have PZ := Lib.hid ((put_keeps13 (C := C) (q := C + 1 + 2) (by omega) [.int .i64 0, .int .i64 (rd2 b 0), .slice (some ⟨C + 1 + 2, 0, none⟩) m m] 0 wr).trans HT.out.ar)
        generalize World.setCells wr C 0 [.int .i64 0, .int .i64 (rd2 b 0), .slice (some ⟨C + 1 + 2, 0, none⟩) m m] = w9 at *
        exact bodyPost_ret (v := .tuple #[.agg #[.int .i64 0, .int .i64 (rd2 b 0), .slice (some ⟨C + 1 + 2, 0, none⟩) m m], .bool true]) (by simp [results, Tryz.results167, go_sem, t0, t1, t2]) rfl ⟨HCC.out ▸ LZ.out, .inr ⟨by rw [HM.out]; omega, C + 1 + 2, by rw [← HCC.out]; omega, by rw [HM.out]; rfl, PZ.out⟩⟩

end Go.Proofs.YtdpmpmaepjgndaaGreat
namespace Go.Proofs.YtdpmpmaepjgndaaGreat
open Go.RowKit Go.Deep
set_option linter.unusedVariables false
set_option linter.unusedSimpArgs false
set_option maxRecDepth 100000

theorem pgetpart_bad (s : ByteArray) (m e : Int) (hs : s.size ≤ 1000) (h : (m < 0 ∨ 116 < m) ∧ e = 2 ∨ ¬ (m < 0 ∨ 116 < m) ∧ (s.size : Int) < 2 * m ∧ e = 5) (w : World) :
    Calls Tryz.prog 104 #[.string s, .int .i64 m] w fun r w' => r = .returned (.tuple #[.slice none 0 0, .int .i64 e]) ∧ w' = w := by
  rcases h with ⟨h | h, rfl⟩ | ⟨h, h2, rfl⟩
  · have d : decide (m < 0) = true := by simp [h]
    go_enter Tryz.func104, Tryz.ntmps104
    go_wp2_with fail
    go_ret2
    exact ⟨rfl, rfl⟩
  · have d : decide (m < 0) = false := by simp; omega
    have d2 : decide (116 < m) = true := by simp [h]
    go_enter Tryz.func104, Tryz.ntmps104
    go_wp2_with fail
    go_ret2
    exact ⟨rfl, rfl⟩
  · have d : decide (m < 0) = false := by simp; omega
    have d2 : decide (116 < m) = false := by simp; omega
    have d3 : decide ((s.size : Int) < 2 * m) = true := by simp [h2]
    have h3 : -9223372036854775808 ≤ 2 * m ∧ 2 * m ≤ 9223372036854775807 := by omega
    clear h
    go_enter Tryz.func104, Tryz.ntmps104
    go_wp2_with fail
    go_ret2
    exact ⟨rfl, rfl⟩
/-- the row as it is filled: m cells, the first j of them known -/
def gpV (s : ByteArray) (m j : Nat) : List Value := (List.range m).map fun i => .int .i64 (if i < j then numP s i - 1 else 0)
theorem gpV_set (s : ByteArray) {m j : Nat} (h : j < m) : (gpV s m j).set j (.int .i64 (numP s j - 1)) = gpV s m (j + 1) := by
  apply List.ext_getElem
  · simp [gpV]
  · intro i h1 h2
    have hi : i < m := by simpa [gpV] using h2
    rw [List.getElem_set]
    split
    · rename_i e
      subst e
      simp [gpV]
    · rename_i e
      have : (i < j) = (i < j + 1) := by apply propext; omega
      simp [gpV, this]
theorem gpV_at (s : ByteArray) (m j : Nat) {i : Nat} (h : i < m) : (gpV s m j)[i]? = some (.int .i64 (if i < j then numP s i - 1 else 0)) := by
  have hl : i < (gpV s m j).length := by simpa [gpV] using h
  rw [List.getElem?_eq_getElem hl]
  simp [gpV]
theorem gpV_zero (s : ByteArray) (m : Nat) : gpV s m 0 = List.replicate m (.int .i64 0) := by
  apply List.ext_getElem
  · simp [gpV]
  · intro i h1 h2
    simp [gpV]
theorem gpV_lst {s : ByteArray} {m g : Nat} (hm : m ≤ 116) {w : World} (h : w.heap[g]? = some (.cells (gpV s m m).toArray 3 (0, 0))) : LstI (tellL s m) (.slice (some ⟨g, 0, none⟩) m m) w := by
  have hl : (tellL s m).length = m := tellL_len s m
  refine ⟨_, _, by rw [hl], by rw [hl]; exact Nat.le_refl _, by omega, fun _ => ⟨g, 0, rfl, (Array.getElem?_eq_some_iff.1 h).1, fun i hi j hj => ?_⟩⟩
  rw [hl] at hi
  obtain rfl : j = 0 := by omega
  rw [Lib.cell_of_heap h, Nat.mul_one, Nat.add_zero, Nat.zero_add]
  have := gpV_at s m m (i := i) hi
  rw [if_pos hi] at this
  have e : (tellL s m).getD i 0 = numP s i - 1 := by
    unfold tellL
    rw [List.getD_eq_getElem?_getD, List.getElem?_map, List.getElem?_range hi]; rfl
  show _ = some (Value.int .i64 ((tellL s m).getD i 0))
  rw [e]
  simpa using this
theorem made_row13 {w : World} {base g n : Nat} {e : TypeId} (h : w.ownsRow base e 1 (.slice (some ⟨g, 0, none⟩) n n) n (madeCells #[Value.int .i64 0] n).toList) :
    w.heap[g]? = some (.cells (List.replicate n (Value.int .i64 0)).toArray e (0, 0)) := by
  rcases h.2 with ⟨h1, _⟩ | ⟨g', cap, cur, h1, _, h2, h3, _, h4, h5⟩
  · simp at h1
  · simp only [Value.slice.injEq, Option.some.injEq, Addr.mk.injEq, and_true, true_and] at h1
    obtain ⟨rfl, rfl⟩ := h1
    rw [h2]
    rw [toList_madeCells_one] at h5
    have e : cur.toList = List.replicate n (Value.int .i64 0) := by
      rw [← h5]
      exact (List.take_of_length_le (by simp; omega)).symm
    rw [← e]
/-- what GetPart has in memory -/
structure G13 (w : World) (q1 q2 g : Nat) (s : ByteArray) (m j a : Nat) (wr : World) : Prop where
  rd : RdAt q1 q2 s a wr
  row : wr.heap[g]? = some (.cells (gpV s m j).toArray 3 (0, 0))
  lo : Below w.heap.size w wr
  g1 : q1 ≠ g
  g2 : q2 ≠ g
  b2 : w.heap.size ≤ q2
  bg : w.heap.size ≤ g
theorem G13.read {w : World} {q1 q2 g : Nat} {s : ByteArray} {m j a : Nat} {wr w2 : World} (h : G13 w q1 q2 g s m j a wr) (hw : w2 = wr.setCell ⟨q2, 0, none⟩ (.int .i64 ((a + 2 : Nat) : Int))) : G13 w q1 q2 g s m j (a + 2) w2 :=
  ⟨hw ▸ h.rd.set (a + 2), heap_off13 hw (fun e => h.g2 e.symm) h.row, hw ▸ h.lo.setCell (p := ⟨q2, 0, none⟩) h.b2 _, h.g1, h.g2, h.b2, h.bg⟩
theorem G13.fill {w : World} {q1 q2 g : Nat} {s : ByteArray} {m j a : Nat} {wr : World} (hj : j < m) (h : G13 w q1 q2 g s m j a wr) : G13 w q1 q2 g s m (j + 1) a (wr.setCell ⟨g, j, none⟩ (.int .i64 (numP s j - 1))) := by
  refine ⟨⟨?_, ?_⟩, ?_, h.lo.setCell (p := ⟨g, j, none⟩) h.bg _, h.g1, h.g2, h.b2, h.bg⟩
  · rw [Below.heap_setCell _ _ _ _ h.g1]; exact h.rd.tx
  · rw [Below.heap_setCell _ _ _ _ h.g2]; exact h.rd.pl
  · have := Joins.block_setCell h.row (.int .i64 (numP s j - 1)) (i := j)
    rw [this, ← gpV_set s hj]
    simp
set_option maxHeartbeats 3200000 in
theorem pgetpart_go (s : ByteArray) (m : Nat) (hs : s.size ≤ 1000) (hm : m ≤ 116) (h2 : 2 * m ≤ s.size) (w : World) :
    Calls Tryz.prog 104 #[.string s, .int .i64 (m : Int)] w fun r w' => ∃ v, r = .returned (.tuple #[v, .int .i64 (tellE s m)]) ∧ LstI (getL s m) v w' ∧ Below w.heap.size w w' := by
  obtain ⟨i0, hi0, hz0, hz1, hz2⟩ := info_parts infoInt13
  have E : Hid (tellE s (m : Int) = if ∃ i, i < m ∧ 1024 < numP s i then 14 else 0) := Lib.hid (by
    unfold tellE
    rw [if_neg (by omega), if_neg (by omega), Int.toNat_natCast])
  have EL : Hid (getL s (m : Int) = if ∃ i, i < m ∧ 1024 < numP s i then [] else tellL s m) := Lib.hid (by
    unfold getL
    rw [E.out, Int.toNat_natCast]
    split <;> simp)
  have d : decide ((m : Int) < 0) = false := by simp
  have d2 : decide ((116 : Int) < (m : Int)) = false := by simp; omega
  have d3 : decide ((s.size : Int) < 2 * (m : Int)) = false := by simp; omega
  have d4 : decide (s.size < 2 * m) = false := by simp; omega
  have H2 := Lib.hid h2
  have HM := Lib.hid hm
  have HRD := Lib.hid (preader_any s w)
  go_enter Tryz.func104, Tryz.ntmps104
  go_wp2_with fail
  refine (HRD.out).mono ?_
  rintro e w1 ⟨rfl, hr, hs1, hb⟩
  have R1 := Lib.hid hr
  have S1 := Lib.hid hs1
  have B1 := Lib.hid hb
  clear hr hs1 hb HRD
  unfold rdrV
  go_wp2_with (at_make; refine wpList_make_full _ rfl _ _ _ rfl w1.heap.size 3 i0 (.int .i64 0) 1 Tryz.underlying38 hi0 hz0 hz1 .i64 .i64 _ _ m rfl rfl (by omega) (by omega) (by rw [hz2]; omega) (by unfold maxLen; omega) (Nat.le_refl _) ?_)
  intro w2 hown hgr
  have G2 : Hid (G13 w w.heap.size (w.heap.size + 1) w1.heap.size s m 0 0 w2) := Lib.hid (by
    have hr := R1.out
    have hs1 := S1.out
    have st : ∀ k, k < w1.heap.size → w2.heap[k]? = w1.heap[k]? := fun k hk => hgr.block k hk (by simp)
    exact ⟨⟨(st _ (by omega)).trans hr.tx, (st _ (by omega)).trans hr.pl⟩, by rw [gpV_zero]; exact made_row13 hown, B1.out.grown hgr (by omega) (by simp), by omega, by omega, by omega, by omega⟩)
  clear hown hgr hi0 hz0 hz1 hz2 R1 S1 B1
  generalize hg : w1.heap.size = g at *
  generalize hq1 : w.heap.size = q1 at *
  generalize hq2 : q1 + 1 = q2 at *
  have HQ1 := Lib.hid hq1
  clear hg hq1 hq2
  go_wp2_with fail
  go_loopw [26] (fun i wr => ∃ j : Nat, j ≤ m ∧ i = .int .i64 j ∧ Hid (∀ i, i < j → numP s i ≤ 1024) ∧ Hid (G13 w q1 q2 g s m j (2 * j) wr)) (fun i _ => m - (intOf i).toNat)
  case atStart => exact ⟨0, Nat.zero_le _, rfl, Lib.hid (fun i hi => absurd hi (Nat.not_lt_zero i)), G2⟩
  case round =>
    clear G2
    obtain ⟨j, hj, rfl, HG, HO⟩ := hrel
    by_cases hlt : j < m
    · have e1 : decide ((j : Int) < (m : Int)) = true := by simp [hlt]
      have hj2 : (j : Int) < (m : Int) := by omega
      have hj3 : (0 : Int) ≤ (j : Int) := by omega
      have HR : Hid (Calls Tryz.prog 169 #[.pointer (some ⟨q1, 0, none⟩), .pointer (some ⟨q2, 0, none⟩)] wr fun e w' => e = .returned (.int .i64 (numP s j)) ∧ w' = wr.setCell ⟨q2, 0, none⟩ (.int .i64 ((2 * j + 2 : Nat) : Int))) := Lib.hid (pread2_any q1 q2 s (2 * j) wr HO.out.rd (by omega) (by omega))
      have hqb := numP_bd s j
      have HLT := Lib.hid hlt
      obtain ⟨q, hq⟩ : ∃ q, q = numP s j := ⟨_, rfl⟩
      have HQ := Lib.hid hq
      rw [← hq] at HR hqb
      have hq3 : -9223372036854775808 ≤ q - 1 ∧ q - 1 ≤ 9223372036854775807 := by omega
      clear hq
      go_wp2_with fail
      refine (HR.out).mono ?_
      rintro e w6 ⟨rfl, hw⟩
      have T6 := Lib.hid (HO.out.read hw)
      clear hw HR HO
      have fz : w6.frozen? ⟨g, j, none⟩ = false := Lib.frozen_of_heap T6.out.row j
      have cx : w6.cell? ⟨g, j, none⟩ = some (.int .i64 (if j < j then numP s j - 1 else 0)) := by rw [Lib.cell_of_heap T6.out.row]; simpa using gpV_at s m j hlt
      have T7 : Hid (G13 w q1 q2 g s m (j + 1) (2 * j + 2) (w6.setCell ⟨g, j, none⟩ (.int .i64 (q - 1)))) := Lib.hid (by rw [HQ.out]; exact T6.out.fill hlt)
      clear T6
      go_upto_region 11 with fail
      clear cx fz
      generalize w6.setCell ⟨g, j, none⟩ (.int .i64 (q - 1)) = w7 at *
      have cx : w7.cell? ⟨g, j, none⟩ = some (.int .i64 (q - 1)) := by
        rw [Lib.cell_of_heap T7.out.row]
        have := gpV_at s m (j + 1) hlt
        rw [if_pos (by omega), ← HQ.out] at this
        simpa using this
      clear hlt
      by_cases hbig : 1024 < q
      · have d5 : decide (1023 < q - 1) = true := by simp; omega
        have X : ∃ i, i < m ∧ 1024 < numP s i := ⟨j, HLT.out, by rw [← HQ.out]; exact hbig⟩
        have E2 : Hid (tellE s (m : Int) = 14) := Lib.hid (by rw [E.out, if_pos X])
        have E3 : Hid (getL s (m : Int) = []) := Lib.hid (by rw [EL.out, if_pos X])
        clear X hbig
        go_wp2_with fail
        go_ret2
        exact ⟨_, by rw [E2.out]; rfl, by rw [E3.out]; exact LstI.nil _, by rw [HQ1.out]; exact HQ1.out ▸ T7.out.lo⟩
      · have d5 : decide (1023 < q - 1) = false := by simp; omega
        have HG2 : Hid (∀ i, i < j + 1 → numP s i ≤ 1024) := Lib.hid (fun i hi => by
          rcases Nat.lt_succ_iff_lt_or_eq.1 hi with h | rfl
          · exact HG.out i h
          · rw [← HQ.out]; omega)
        clear hbig
        go_wp2_with fail
        go_roundw
        case rel => have := HLT.out; exact ⟨j + 1, by omega, by go_num, HG2, T7⟩
        case measure => have := HLT.out; simp [intOf]; omega
    · obtain rfl : j = m := by omega
      have d9 : decide ((j : Int) < (j : Int)) = false := by simp
      have X : ¬ ∃ i, i < j ∧ 1024 < numP s i := fun ⟨i, hi, hb⟩ => by have := HG.out i hi; omega
      have E2 : Hid (tellE s (j : Int) = 0) := Lib.hid (by rw [E.out, if_neg X])
      have E3 : Hid (getL s (j : Int) = tellL s j) := Lib.hid (by rw [EL.out, if_neg X])
      have LL := Lib.hid (gpV_lst hm HO.out.row)
      clear X
      go_wp2_with fail
      go_ret2
      exact ⟨_, by rw [E2.out]; rfl, by rw [E3.out]; exact LL.out, by rw [HQ1.out]; exact HQ1.out ▸ HO.out.lo⟩
theorem pgetpart_any (s : ByteArray) (m : Int) (w : World) (hs : s.size ≤ 1000) (hm : -9223372036854775808 ≤ m ∧ m ≤ 9223372036854775807) :
    Calls Tryz.prog 104 #[.string s, .int .i64 m] w fun r w' => ∃ v, r = .returned (.tuple #[v, .int .i64 (tellE s m)]) ∧ LstI (getL s m) v w' ∧ Below w.heap.size w w' := by
  by_cases h : m < 0 ∨ 116 < m
  · have E : tellE s m = 2 := by unfold tellE; rw [if_pos h]
    refine (pgetpart_bad s m 2 hs (.inl ⟨h, rfl⟩) w).mono fun r w' hr => ?_
    obtain ⟨hr, rfl⟩ := hr
    exact ⟨_, by rw [hr, E], by unfold getL; rw [E, if_neg (by decide)]; exact LstI.nil _, Below.refl _ _⟩
  · by_cases h2 : (s.size : Int) < 2 * m
    · have E : tellE s m = 5 := by unfold tellE; rw [if_neg h, if_pos h2]
      refine (pgetpart_bad s m 5 hs (.inr ⟨h, h2, rfl⟩) w).mono fun r w' hr => ?_
      obtain ⟨hr, rfl⟩ := hr
      exact ⟨_, by rw [hr, E], by unfold getL; rw [E, if_neg (by decide)]; exact LstI.nil _, Below.refl _ _⟩
    · obtain ⟨k, rfl⟩ : ∃ k : Nat, m = (k : Int) := ⟨m.toNat, by omega⟩
      exact pgetpart_go s k hs (by omega) (by omega) w

end Go.Proofs.YtdpmpmaepjgndaaGreat
