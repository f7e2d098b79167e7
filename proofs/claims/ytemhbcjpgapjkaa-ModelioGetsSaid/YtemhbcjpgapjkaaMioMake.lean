/- The contracts of the functions that make the functions that read a text. -/
import Derived.Test.YtemhbcjpgapjkaaMioStruct
namespace Go.Proofs.Ytemhbcjpgapjkaa
open Go.RowKit
set_option linter.unusedVariables false
set_option maxRecDepth 100000

theorem store_func (f : Fn) (x y : Array Value) (a : Addr) (m : Mode) (w : World) : (store a (.func f x y) m).run Try.prog w = stored Try.prog w a (.func f x y) m := run_store _ w a _ m rfl
/-- a cell that is made and stored into -/
theorem bx_set (tb : Nat) (v z : Value) (t : TypeId) (w : World) (h : tb < w.heap.size) : Bx w.heap.size v (Hd tb ((w.alloc (.cells #[z] t)).setCell ⟨w.heap.size, 0, none⟩ v)) := by
  have hh := Joins.block_setCell (i := 0) (heap_alloc_new w (.cells #[z] t)) v
  have h2 : (Hd tb ((w.alloc (.cells #[z] t)).setCell ⟨w.heap.size, 0, none⟩ v)).heap[w.heap.size]? = some (.cells #[v] t (0, 0)) := by rw [Hd.other _ (by omega)]; exact hh
  unfold Bx
  rw [Lib.cell_of_heap h2]; rfl
theorem low_set (v z : Value) (t : TypeId) (w : World) : Below w.heap.size w ((w.alloc (.cells #[z] t)).setCell ⟨w.heap.size, 0, none⟩ v) := (balloc w _).setCell (p := ⟨w.heap.size, 0, none⟩) (Nat.le_refl _) v
theorem Bx.new2 (tb : Nat) (o : Obj) (v : Value) (t : TypeId) (w : World) (h : tb < w.heap.size) : Bx (w.heap.size + 1) v (Hd tb ((w.alloc o).alloc (.cells #[v] t))) := by
  have := Bx.new tb v t (w.alloc o) (by rw [World.size_alloc]; omega)
  rwa [World.size_alloc] at this
theorem low2 {w : World} (o1 o2 : Obj) : Below w.heap.size w ((w.alloc o1).alloc o2) := bthen (balloc w o1) (balloc _ o2)

theorem fieldOfI_any (tb : Nat) (s : ByteArray) (w : World) (h : tb < w.heap.size) :
    Calls Try.prog 82 #[.pointer (some ⟨tb, 0, none⟩), .func (.func 83) #[] #[]] w fun e w' => ∃ v, e = .returned v ∧ Reads tb s (stN s) (RI s) v (Hd tb w') ∧ Below w.heap.size w w' := by
  go_enter Try.func82, Try.ntmps82
  go_wp2_with fail
  go_ret
  refine ⟨_, rfl, num_reads tb s _ _ _ ((Bx.new tb _ _ w h).kp (Kp.of (balloc _ _))) (Bx.new2 tb _ _ _ w h), low2 _ _⟩

theorem fieldOfU_any (tb : Nat) (s : ByteArray) (w : World) (h : tb < w.heap.size) :
    Calls Try.prog 84 #[.pointer (some ⟨tb, 0, none⟩), .func (.func 85) #[] #[]] w fun e w' => ∃ v, e = .returned v ∧ Reads tb s (stN s) (RU s) v (Hd tb w') ∧ Below w.heap.size w w' := by
  go_enter Try.func84, Try.ntmps84
  go_wp2_with fail
  go_ret
  refine ⟨_, rfl, u64_reads tb s _ _ _ ((Bx.new tb _ _ w h).kp (Kp.of (balloc _ _))) (Bx.new2 tb _ _ _ w h), low2 _ _⟩

theorem numberOf_any (tb : Nat) (s : ByteArray) (w : World) (h : tb < w.heap.size) :
    Calls Try.prog 58 #[.pointer (some ⟨tb, 0, none⟩)] w fun e w' => ∃ v, e = .returned v ∧ Reads tb s (stN s) (RI s) v (Hd tb w') ∧ Below w.heap.size w w' := by
  have H := Lib.hid (fieldOfI_any tb s w h)
  go_enter Try.func58, Try.ntmps58
  go_wp2_with (go_at_call 82; refine H.out.mono ?_; rintro e w2 ⟨v, rfl, hv, hb⟩; have HV := Lib.hid hv; have HB := Lib.hid hb; clear hv hb)
  go_ret
  exact ⟨_, rfl, HV.out, HB.out⟩

theorem floatOf_any (tb : Nat) (s : ByteArray) (w : World) (h : tb < w.heap.size) :
    Calls Try.prog 59 #[.pointer (some ⟨tb, 0, none⟩)] w fun e w' => ∃ v, e = .returned v ∧ Reads tb s (stN s) (RF s) v (Hd tb w') ∧ Below w.heap.size w w' := by
  have hsf := store_func
  have H := Lib.hid (fieldOfU_any tb s w h)
  have HL := Lib.hid h
  clear h
  go_enter Try.func59, Try.ntmps59
  go_wp2_with (go_at_call 84; refine H.out.mono ?_; rintro e w2 ⟨v, rfl, hv, hb⟩; obtain ⟨N, caps, rfl, _⟩ := hv.form; have HV := Lib.hid hv; have HB := Lib.hid hb; clear hv hb)
  go_ret
  have hl : tb < w2.heap.size := Nat.lt_of_lt_of_le HL.out HB.out.size
  exact ⟨_, rfl, flo_reads tb s _ _ _ (Bx.new tb _ _ _ hl) (HV.out.kp (Kp.of (balloc _ _))), bthen HB.out (balloc _ _)⟩

set_option maxHeartbeats 800000 in
theorem listOfW_any (tb : Nat) (s : ByteArray) (nx : St → St) (hS : Stab 3 (RI s)) (el : Value) (w : World) (h : tb < w.heap.size) (he : Reads tb s nx (RI s) el (Hd tb w)) :
    Calls Try.prog 92 #[.pointer (some ⟨tb, 0, none⟩), el] w fun e w' => ∃ v, e = .returned v ∧ Reads tb s (lsE s nx) (Lst 1 3 cl1 s nx (RI s)) v (Hd tb w') ∧ Below w.heap.size w w' := by
  obtain ⟨N, caps, rfl, _⟩ := he.form
  have hsf := store_func
  have HE := Lib.hid he
  have HL := Lib.hid h
  have H := Lib.hid (fun w h => numberOf_any tb s w h)
  clear he h
  go_enter Try.func92, Try.ntmps92
  go_wp2_with fail
  refine (H.out _ (by have := HL.out; simp; omega)).mono ?_
  rintro e w2 ⟨v, rfl, hv, hb⟩
  obtain ⟨N1, caps1, rfl, _⟩ := hv.form
  have HV := Lib.hid hv
  have HB := Lib.hid hb
  have B1 := Lib.hid (((Bx.new tb (.pointer (some ⟨tb, 0, none⟩)) 59 w HL.out).kp (Kp.of (balloc _ _))).kp (Kp.of hb))
  have B2 := Lib.hid ((Bx.new2 tb (.cells #[.pointer (some ⟨tb, 0, none⟩)] 59) (.func (.func N) #[] caps) 102 w HL.out).kp (Kp.of hb))
  have LO := Lib.hid (bthen (low2 _ _) hb)
  clear hv hb
  go_wp2_with fail
  go_ret
  have hl : tb < w2.heap.size := Nat.lt_of_lt_of_le HL.out LO.out.size
  refine ⟨_, rfl, lsW_reads tb s nx hS _ _ _ _ _ _ (Bx.new tb _ _ _ hl) (HV.out.kp (Kp.of (balloc _ _))) (B1.out.kp (Kp.of (balloc _ _))) (B2.out.kp (Kp.of (balloc _ _))) (HE.out.kp ((Kp.of LO.out).trans (Kp.of (balloc _ _)))), bthen LO.out (balloc _ _)⟩

set_option maxHeartbeats 800000 in
theorem listOfF_any (tb : Nat) (s : ByteArray) (nx : St → St) (hS : Stab 22 (RF s)) (el : Value) (w : World) (h : tb < w.heap.size) (he : Reads tb s nx (RF s) el (Hd tb w)) :
    Calls Try.prog 60 #[.pointer (some ⟨tb, 0, none⟩), el] w fun e w' => ∃ v, e = .returned v ∧ Reads tb s (lsE s nx) (Lst 1 22 cl1 s nx (RF s)) v (Hd tb w') ∧ Below w.heap.size w w' := by
  obtain ⟨N, caps, rfl, _⟩ := he.form
  have hsf := store_func
  have HE := Lib.hid he
  have HL := Lib.hid h
  have H := Lib.hid (fun w h => numberOf_any tb s w h)
  clear he h
  go_enter Try.func60, Try.ntmps60
  go_wp2_with fail
  refine (H.out _ (by have := HL.out; simp; omega)).mono ?_
  rintro e w2 ⟨v, rfl, hv, hb⟩
  obtain ⟨N1, caps1, rfl, _⟩ := hv.form
  have HV := Lib.hid hv
  have HB := Lib.hid hb
  have B1 := Lib.hid (((Bx.new tb (.pointer (some ⟨tb, 0, none⟩)) 59 w HL.out).kp (Kp.of (balloc _ _))).kp (Kp.of hb))
  have B2 := Lib.hid ((Bx.new2 tb (.cells #[.pointer (some ⟨tb, 0, none⟩)] 59) (.func (.func N) #[] caps) 104 w HL.out).kp (Kp.of hb))
  have LO := Lib.hid (bthen (low2 _ _) hb)
  clear hv hb
  go_wp2_with fail
  go_ret
  have hl : tb < w2.heap.size := Nat.lt_of_lt_of_le HL.out LO.out.size
  refine ⟨_, rfl, lsF_reads tb s nx hS _ _ _ _ _ _ (Bx.new tb _ _ _ hl) (HV.out.kp (Kp.of (balloc _ _))) (B1.out.kp (Kp.of (balloc _ _))) (B2.out.kp (Kp.of (balloc _ _))) (HE.out.kp ((Kp.of LO.out).trans (Kp.of (balloc _ _)))), bthen LO.out (balloc _ _)⟩

set_option maxHeartbeats 800000 in
theorem listOfI_any (tb : Nat) (s : ByteArray) (nx : St → St) (hS : Stab 45 (RIns s)) (el : Value) (w : World) (h : tb < w.heap.size) (he : Reads tb s nx (RIns s) el (Hd tb w)) :
    Calls Try.prog 62 #[.pointer (some ⟨tb, 0, none⟩), el] w fun e w' => ∃ v, e = .returned v ∧ Reads tb s (lsE s nx) (Lst 4 45 clA s nx (RIns s)) v (Hd tb w') ∧ Below w.heap.size w w' := by
  obtain ⟨N, caps, rfl, _⟩ := he.form
  have hsf := store_func
  have HE := Lib.hid he
  have HL := Lib.hid h
  have H := Lib.hid (fun w h => numberOf_any tb s w h)
  clear he h
  go_enter Try.func62, Try.ntmps62
  go_wp2_with fail
  refine (H.out _ (by have := HL.out; simp; omega)).mono ?_
  rintro e w2 ⟨v, rfl, hv, hb⟩
  obtain ⟨N1, caps1, rfl, _⟩ := hv.form
  have HV := Lib.hid hv
  have HB := Lib.hid hb
  have B1 := Lib.hid (((Bx.new tb (.pointer (some ⟨tb, 0, none⟩)) 59 w HL.out).kp (Kp.of (balloc _ _))).kp (Kp.of hb))
  have B2 := Lib.hid ((Bx.new2 tb (.cells #[.pointer (some ⟨tb, 0, none⟩)] 59) (.func (.func N) #[] caps) 112 w HL.out).kp (Kp.of hb))
  have LO := Lib.hid (bthen (low2 _ _) hb)
  clear hv hb
  go_wp2_with fail
  go_ret
  have hl : tb < w2.heap.size := Nat.lt_of_lt_of_le HL.out LO.out.size
  refine ⟨_, rfl, lsI_reads tb s nx hS _ _ _ _ _ _ (Bx.new tb _ _ _ hl) (HV.out.kp (Kp.of (balloc _ _))) (B1.out.kp (Kp.of (balloc _ _))) (B2.out.kp (Kp.of (balloc _ _))) (HE.out.kp ((Kp.of LO.out).trans (Kp.of (balloc _ _)))), bthen LO.out (balloc _ _)⟩

set_option maxHeartbeats 800000 in
theorem listOfP_any (tb : Nat) (s : ByteArray) (nx : St → St) (hS : Stab 40 (RPr s)) (el : Value) (w : World) (h : tb < w.heap.size) (he : Reads tb s nx (RPr s) el (Hd tb w)) :
    Calls Try.prog 61 #[.pointer (some ⟨tb, 0, none⟩), el] w fun e w' => ∃ v, e = .returned v ∧ Reads tb s (lsE s nx) (Lst 1 40 cl1 s nx (RPr s)) v (Hd tb w') ∧ Below w.heap.size w w' := by
  obtain ⟨N, caps, rfl, _⟩ := he.form
  have hsf := store_func
  have HE := Lib.hid he
  have HL := Lib.hid h
  have H := Lib.hid (fun w h => numberOf_any tb s w h)
  clear he h
  go_enter Try.func61, Try.ntmps61
  go_wp2_with fail
  refine (H.out _ (by have := HL.out; simp; omega)).mono ?_
  rintro e w2 ⟨v, rfl, hv, hb⟩
  obtain ⟨N1, caps1, rfl, _⟩ := hv.form
  have HV := Lib.hid hv
  have HB := Lib.hid hb
  have B1 := Lib.hid (((Bx.new tb (.pointer (some ⟨tb, 0, none⟩)) 59 w HL.out).kp (Kp.of (balloc _ _))).kp (Kp.of hb))
  have B2 := Lib.hid ((Bx.new2 tb (.cells #[.pointer (some ⟨tb, 0, none⟩)] 59) (.func (.func N) #[] caps) 110 w HL.out).kp (Kp.of hb))
  have LO := Lib.hid (bthen (low2 _ _) hb)
  clear hv hb
  go_wp2_with fail
  go_ret
  have hl : tb < w2.heap.size := Nat.lt_of_lt_of_le HL.out LO.out.size
  refine ⟨_, rfl, lsP_reads tb s nx hS _ _ _ _ _ _ (Bx.new tb _ _ _ hl) (HV.out.kp (Kp.of (balloc _ _))) (B1.out.kp (Kp.of (balloc _ _))) (B2.out.kp (Kp.of (balloc _ _))) (HE.out.kp ((Kp.of LO.out).trans (Kp.of (balloc _ _)))), bthen LO.out (balloc _ _)⟩

set_option maxHeartbeats 800000 in
theorem listOfL_any (tb : Nat) (s : ByteArray) (nx : St → St) (hS : Stab 43 (RLp s)) (el : Value) (w : World) (h : tb < w.heap.size) (he : Reads tb s nx (RLp s) el (Hd tb w)) :
    Calls Try.prog 64 #[.pointer (some ⟨tb, 0, none⟩), el] w fun e w' => ∃ v, e = .returned v ∧ Reads tb s (lsE s nx) (Lst 2 43 clA s nx (RLp s)) v (Hd tb w') ∧ Below w.heap.size w w' := by
  obtain ⟨N, caps, rfl, _⟩ := he.form
  have hsf := store_func
  have HE := Lib.hid he
  have HL := Lib.hid h
  have H := Lib.hid (fun w h => numberOf_any tb s w h)
  clear he h
  go_enter Try.func64, Try.ntmps64
  go_wp2_with fail
  refine (H.out _ (by have := HL.out; simp; omega)).mono ?_
  rintro e w2 ⟨v, rfl, hv, hb⟩
  obtain ⟨N1, caps1, rfl, _⟩ := hv.form
  have HV := Lib.hid hv
  have HB := Lib.hid hb
  have B1 := Lib.hid (((Bx.new tb (.pointer (some ⟨tb, 0, none⟩)) 59 w HL.out).kp (Kp.of (balloc _ _))).kp (Kp.of hb))
  have B2 := Lib.hid ((Bx.new2 tb (.cells #[.pointer (some ⟨tb, 0, none⟩)] 59) (.func (.func N) #[] caps) 116 w HL.out).kp (Kp.of hb))
  have LO := Lib.hid (bthen (low2 _ _) hb)
  clear hv hb
  go_wp2_with fail
  go_ret
  have hl : tb < w2.heap.size := Nat.lt_of_lt_of_le HL.out LO.out.size
  refine ⟨_, rfl, lsL_reads tb s nx hS _ _ _ _ _ _ (Bx.new tb _ _ _ hl) (HV.out.kp (Kp.of (balloc _ _))) (B1.out.kp (Kp.of (balloc _ _))) (B2.out.kp (Kp.of (balloc _ _))) (HE.out.kp ((Kp.of LO.out).trans (Kp.of (balloc _ _)))), bthen LO.out (balloc _ _)⟩

set_option maxHeartbeats 800000 in
theorem listOfE_any (tb : Nat) (s : ByteArray) (nx : St → St) (hS : Stab 55 (REv s)) (el : Value) (w : World) (h : tb < w.heap.size) (he : Reads tb s nx (REv s) el (Hd tb w)) :
    Calls Try.prog 66 #[.pointer (some ⟨tb, 0, none⟩), el] w fun e w' => ∃ v, e = .returned v ∧ Reads tb s (lsE s nx) (Lst 3 55 clA s nx (REv s)) v (Hd tb w') ∧ Below w.heap.size w w' := by
  obtain ⟨N, caps, rfl, _⟩ := he.form
  have hsf := store_func
  have HE := Lib.hid he
  have HL := Lib.hid h
  have H := Lib.hid (fun w h => numberOf_any tb s w h)
  clear he h
  go_enter Try.func66, Try.ntmps66
  go_wp2_with fail
  refine (H.out _ (by have := HL.out; simp; omega)).mono ?_
  rintro e w2 ⟨v, rfl, hv, hb⟩
  obtain ⟨N1, caps1, rfl, _⟩ := hv.form
  have HV := Lib.hid hv
  have HB := Lib.hid hb
  have B1 := Lib.hid (((Bx.new tb (.pointer (some ⟨tb, 0, none⟩)) 59 w HL.out).kp (Kp.of (balloc _ _))).kp (Kp.of hb))
  have B2 := Lib.hid ((Bx.new2 tb (.cells #[.pointer (some ⟨tb, 0, none⟩)] 59) (.func (.func N) #[] caps) 120 w HL.out).kp (Kp.of hb))
  have LO := Lib.hid (bthen (low2 _ _) hb)
  clear hv hb
  go_wp2_with fail
  go_ret
  have hl : tb < w2.heap.size := Nat.lt_of_lt_of_le HL.out LO.out.size
  refine ⟨_, rfl, lsE_reads tb s nx hS _ _ _ _ _ _ (Bx.new tb _ _ _ hl) (HV.out.kp (Kp.of (balloc _ _))) (B1.out.kp (Kp.of (balloc _ _))) (B2.out.kp (Kp.of (balloc _ _))) (HE.out.kp ((Kp.of LO.out).trans (Kp.of (balloc _ _)))), bthen LO.out (balloc _ _)⟩

theorem insOf_any (tb : Nat) (s : ByteArray) (w : World) (h : tb < w.heap.size) :
    Calls Try.prog 63 #[.pointer (some ⟨tb, 0, none⟩)] w fun e w' => ∃ v, e = .returned v ∧ Reads tb s (insN s) (RIns s) v (Hd tb w') ∧ Below w.heap.size w w' := by
  have hsf := store_func
  have HL := Lib.hid h
  clear h
  go_enter Try.func63, Try.ntmps63
  go_wp2_with (go_at_call 58; refine (numberOf_any tb s _ HL.out).mono ?_; rintro e w1 ⟨c1, rfl, hc1, hb1⟩; obtain ⟨N1, caps1, rfl, _⟩ := hc1.form; have HC1 := Lib.hid hc1; have HB1 := Lib.hid hb1; clear hc1 hb1)
  go_ret
  have hl : tb < w1.heap.size := Nat.lt_of_lt_of_le HL.out HB1.out.size
  exact ⟨_, rfl, insOf_reads tb s _ _ _ (Bx.new tb _ _ _ hl) (HC1.out.kp (Kp.of (balloc _ _))), bthen HB1.out (balloc _ _)⟩

set_option maxHeartbeats 800000 in
theorem processOf_any (tb : Nat) (s : ByteArray) (w : World) (h : tb < w.heap.size) :
    Calls Try.prog 65 #[.pointer (some ⟨tb, 0, none⟩)] w fun e w' => ∃ v, e = .returned v ∧ Reads tb s (lpN s) (RLp s) v (Hd tb w') ∧ Below w.heap.size w w' := by
  have hsf := store_func
  have HL := Lib.hid h
  clear h
  go_enter Try.func65, Try.ntmps65
  go_wp2_with (go_at_call 58; refine (numberOf_any tb s _ HL.out).mono ?_; rintro e w1 ⟨c1, rfl, hc1, hb1⟩; obtain ⟨N1, caps1, rfl, _⟩ := hc1.form; have HC1 := Lib.hid hc1; have HB1 := Lib.hid hb1; clear hc1 hb1)
  have H1 := Lib.hid (show tb < w1.heap.size from Nat.lt_of_lt_of_le HL.out HB1.out.size)
  have X1 := Lib.hid (Bx.new tb (.func (.func N1) #[] caps1) 102 w1 H1.out)
  have R1 := Lib.hid (HC1.out.kp (Kp.of (balloc w1 (.cells #[.func (.func N1) #[] caps1] 102))))
  have A1 := Lib.hid (bthen HB1.out (balloc w1 (.cells #[.func (.func N1) #[] caps1] 102)))
  generalize w1.alloc (.cells #[.func (.func N1) #[] caps1] 102) = v1 at *
  have x1 := X1.out.now
  go_wp2_with (go_at_call 92; refine (listOfW_any tb s (stN s) (stab_ri _ s) _ v1 (Nat.lt_of_lt_of_le HL.out A1.out.size) R1.out).mono ?_; rintro e w2 ⟨c2, rfl, hc2, hb2⟩; obtain ⟨N2, caps2, rfl, _⟩ := hc2.form; have HC2 := Lib.hid hc2; have HB2 := Lib.hid hb2; clear hc2 hb2)
  go_ret
  have hl : tb < w2.heap.size := Nat.lt_of_lt_of_le HL.out (bthen A1.out HB2.out).size
  exact ⟨_, rfl, processOf_reads tb s _ _ _ _ _ (X1.out.kp ((Kp.of HB2.out).trans (Kp.of (balloc _ _)))) (R1.out.kp ((Kp.of HB2.out).trans (Kp.of (balloc _ _)))) (Bx.new tb _ _ _ hl) (HC2.out.kp (Kp.of (balloc _ _))), bthen (bthen A1.out HB2.out) (balloc _ _)⟩

set_option maxHeartbeats 800000 in
theorem eventOf_any (tb : Nat) (s : ByteArray) (w : World) (h : tb < w.heap.size) :
    Calls Try.prog 67 #[.pointer (some ⟨tb, 0, none⟩)] w fun e w' => ∃ v, e = .returned v ∧ Reads tb s (evN s) (REv s) v (Hd tb w') ∧ Below w.heap.size w w' := by
  have hsf := store_func
  have HL := Lib.hid h
  clear h
  go_enter Try.func67, Try.ntmps67
  go_wp2_with (go_at_call 59; refine (floatOf_any tb s _ HL.out).mono ?_; rintro e w1 ⟨c1, rfl, hc1, hb1⟩; obtain ⟨N1, caps1, rfl, _⟩ := hc1.form; have HC1 := Lib.hid hc1; have HB1 := Lib.hid hb1; clear hc1 hb1)
  have H1 := Lib.hid (show tb < w1.heap.size from Nat.lt_of_lt_of_le HL.out HB1.out.size)
  go_wp2_with (go_at_call 58; refine (numberOf_any tb s _ H1.out).mono ?_; rintro e w2 ⟨c2, rfl, hc2, hb2⟩; obtain ⟨N2, caps2, rfl, _⟩ := hc2.form; have HC2 := Lib.hid hc2; have HB2 := Lib.hid hb2; clear hc2 hb2)
  go_ret
  have hl : tb < w2.heap.size := Nat.lt_of_lt_of_le H1.out HB2.out.size
  exact ⟨_, rfl, eventOf_reads tb s _ _ _ _ _ ((Bx.new tb _ _ _ hl).kp (Kp.of (balloc _ _))) (HC1.out.kp ((Kp.of HB2.out).trans (Kp.of (low2 _ _)))) (Bx.new2 tb _ _ _ w2 hl) (HC2.out.kp (Kp.of (low2 _ _))), bthen (bthen HB1.out HB2.out) (low2 _ _)⟩

set_option maxHeartbeats 3200000 in
theorem modelOf_any (tb : Nat) (s : ByteArray) (w : World) (h : tb < w.heap.size) :
    Calls Try.prog 30 #[.pointer (some ⟨tb, 0, none⟩)] w fun e w' => ∃ v, e = .returned v ∧ Reads tb s (mdN s) (RMd s) v (Hd tb w') ∧ Below w.heap.size w w' := by
  have hsf := store_func
  have HL := Lib.hid h
  clear h
  go_enter Try.func30, Try.ntmps30
  go_wp2_with (go_at_call 58; refine (numberOf_any tb s _ HL.out).mono ?_; rintro e w1 ⟨c1, rfl, hc1, hb1⟩; obtain ⟨N1, caps1, rfl, _⟩ := hc1.form; have HC1 := Lib.hid hc1; have HB1 := Lib.hid hb1; clear hc1 hb1)
  go_wp2_with (go_at_call 59; refine (floatOf_any tb s _ (Nat.lt_of_lt_of_le HL.out HB1.out.size)).mono ?_; rintro e w2 ⟨c2, rfl, hc2, hb2⟩; obtain ⟨N2, caps2, rfl, _⟩ := hc2.form; have HC2 := Lib.hid hc2; have HB2 := Lib.hid hb2; clear hc2 hb2)
  have X1 := Lib.hid ((Bx.new tb (.func (.func N1) #[] caps1) 102 w2 (Nat.lt_of_lt_of_le HL.out (bthen HB1.out HB2.out).size)).kp (Kp.of (balloc _ (.cells #[.func (.func N2) #[] caps2] 104))))
  have X2 := Lib.hid (Bx.new2 tb (.cells #[.func (.func N1) #[] caps1] 102) (.func (.func N2) #[] caps2) 104 w2 (Nat.lt_of_lt_of_le HL.out (bthen HB1.out HB2.out).size))
  have R1 := Lib.hid (HC1.out.kp ((Kp.of HB2.out).trans (Kp.of (low2 (.cells #[.func (.func N1) #[] caps1] 102) (.cells #[.func (.func N2) #[] caps2] 104)))))
  have R2 := Lib.hid (HC2.out.kp (Kp.of (low2 (.cells #[.func (.func N1) #[] caps1] 102) (.cells #[.func (.func N2) #[] caps2] 104))))
  have A2 := Lib.hid (bthen (bthen HB1.out HB2.out) (low2 (.cells #[.func (.func N1) #[] caps1] 102) (.cells #[.func (.func N2) #[] caps2] 104)))
  generalize (w2.alloc (.cells #[.func (.func N1) #[] caps1] 102)).alloc (.cells #[.func (.func N2) #[] caps2] 104) = v2 at *
  have x2 := X2.out.now
  go_wp2_with (go_at_call 60; refine (listOfF_any tb s (stN s) (stab_rf _ s) _ v2 (Nat.lt_of_lt_of_le HL.out A2.out.size) R2.out).mono ?_; rintro e w3 ⟨c3, rfl, hc3, hb3⟩; obtain ⟨N3, caps3, rfl, _⟩ := hc3.form; have HC3 := Lib.hid hc3; have HB3 := Lib.hid hb3; clear hc3 hb3)
  have X3 := Lib.hid (Bx.new tb (.func (.func N3) #[] caps3) 106 w3 (Nat.lt_of_lt_of_le HL.out (bthen A2.out HB3.out).size))
  have R3 := Lib.hid (HC3.out.kp (Kp.of (balloc w3 (.cells #[.func (.func N3) #[] caps3] 106))))
  have A3 := Lib.hid (bthen (bthen A2.out HB3.out) (balloc w3 (.cells #[.func (.func N3) #[] caps3] 106)))
  have M3 := Lib.hid (bthen HB3.out (balloc w3 (.cells #[.func (.func N3) #[] caps3] 106)))
  generalize w3.alloc (.cells #[.func (.func N3) #[] caps3] 106) = v3 at *
  go_wp2_with (go_at_call 63; refine (insOf_any tb s v3 (Nat.lt_of_lt_of_le HL.out A3.out.size)).mono ?_; rintro e w4 ⟨c4, rfl, hc4, hb4⟩; obtain ⟨N4, caps4, rfl, _⟩ := hc4.form; have HC4 := Lib.hid hc4; have HB4 := Lib.hid hb4; clear hc4 hb4)
  go_wp2_with (go_at_call 62; refine (listOfI_any tb s (insN s) (stab_ins _ s) _ w4 (Nat.lt_of_lt_of_le HL.out (bthen A3.out HB4.out).size) HC4.out).mono ?_; rintro e w5 ⟨c5, rfl, hc5, hb5⟩; obtain ⟨N5, caps5, rfl, _⟩ := hc5.form; have HC5 := Lib.hid hc5; have HB5 := Lib.hid hb5; clear hc5 hb5)
  go_wp2_with (go_at_call 61; refine (listOfP_any tb s (prN s) (stab_pr (by decide) s) _ w5 (Nat.lt_of_lt_of_le HL.out (bthen (bthen A3.out HB4.out) HB5.out).size) HC5.out).mono ?_; rintro e w6 ⟨c6, rfl, hc6, hb6⟩; obtain ⟨N6, caps6, rfl, _⟩ := hc6.form; have HC6 := Lib.hid hc6; have HB6 := Lib.hid hb6; clear hc6 hb6)
  have X6 := Lib.hid (Bx.new tb (.func (.func N6) #[] caps6) 108 w6 (Nat.lt_of_lt_of_le HL.out (bthen (bthen (bthen A3.out HB4.out) HB5.out) HB6.out).size))
  have R6 := Lib.hid (HC6.out.kp (Kp.of (balloc w6 (.cells #[.func (.func N6) #[] caps6] 108))))
  have A6 := Lib.hid (bthen (bthen (bthen (bthen A3.out HB4.out) HB5.out) HB6.out) (balloc w6 (.cells #[.func (.func N6) #[] caps6] 108)))
  have M6 := Lib.hid (bthen HB6.out (balloc w6 (.cells #[.func (.func N6) #[] caps6] 108)))
  generalize w6.alloc (.cells #[.func (.func N6) #[] caps6] 108) = v6 at *
  go_wp2_with (go_at_call 65; refine (processOf_any tb s v6 (Nat.lt_of_lt_of_le HL.out A6.out.size)).mono ?_; rintro e w7 ⟨c7, rfl, hc7, hb7⟩; obtain ⟨N7, caps7, rfl, _⟩ := hc7.form; have HC7 := Lib.hid hc7; have HB7 := Lib.hid hb7; clear hc7 hb7)
  go_wp2_with (go_at_call 64; refine (listOfL_any tb s (lpN s) (stab_lp (by decide) s) _ w7 (Nat.lt_of_lt_of_le HL.out (bthen A6.out HB7.out).size) HC7.out).mono ?_; rintro e w8 ⟨c8, rfl, hc8, hb8⟩; obtain ⟨N8, caps8, rfl, _⟩ := hc8.form; have HC8 := Lib.hid hc8; have HB8 := Lib.hid hb8; clear hc8 hb8)
  have X8 := Lib.hid (Bx.new tb (.func (.func N8) #[] caps8) 114 w8 (Nat.lt_of_lt_of_le HL.out (bthen (bthen A6.out HB7.out) HB8.out).size))
  have R8 := Lib.hid (HC8.out.kp (Kp.of (balloc w8 (.cells #[.func (.func N8) #[] caps8] 114))))
  have A8 := Lib.hid (bthen (bthen (bthen A6.out HB7.out) HB8.out) (balloc w8 (.cells #[.func (.func N8) #[] caps8] 114)))
  have M8 := Lib.hid (bthen HB8.out (balloc w8 (.cells #[.func (.func N8) #[] caps8] 114)))
  generalize w8.alloc (.cells #[.func (.func N8) #[] caps8] 114) = v8 at *
  go_wp2_with (go_at_call 67; refine (eventOf_any tb s v8 (Nat.lt_of_lt_of_le HL.out A8.out.size)).mono ?_; rintro e w9 ⟨c9, rfl, hc9, hb9⟩; obtain ⟨N9, caps9, rfl, _⟩ := hc9.form; have HC9 := Lib.hid hc9; have HB9 := Lib.hid hb9; clear hc9 hb9)
  go_wp2_with (go_at_call 66; refine (listOfE_any tb s (evN s) (stab_ev _ s) _ w9 (Nat.lt_of_lt_of_le HL.out (bthen A8.out HB9.out).size) HC9.out).mono ?_; rintro e w10 ⟨c10, rfl, hc10, hb10⟩; obtain ⟨N10, caps10, rfl, _⟩ := hc10.form; have HC10 := Lib.hid hc10; have HB10 := Lib.hid hb10; clear hc10 hb10)
  go_ret
  have K10 : Kp tb w10 (w10.alloc (.cells #[.func (.func N10) #[] caps10] 118)) := Kp.of (balloc _ _)
  have K8 := ((Kp.of (tb := tb) HB9.out).trans (Kp.of HB10.out)).trans K10
  have K6 := ((Kp.of (tb := tb) HB7.out).trans (Kp.of M8.out)).trans K8
  have K3 := (((Kp.of (tb := tb) HB4.out).trans (Kp.of HB5.out)).trans (Kp.of M6.out)).trans K6
  have K2 := (Kp.of (tb := tb) M3.out).trans K3
  have hl : tb < w10.heap.size := Nat.lt_of_lt_of_le HL.out (bthen (bthen A8.out HB9.out) HB10.out).size
  exact ⟨_, rfl, modelOf_reads tb s _ _ _ _ _ _ _ _ _ _ _ _ _ (X1.out.kp K2) (R1.out.kp K2) (X2.out.kp K2) (R2.out.kp K2) (X3.out.kp K3) (R3.out.kp K3) (X6.out.kp K6) (R6.out.kp K6) (X8.out.kp K8) (R8.out.kp K8) (Bx.new tb _ _ _ hl) (HC10.out.kp K10),
    bthen (bthen (bthen A8.out HB9.out) HB10.out) (balloc _ _)⟩

end Go.Proofs.Ytemhbcjpgapjkaa
