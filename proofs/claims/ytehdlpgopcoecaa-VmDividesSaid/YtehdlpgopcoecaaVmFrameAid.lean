/- A program and an input that came in, opened, with their numbers' bounds; the five laws' walks over what the program's Run and Steps answer. -/
import Derived.Test.YtehdlpgopcoecaaRowsAid
import Derived.Test.YtehdlpgopcoecaaVmP11
namespace Go.Proofs.Ytehdlpgopcoecaa
open Go.ChangeShapes Go.WideShapes Go.ChangeAt Go.RowKit Go.Joins
set_option linter.unusedVariables false
set_option maxRecDepth 100000

section
variable {H : Type} {enc : TypeId × Value → H} {W : World}
theorem ints_rv {base fuel : Nat} {c : Value} {x : DataW H × List MemPlace} (hf : DataW.trod enc Try.prog W base (fun _ => true) true fuel 23 [c] = some x) : ∃ n d, Sl 1 (gW d) n c W ∧ ∀ i, r64v (d i) := by
  obtain ⟨a, len, cap, rfl⟩ := slice_cell Try.underlying23 hf
  have h : CellRows 1 (fun cs => ∃ x : Int, cs = [.int .i64 x] ∧ r64v x) W a len cap := by
    refine cellRows_of (C := 1) Try.underlying23 (by kernel_rfl) hf ?_
    intro cs m y hl hy
    obtain ⟨b, hb, _, hw⟩ := DataW.trod_int Try.underlying3 hy
    exact ⟨b, hb, i64_bd hw⟩
  obtain ⟨f, hf1, hs⟩ := rows_sl (by omega) h
  obtain ⟨d, hd⟩ := choose_fn 0 fun i hi => (hf1 i hi).2
  refine ⟨len, fun i => if i < len then d i else 0, hs.congr fun i hi j hj => ?_, fun i => ?_⟩
  · rcases (show j = 0 by omega) with rfl
    rw [(hd i hi).1]; simp [gW, hi]
  · by_cases hi : i < len
    · simp only [if_pos hi]; exact (hd i hi).2
    · simp only [if_neg hi]; unfold r64v; decide
theorem inss_rv {base fuel : Nat} {c : Value} {x : DataW H × List MemPlace} (hf : DataW.trod enc Try.prog W base (fun _ => true) true fuel 22 [c] = some x) : ∃ n f, Sl 4 (gI f) n c W ∧ ∀ i, r64v (f i).b := by
  obtain ⟨a, len, cap, rfl⟩ := slice_cell Try.underlying22 hf
  have h : CellRows 4 (fun cs => ∃ x : I4, cs = [.int .i64 x.op, .int .i64 x.a, .int .i64 x.b, .int .i64 x.c] ∧ r64v x.b) W a len cap := by
    refine cellRows_of (C := 4) Try.underlying22 (by kernel_rfl) hf ?_
    intro cs m y hl hy
    obtain ⟨c0, c1, c2, c3, rfl⟩ := list4 hl
    obtain ⟨m2, hs⟩ := struct_cells Try.underlying45 hy
    obtain ⟨y0, g0⟩ := hs 0 3 0 1 rfl (by kernel_rfl)
    obtain ⟨a0, e0, _, b0⟩ := DataW.trod_int Try.underlying3 g0
    obtain rfl : c0 = .int .i64 a0 := by simpa using e0
    obtain ⟨y1, g1⟩ := hs 1 3 1 1 rfl (by kernel_rfl)
    obtain ⟨a1, e1, _, b1⟩ := DataW.trod_int Try.underlying3 g1
    obtain rfl : c1 = .int .i64 a1 := by simpa using e1
    obtain ⟨y2, g2⟩ := hs 2 3 2 1 rfl (by kernel_rfl)
    obtain ⟨a2, e2, _, b2⟩ := DataW.trod_int Try.underlying3 g2
    obtain rfl : c2 = .int .i64 a2 := by simpa using e2
    obtain ⟨y3, g3⟩ := hs 3 3 3 1 rfl (by kernel_rfl)
    obtain ⟨a3, e3, _, b3⟩ := DataW.trod_int Try.underlying3 g3
    obtain rfl : c3 = .int .i64 a3 := by simpa using e3
    exact ⟨⟨a0, a1, a2, a3⟩, rfl, i64_bd b2⟩
  obtain ⟨f, hf1, hs⟩ := rows_sl (by omega) h
  obtain ⟨d, hd⟩ := choose_fn (⟨0, 0, 0, 0⟩ : I4) fun i hi => (hf1 i hi).2
  refine ⟨len, fun i => if i < len then d i else ⟨0, 0, 0, 0⟩, hs.congr fun i hi j hj => ?_, fun i => ?_⟩
  · rcases (show j = 0 ∨ j = 1 ∨ j = 2 ∨ j = 3 by omega) with rfl | rfl | rfl | rfl <;> (rw [(hd i hi).1]; simp [gI, hi])
  · by_cases hi : i < len
    · simp only [if_pos hi]; exact (hd i hi).2
    · simp only [if_neg hi]; unfold r64v; decide
/-- a program that came in -/
theorem open_prog {r : Reach} {b0 base : Nat} {v : Value} {d : DataW H} {p : List MemPlace} (hv : Value.okWide Try.prog W r b0 22 v) (h : DataW.Trod enc Try.prog W base (fun _ => true) true 22 v d p) :
    ∃ pr pl, Sl 4 (gI pr) pl v W ∧ ∀ k, r64v (pr k).b := by
  obtain ⟨b, len, cap, rfl⟩ := okWide_slice Try.underlying22 hv
  obtain ⟨fuel, hf⟩ := h
  obtain ⟨n, f, h1, h2⟩ := inss_rv (by simpa [Value.cells] using hf)
  exact ⟨f, n, h1, h2⟩
/-- an input that came in -/
theorem open_inp {r : Reach} {b0 base : Nat} {v : Value} {d : DataW H} {p : List MemPlace} (hv : Value.okWide Try.prog W r b0 25 v) (h : DataW.Trod enc Try.prog W base (fun _ => true) true 25 v d p) :
    ∃ (i : Inp) (vI : Value), v = .agg #[vI, .int .i64 i.pay, .int .i64 i.me, .int .i64 i.lps, .int .i64 i.seed, .int .i64 i.dice] ∧ Sl 1 (gW i.w) i.nw vI W ∧ Bd (beginM i) := by
  obtain ⟨cs, n, rfl, hl, hs⟩ := open_struct Try.underlying25 hv h
  have hm : Try.prog.cellsOf 25 = 6 := by kernel_rfl
  rw [hm] at hl
  obtain ⟨c0, c1, c2, c3, c4, c5, rfl⟩ := list6 hl
  obtain ⟨y0, g0⟩ := hs 0 23 0 1 rfl (by kernel_rfl)
  obtain ⟨y1, g1⟩ := hs 1 3 1 1 rfl (by kernel_rfl)
  obtain ⟨a1, e1, _, b1⟩ := DataW.trod_int Try.underlying3 g1
  obtain rfl : c1 = .int .i64 a1 := by simpa using e1
  obtain ⟨y2, g2⟩ := hs 2 3 2 1 rfl (by kernel_rfl)
  obtain ⟨a2, e2, _, b2⟩ := DataW.trod_int Try.underlying3 g2
  obtain rfl : c2 = .int .i64 a2 := by simpa using e2
  obtain ⟨y3, g3⟩ := hs 3 3 3 1 rfl (by kernel_rfl)
  obtain ⟨a3, e3, _, b3⟩ := DataW.trod_int Try.underlying3 g3
  obtain rfl : c3 = .int .i64 a3 := by simpa using e3
  obtain ⟨y4, g4⟩ := hs 4 3 4 1 rfl (by kernel_rfl)
  obtain ⟨a4, e4, _, b4⟩ := DataW.trod_int Try.underlying3 g4
  obtain rfl : c4 = .int .i64 a4 := by simpa using e4
  obtain ⟨y5, g5⟩ := hs 5 3 5 1 rfl (by kernel_rfl)
  obtain ⟨a5, e5, _, b5⟩ := DataW.trod_int Try.underlying3 g5
  obtain rfl : c5 = .int .i64 a5 := by simpa using e5
  obtain ⟨nw, f, h1, h2⟩ := ints_rv g0
  refine ⟨⟨nw, f, a1, a2, a3, a4, a5⟩, c0, rfl, h1, bd_begin (i64_bd b1) (i64_bd b2) (i64_bd b3) ?_ h2⟩
  obtain ⟨_, cap, _, h3, h4, _⟩ := h1
  exact Nat.le_trans h3 h4
end

theorem vmRuns_walk (pr : Nat → I4) (pl : Nat) (vp : Value) (i : Inp) (vI : Value) (w : World) (hp : Sl 4 (gI pr) pl vp w) (hb : ∀ k, r64v (pr k).b) (hw : Sl 1 (gW i.w) i.nw vI w) (hbd : Bd (beginM i)) :
    Calls Try.prog 3 #[vp, .agg #[vI, .int .i64 i.pay, .int .i64 i.me, .int .i64 i.lps, .int .i64 i.seed, .int .i64 i.dice]] w fun e w' => e = .returned (.bool true) ∧ Below w.heap.size w w' := vmRuns_of (Lib.hid run_is) pr pl vp i vI w hp hw hbd hb
theorem vmSteps_walk (pr : Nat → I4) (pl : Nat) (vp : Value) (i : Inp) (vI : Value) (w : World) (hp : Sl 4 (gI pr) pl vp w) (hb : ∀ k, r64v (pr k).b) (hw : Sl 1 (gW i.w) i.nw vI w) (hbd : Bd (beginM i)) :
    Calls Try.prog 4 #[vp, .agg #[vI, .int .i64 i.pay, .int .i64 i.me, .int .i64 i.lps, .int .i64 i.seed, .int .i64 i.dice]] w fun e w' => e = .returned (.bool true) ∧ Below w.heap.size w w' := vmSteps_of (Lib.hid run_is) (Lib.hid steps_is) pr pl vp i vI w hp hw hbd hb
theorem vmWhole_walk (pr : Nat → I4) (pl : Nat) (vp : Value) (i : Inp) (vI : Value) (w : World) (hp : Sl 4 (gI pr) pl vp w) (hb : ∀ k, r64v (pr k).b) (hw : Sl 1 (gW i.w) i.nw vI w) (hbd : Bd (beginM i)) :
    Calls Try.prog 5 #[vp, .agg #[vI, .int .i64 i.pay, .int .i64 i.me, .int .i64 i.lps, .int .i64 i.seed, .int .i64 i.dice]] w fun e w' => e = .returned (.bool true) ∧ Below w.heap.size w w' := vmWhole_of (Lib.hid run_is) pr pl vp i vI w hp hw hbd hb
theorem vmAgain_walk (pr : Nat → I4) (pl : Nat) (vp : Value) (i : Inp) (vI : Value) (px : Nat → I4) (xl : Nat) (vx : Value) (w : World) (hp : Sl 4 (gI pr) pl vp w) (hb : ∀ k, r64v (pr k).b) (hw : Sl 1 (gW i.w) i.nw vI w) (hbd : Bd (beginM i)) (hx : Sl 4 (gI px) xl vx w) (hbx : ∀ k, r64v (px k).b) :
    Calls Try.prog 6 #[vp, .agg #[vI, .int .i64 i.pay, .int .i64 i.me, .int .i64 i.lps, .int .i64 i.seed, .int .i64 i.dice], vx] w fun e w' => e = .returned (.bool true) ∧ Below w.heap.size w w' := vmAgain_of (Lib.hid run_is) pr px pl xl vp vx i vI w hp hx hw hbd hb hbx
theorem vmDivides_walk (a b : Int) (w : World) (ha : (Lit.int .i64 a).wf = true) (hb : (Lit.int .i64 b).wf = true) :
    Calls Try.prog 7 #[.int .i64 a, .int .i64 b] w fun e w' => e = .returned (.bool true) ∧ Below w.heap.size w w' := vmDivides_of (Lib.hid run_is) a b (i64_bd ha) (i64_bd hb) w

end Go.Proofs.Ytehdlpgopcoecaa
