/- A model that came in, opened. -/
import Derived.Test.YthkfaeplmmlnlaaYZ1
import Derived.Test.YthkfaeplmmlnlaaYRowsAid
namespace Go.Proofs.Ythkfaeplmmlnlaa
open Go.ChangeShapes Go.WideShapes Go.ChangeAt Go.RowKit Go.Joins
set_option linter.unusedVariables false
set_option maxRecDepth 100000

section
variable {H : Type} {enc : TypeId × Value → H} {W : World}

theorem floats_of {base fuel : Nat} {c : Value} {x : DataW H × List MemPlace} (hf : DataW.trod enc Try.prog W base (fun _ => true) true fuel 23 [c] = some x) : ∃ n d, Sl 1 (gF d) n c W := by
  obtain ⟨a, len, cap, rfl⟩ := slice_cell Try.underlying23 hf
  have h : CellRows 1 (fun cs => ∃ x : Nat, cs = [.float .f64 x]) W a len cap := by
    refine cellRows_of (C := 1) Try.underlying23 (by kernel_rfl) hf ?_
    intro cs m y hl hy
    obtain ⟨b, hb, _⟩ := trod_float_cell Try.underlying22 hy
    exact ⟨b, hb⟩
  obtain ⟨f, hf1, hs⟩ := rows_sl (by omega) h
  obtain ⟨d, hd⟩ := choose_fn 0 fun i hi => (hf1 i hi).2
  refine ⟨len, d, hs.congr fun i hi j hj => ?_⟩
  rcases (show j = 0 by omega) with rfl
  rw [hd i hi]; rfl

theorem ints_of {base fuel : Nat} {c : Value} {x : DataW H × List MemPlace} (hf : DataW.trod enc Try.prog W base (fun _ => true) true fuel 35 [c] = some x) : ∃ n d, Sl 1 (gW d) n c W := by
  obtain ⟨a, len, cap, rfl⟩ := slice_cell Try.underlying35 hf
  have h : CellRows 1 (fun cs => ∃ x : Int, cs = [.int .i64 x]) W a len cap := by
    refine cellRows_of (C := 1) Try.underlying35 (by kernel_rfl) hf ?_
    intro cs m y hl hy
    obtain ⟨b, hb, _⟩ := DataW.trod_int Try.underlying3 hy
    exact ⟨b, hb⟩
  obtain ⟨f, hf1, hs⟩ := rows_sl (by omega) h
  obtain ⟨d, hd⟩ := choose_fn 0 fun i hi => (hf1 i hi).2
  refine ⟨len, d, hs.congr fun i hi j hj => ?_⟩
  rcases (show j = 0 by omega) with rfl
  rw [hd i hi]; rfl

theorem inss_of {base fuel : Nat} {c : Value} {x : DataW H × List MemPlace} (hf : DataW.trod enc Try.prog W base (fun _ => true) true fuel 76 [c] = some x) : ∃ n f, Sl 4 (gI f) n c W := by
  obtain ⟨a, len, cap, rfl⟩ := slice_cell Try.underlying76 hf
  have h : CellRows 4 (fun cs => ∃ x : I4, cs = [.int .i64 x.op, .int .i64 x.a, .int .i64 x.b, .int .i64 x.c]) W a len cap := by
    refine cellRows_of (C := 4) Try.underlying76 (by kernel_rfl) hf ?_
    intro cs m y hl hy
    obtain ⟨c0, c1, c2, c3, rfl⟩ := list4 hl
    obtain ⟨m2, hs⟩ := struct_cells Try.underlying115 hy
    obtain ⟨y0, g0⟩ := hs 0 3 0 1 rfl (by kernel_rfl)
    obtain ⟨a0, e0, _⟩ := DataW.trod_int Try.underlying3 g0
    obtain rfl : c0 = .int .i64 a0 := by simpa using e0
    obtain ⟨y1, g1⟩ := hs 1 3 1 1 rfl (by kernel_rfl)
    obtain ⟨a1, e1, _⟩ := DataW.trod_int Try.underlying3 g1
    obtain rfl : c1 = .int .i64 a1 := by simpa using e1
    obtain ⟨y2, g2⟩ := hs 2 3 2 1 rfl (by kernel_rfl)
    obtain ⟨a2, e2, _⟩ := DataW.trod_int Try.underlying3 g2
    obtain rfl : c2 = .int .i64 a2 := by simpa using e2
    obtain ⟨y3, g3⟩ := hs 3 3 3 1 rfl (by kernel_rfl)
    obtain ⟨a3, e3, _⟩ := DataW.trod_int Try.underlying3 g3
    obtain rfl : c3 = .int .i64 a3 := by simpa using e3
    exact ⟨⟨a0, a1, a2, a3⟩, rfl⟩
  obtain ⟨f, hf1, hs⟩ := rows_sl (by omega) h
  obtain ⟨d, hd⟩ := choose_fn (⟨0, 0, 0, 0⟩ : I4) fun i hi => (hf1 i hi).2
  refine ⟨len, d, hs.congr fun i hi j hj => ?_⟩
  rcases (show j = 0 ∨ j = 1 ∨ j = 2 ∨ j = 3 by omega) with rfl | rfl | rfl | rfl <;> (rw [hd i hi]; rfl)

theorem evs_of {base fuel : Nat} {c : Value} {x : DataW H × List MemPlace} (hf : DataW.trod enc Try.prog W base (fun _ => true) true fuel 26 [c] = some x) : ∃ n f, Sl 3 (gE f) n c W := by
  obtain ⟨a, len, cap, rfl⟩ := slice_cell Try.underlying26 hf
  have h : CellRows 3 (fun cs => ∃ x : Ev, cs = [.float .f64 x.t, .int .i64 x.dst, .int .i64 x.pay]) W a len cap := by
    refine cellRows_of (C := 3) Try.underlying26 (by kernel_rfl) hf ?_
    intro cs m y hl hy
    obtain ⟨c0, c1, c2, rfl⟩ := list3 hl
    obtain ⟨m2, hs⟩ := struct_cells Try.underlying81 hy
    obtain ⟨y0, g0⟩ := hs 0 22 0 1 rfl (by kernel_rfl)
    obtain ⟨a0, e0, _⟩ := trod_float_cell Try.underlying22 g0
    obtain rfl : c0 = .float .f64 a0 := by simpa using e0
    obtain ⟨y1, g1⟩ := hs 1 3 1 1 rfl (by kernel_rfl)
    obtain ⟨a1, e1, _⟩ := DataW.trod_int Try.underlying3 g1
    obtain rfl : c1 = .int .i64 a1 := by simpa using e1
    obtain ⟨y2, g2⟩ := hs 2 3 2 1 rfl (by kernel_rfl)
    obtain ⟨a2, e2, _⟩ := DataW.trod_int Try.underlying3 g2
    obtain rfl : c2 = .int .i64 a2 := by simpa using e2
    exact ⟨⟨a0, a1, a2⟩, rfl⟩
  obtain ⟨f, hf1, hs⟩ := rows_sl (by omega) h
  obtain ⟨d, hd⟩ := choose_fn (⟨0, 0, 0⟩ : Ev) fun i hi => (hf1 i hi).2
  refine ⟨len, d, hs.congr fun i hi j hj => ?_⟩
  rcases (show j = 0 ∨ j = 1 ∨ j = 2 by omega) with rfl | rfl | rfl <;> (rw [hd i hi]; rfl)

theorem pgs_of {base fuel : Nat} {c : Value} {x : DataW H × List MemPlace} (hf : DataW.trod enc Try.prog W base (fun _ => true) true fuel 24 [c] = some x) : ∃ n pl pr, Pgs n pl pr c W := by
  obtain ⟨a, len, cap, rfl⟩ := slice_cell Try.underlying24 hf
  have h : CellRows 1 (fun cs => ∃ x : Value × Nat × (Nat → I4), cs = [x.1] ∧ Sl 4 (gI x.2.2) x.2.1 x.1 W) W a len cap := by
    refine cellRows_of (C := 1) Try.underlying24 (by kernel_rfl) hf ?_
    intro cs m y hl hy
    obtain ⟨c0, rfl⟩ := list1 hl
    obtain ⟨n, f, hs⟩ := inss_of hy
    exact ⟨(c0, n, f), rfl, hs⟩
  obtain ⟨f, hf1, hs⟩ := rows_sl (by omega) h
  obtain ⟨d, hd⟩ := choose_fn ((undef, 0, fun _ => ⟨0, 0, 0, 0⟩) : Value × Nat × (Nat → I4)) fun i hi => (hf1 i hi).2
  refine ⟨len, fun i => (d i).2.1, fun i => (d i).2.2, fun i => (d i).1, hs.congr fun i hi j hj => ?_, fun i hi => (hd i hi).2⟩
  rcases (show j = 0 by omega) with rfl
  rw [(hd i hi).1]; rfl

theorem lps_of {base fuel : Nat} {c : Value} {x : DataW H × List MemPlace} (hf : DataW.trod enc Try.prog W base (fun _ => true) true fuel 25 [c] = some x) : ∃ n lp wl wd, Lps n lp wl wd c W := by
  obtain ⟨a, len, cap, rfl⟩ := slice_cell Try.underlying25 hf
  have h : CellRows 2 (fun cs => ∃ x : Int × Value × Nat × (Nat → Int), cs = [.int .i64 x.1, x.2.1] ∧ Sl 1 (gW x.2.2.2) x.2.2.1 x.2.1 W) W a len cap := by
    refine cellRows_of (C := 2) Try.underlying25 (by kernel_rfl) hf ?_
    intro cs m y hl hy
    obtain ⟨c0, c1, rfl⟩ := list2 hl
    obtain ⟨m2, hs⟩ := struct_cells Try.underlying78 hy
    obtain ⟨y0, g0⟩ := hs 0 3 0 1 rfl (by kernel_rfl)
    obtain ⟨a0, e0, _⟩ := DataW.trod_int Try.underlying3 g0
    obtain rfl : c0 = .int .i64 a0 := by simpa using e0
    obtain ⟨y1, g1⟩ := hs 1 35 1 1 rfl (by kernel_rfl)
    obtain ⟨n, f, hs⟩ := ints_of g1
    exact ⟨(a0, c1, n, f), rfl, hs⟩
  obtain ⟨f, hf1, hs⟩ := rows_sl (by omega) h
  obtain ⟨d, hd⟩ := choose_fn ((0, undef, 0, fun _ => 0) : Int × Value × Nat × (Nat → Int)) fun i hi => (hf1 i hi).2
  refine ⟨len, fun i => (d i).1, fun i => (d i).2.2.1, fun i => (d i).2.2.2, fun i => (d i).2.1, hs.congr fun i hi j hj => ?_, fun i hi => (hd i hi).2⟩
  rcases (show j = 0 ∨ j = 1 by omega) with rfl | rfl <;> (rw [(hd i hi).1]; rfl)

/-- a model that came in -/
theorem open_mdl {r : Reach} {b0 base : Nat} {v : Value} {d : DataW H} {p : List MemPlace} (hv : Value.okWide Try.prog W r b0 28 v) (h : DataW.Trod enc Try.prog W base (fun _ => true) true 28 v d p) :
    ∃ m vd vp vl vi, v = mval m vd vp vl vi ∧ MdlAt m vd vp vl vi W := by
  obtain ⟨cs, n, rfl, hl, hs⟩ := open_struct Try.underlying28 hv h
  have hm : Try.prog.cellsOf 28 = 6 := by kernel_rfl
  rw [hm] at hl
  obtain ⟨c0, c1, c2, c3, c4, c5, rfl⟩ := list6 hl
  obtain ⟨y0, g0⟩ := hs 0 3 0 1 rfl (by kernel_rfl)
  obtain ⟨a0, e0, _⟩ := DataW.trod_int Try.underlying3 g0
  obtain rfl : c0 = .int .i64 a0 := by simpa using e0
  obtain ⟨y1, g1⟩ := hs 1 22 1 1 rfl (by kernel_rfl)
  obtain ⟨a1, e1, _⟩ := trod_float_cell Try.underlying22 g1
  obtain rfl : c1 = .float .f64 a1 := by simpa using e1
  obtain ⟨y2, g2⟩ := hs 2 23 2 1 rfl (by kernel_rfl)
  obtain ⟨y3, g3⟩ := hs 3 24 3 1 rfl (by kernel_rfl)
  obtain ⟨y4, g4⟩ := hs 4 25 4 1 rfl (by kernel_rfl)
  obtain ⟨y5, g5⟩ := hs 5 26 5 1 rfl (by kernel_rfl)
  obtain ⟨nd, fd, hd⟩ := floats_of g2
  obtain ⟨np, pl, pr, hp⟩ := pgs_of g3
  obtain ⟨nl, lp, wl, wd, hl⟩ := lps_of g4
  obtain ⟨ni, ev, hi⟩ := evs_of g5
  exact ⟨⟨a0, a1, nd, fd, np, pl, pr, nl, lp, wl, wd, ni, ev⟩, c2, c3, c4, c5, rfl, hd, hp, hl, hi⟩
end

end Go.Proofs.Ythkfaeplmmlnlaa
