/- A model that came in, opened, with its numbers' bounds. -/
import Derived.Test.YthkfaeplmmlnlaaYModelFrameAid
import Derived.Test.YthkfaeplmmlnlaaYRng
namespace Go.Proofs.Ythkfaeplmmlnlaa
open Go.ChangeShapes Go.WideShapes Go.ChangeAt Go.RowKit Go.Joins
set_option linter.unusedVariables false
set_option maxRecDepth 100000

def rI (x : I4) : Prop := r64 x.op ∧ r64 x.a ∧ r64 x.b ∧ r64 x.c
def rE (x : Ev) : Prop := x.t < 18446744073709551616 ∧ r64 x.dst ∧ r64 x.pay
theorem float_bd {b : Nat} (h : (Lit.float .f64 b).wf = true) : b < 18446744073709551616 := by
  simpa [Lit.wf] using h
section
variable {H : Type} {enc : TypeId × Value → H} {W : World}

theorem floats_rng {base fuel : Nat} {c : Value} {x : DataW H × List MemPlace} (hf : DataW.trod enc Try.prog W base (fun _ => true) true fuel 23 [c] = some x) : ∃ n d, Sl 1 (gF d) n c W ∧ ∀ i, i < n → d i < 18446744073709551616 := by
  obtain ⟨a, len, cap, rfl⟩ := slice_cell Try.underlying23 hf
  have h : CellRows 1 (fun cs => ∃ x : Nat, cs = [.float .f64 x] ∧ x < 18446744073709551616) W a len cap := by
    refine cellRows_of (C := 1) Try.underlying23 (by kernel_rfl) hf ?_
    intro cs m y hl hy
    obtain ⟨b, hb, hw⟩ := trod_float_cell Try.underlying22 hy
    exact ⟨b, hb, float_bd hw⟩
  obtain ⟨f, hf1, hs⟩ := rows_sl (by omega) h
  obtain ⟨d, hd⟩ := choose_fn 0 fun i hi => (hf1 i hi).2
  refine ⟨len, d, hs.congr fun i hi j hj => ?_, fun i hi => (hd i hi).2⟩
  rcases (show j = 0 by omega) with rfl
  rw [(hd i hi).1]; rfl

theorem ints_rng {base fuel : Nat} {c : Value} {x : DataW H × List MemPlace} (hf : DataW.trod enc Try.prog W base (fun _ => true) true fuel 35 [c] = some x) : ∃ n d, Sl 1 (gW d) n c W ∧ ∀ i, i < n → r64 (d i) := by
  obtain ⟨a, len, cap, rfl⟩ := slice_cell Try.underlying35 hf
  have h : CellRows 1 (fun cs => ∃ x : Int, cs = [.int .i64 x] ∧ r64 x) W a len cap := by
    refine cellRows_of (C := 1) Try.underlying35 (by kernel_rfl) hf ?_
    intro cs m y hl hy
    obtain ⟨b, hb, _, hw⟩ := DataW.trod_int Try.underlying3 hy
    exact ⟨b, hb, i64_bd hw⟩
  obtain ⟨f, hf1, hs⟩ := rows_sl (by omega) h
  obtain ⟨d, hd⟩ := choose_fn 0 fun i hi => (hf1 i hi).2
  refine ⟨len, d, hs.congr fun i hi j hj => ?_, fun i hi => (hd i hi).2⟩
  rcases (show j = 0 by omega) with rfl
  rw [(hd i hi).1]; rfl

theorem inss_rng {base fuel : Nat} {c : Value} {x : DataW H × List MemPlace} (hf : DataW.trod enc Try.prog W base (fun _ => true) true fuel 76 [c] = some x) : ∃ n f, Sl 4 (gI f) n c W ∧ ∀ i, i < n → rI (f i) := by
  obtain ⟨a, len, cap, rfl⟩ := slice_cell Try.underlying76 hf
  have h : CellRows 4 (fun cs => ∃ x : I4, cs = [.int .i64 x.op, .int .i64 x.a, .int .i64 x.b, .int .i64 x.c] ∧ rI x) W a len cap := by
    refine cellRows_of (C := 4) Try.underlying76 (by kernel_rfl) hf ?_
    intro cs m y hl hy
    obtain ⟨c0, c1, c2, c3, rfl⟩ := list4 hl
    obtain ⟨m2, hs⟩ := struct_cells Try.underlying115 hy
    obtain ⟨y0, g0⟩ := hs 0 3 0 1 rfl (by kernel_rfl)
    obtain ⟨a0, e0, _, b0⟩ := DataW.trod_int Try.underlying3 g0
    obtain rfl : c0 = .int .i64 a0 := by simpa using e0
    obtain ⟨y1, g1⟩ := hs 1 3 1 1 rfl (by kernel_rfl)
    obtain ⟨a1, e1, _, b1⟩ := DataW.trod_int Try.underlying3 g1
    obtain rfl : c1 = .int .i64 a1 := by simpa using e1
    obtain ⟨y2, g2⟩ := hs 2 3 2 1 rfl (by kernel_rfl)
    obtain ⟨a2, e2, _, b2⟩ := DataW.trod_int Try.underlying3 g2
    obtain rfl : c2 = .int .i64 a2 := by simpa using e2
    obtain ⟨y3, g3⟩ := hs 3 3 3 1 rfl (by kernel_rfl)
    obtain ⟨a3, e3, _, b3⟩ := DataW.trod_int Try.underlying3 g3
    obtain rfl : c3 = .int .i64 a3 := by simpa using e3
    exact ⟨⟨a0, a1, a2, a3⟩, rfl, i64_bd b0, i64_bd b1, i64_bd b2, i64_bd b3⟩
  obtain ⟨f, hf1, hs⟩ := rows_sl (by omega) h
  obtain ⟨d, hd⟩ := choose_fn (⟨0, 0, 0, 0⟩ : I4) fun i hi => (hf1 i hi).2
  refine ⟨len, d, hs.congr fun i hi j hj => ?_, fun i hi => (hd i hi).2⟩
  rcases (show j = 0 ∨ j = 1 ∨ j = 2 ∨ j = 3 by omega) with rfl | rfl | rfl | rfl <;> (rw [(hd i hi).1]; rfl)

theorem evs_rng {base fuel : Nat} {c : Value} {x : DataW H × List MemPlace} (hf : DataW.trod enc Try.prog W base (fun _ => true) true fuel 26 [c] = some x) : ∃ n f, Sl 3 (gE f) n c W ∧ ∀ i, i < n → rE (f i) := by
  obtain ⟨a, len, cap, rfl⟩ := slice_cell Try.underlying26 hf
  have h : CellRows 3 (fun cs => ∃ x : Ev, cs = [.float .f64 x.t, .int .i64 x.dst, .int .i64 x.pay] ∧ rE x) W a len cap := by
    refine cellRows_of (C := 3) Try.underlying26 (by kernel_rfl) hf ?_
    intro cs m y hl hy
    obtain ⟨c0, c1, c2, rfl⟩ := list3 hl
    obtain ⟨m2, hs⟩ := struct_cells Try.underlying81 hy
    obtain ⟨y0, g0⟩ := hs 0 22 0 1 rfl (by kernel_rfl)
    obtain ⟨a0, e0, b0⟩ := trod_float_cell Try.underlying22 g0
    obtain rfl : c0 = .float .f64 a0 := by simpa using e0
    obtain ⟨y1, g1⟩ := hs 1 3 1 1 rfl (by kernel_rfl)
    obtain ⟨a1, e1, _, b1⟩ := DataW.trod_int Try.underlying3 g1
    obtain rfl : c1 = .int .i64 a1 := by simpa using e1
    obtain ⟨y2, g2⟩ := hs 2 3 2 1 rfl (by kernel_rfl)
    obtain ⟨a2, e2, _, b2⟩ := DataW.trod_int Try.underlying3 g2
    obtain rfl : c2 = .int .i64 a2 := by simpa using e2
    exact ⟨⟨a0, a1, a2⟩, rfl, float_bd b0, i64_bd b1, i64_bd b2⟩
  obtain ⟨f, hf1, hs⟩ := rows_sl (by omega) h
  obtain ⟨d, hd⟩ := choose_fn (⟨0, 0, 0⟩ : Ev) fun i hi => (hf1 i hi).2
  refine ⟨len, d, hs.congr fun i hi j hj => ?_, fun i hi => (hd i hi).2⟩
  rcases (show j = 0 ∨ j = 1 ∨ j = 2 by omega) with rfl | rfl | rfl <;> (rw [(hd i hi).1]; rfl)

theorem pgs_rng {base fuel : Nat} {c : Value} {x : DataW H × List MemPlace} (hf : DataW.trod enc Try.prog W base (fun _ => true) true fuel 24 [c] = some x) : ∃ n pl pr, Pgs n pl pr c W ∧ ∀ i, i < n → ∀ k, k < pl i → rI (pr i k) := by
  obtain ⟨a, len, cap, rfl⟩ := slice_cell Try.underlying24 hf
  have h : CellRows 1 (fun cs => ∃ x : Value × Nat × (Nat → I4), cs = [x.1] ∧ Sl 4 (gI x.2.2) x.2.1 x.1 W ∧ ∀ k, k < x.2.1 → rI (x.2.2 k)) W a len cap := by
    refine cellRows_of (C := 1) Try.underlying24 (by kernel_rfl) hf ?_
    intro cs m y hl hy
    obtain ⟨c0, rfl⟩ := list1 hl
    obtain ⟨n, f, hs, hr⟩ := inss_rng hy
    exact ⟨(c0, n, f), rfl, hs, hr⟩
  obtain ⟨f, hf1, hs⟩ := rows_sl (by omega) h
  obtain ⟨d, hd⟩ := choose_fn ((undef, 0, fun _ => ⟨0, 0, 0, 0⟩) : Value × Nat × (Nat → I4)) fun i hi => (hf1 i hi).2
  refine ⟨len, fun i => (d i).2.1, fun i => (d i).2.2, ⟨fun i => (d i).1, hs.congr fun i hi j hj => ?_, fun i hi => (hd i hi).2.1⟩, fun i hi => (hd i hi).2.2⟩
  rcases (show j = 0 by omega) with rfl
  rw [(hd i hi).1]; rfl

theorem lps_rng {base fuel : Nat} {c : Value} {x : DataW H × List MemPlace} (hf : DataW.trod enc Try.prog W base (fun _ => true) true fuel 25 [c] = some x) : ∃ n lp wl wd, Lps n lp wl wd c W ∧ (∀ i, i < n → r64 (lp i)) ∧ ∀ i, i < n → ∀ k, k < wl i → r64 (wd i k) := by
  obtain ⟨a, len, cap, rfl⟩ := slice_cell Try.underlying25 hf
  have h : CellRows 2 (fun cs => ∃ x : Int × Value × Nat × (Nat → Int), cs = [.int .i64 x.1, x.2.1] ∧ Sl 1 (gW x.2.2.2) x.2.2.1 x.2.1 W ∧ r64 x.1 ∧ ∀ k, k < x.2.2.1 → r64 (x.2.2.2 k)) W a len cap := by
    refine cellRows_of (C := 2) Try.underlying25 (by kernel_rfl) hf ?_
    intro cs m y hl hy
    obtain ⟨c0, c1, rfl⟩ := list2 hl
    obtain ⟨m2, hs⟩ := struct_cells Try.underlying78 hy
    obtain ⟨y0, g0⟩ := hs 0 3 0 1 rfl (by kernel_rfl)
    obtain ⟨a0, e0, _, b0⟩ := DataW.trod_int Try.underlying3 g0
    obtain rfl : c0 = .int .i64 a0 := by simpa using e0
    obtain ⟨y1, g1⟩ := hs 1 35 1 1 rfl (by kernel_rfl)
    obtain ⟨n, f, hs, hr⟩ := ints_rng g1
    exact ⟨(a0, c1, n, f), rfl, hs, i64_bd b0, hr⟩
  obtain ⟨f, hf1, hs⟩ := rows_sl (by omega) h
  obtain ⟨d, hd⟩ := choose_fn ((0, undef, 0, fun _ => 0) : Int × Value × Nat × (Nat → Int)) fun i hi => (hf1 i hi).2
  refine ⟨len, fun i => (d i).1, fun i => (d i).2.2.1, fun i => (d i).2.2.2, ⟨fun i => (d i).2.1, hs.congr fun i hi j hj => ?_, fun i hi => (hd i hi).2.1⟩, fun i hi => (hd i hi).2.2.1, fun i hi => (hd i hi).2.2.2⟩
  rcases (show j = 0 ∨ j = 1 by omega) with rfl | rfl <;> (rw [(hd i hi).1]; rfl)

/-- a model that came in -/
theorem open_mdl_rng {r : Reach} {b0 base : Nat} {v : Value} {d : DataW H} {p : List MemPlace} (hv : Value.okWide Try.prog W r b0 28 v) (h : DataW.Trod enc Try.prog W base (fun _ => true) true 28 v d p) :
    ∃ m vd vp vl vi, v = mval m vd vp vl vi ∧ MdlAt m vd vp vl vi W ∧ Rng m := by
  obtain ⟨cs, n, rfl, hl, hs⟩ := open_struct Try.underlying28 hv h
  have hm : Try.prog.cellsOf 28 = 6 := by kernel_rfl
  rw [hm] at hl
  obtain ⟨c0, c1, c2, c3, c4, c5, rfl⟩ := list6 hl
  obtain ⟨y0, g0⟩ := hs 0 3 0 1 rfl (by kernel_rfl)
  obtain ⟨a0, e0, _, b0⟩ := DataW.trod_int Try.underlying3 g0
  obtain rfl : c0 = .int .i64 a0 := by simpa using e0
  obtain ⟨y1, g1⟩ := hs 1 22 1 1 rfl (by kernel_rfl)
  obtain ⟨a1, e1, b1⟩ := trod_float_cell Try.underlying22 g1
  obtain rfl : c1 = .float .f64 a1 := by simpa using e1
  obtain ⟨y2, g2⟩ := hs 2 23 2 1 rfl (by kernel_rfl)
  obtain ⟨y3, g3⟩ := hs 3 24 3 1 rfl (by kernel_rfl)
  obtain ⟨y4, g4⟩ := hs 4 25 4 1 rfl (by kernel_rfl)
  obtain ⟨y5, g5⟩ := hs 5 26 5 1 rfl (by kernel_rfl)
  obtain ⟨nd, fd, hd, rd⟩ := floats_rng g2
  obtain ⟨np, pl, pr, hp, rp⟩ := pgs_rng g3
  obtain ⟨nl, lp, wl, wd, hl, rl, rw'⟩ := lps_rng g4
  obtain ⟨ni, ev, hi, re⟩ := evs_rng g5
  exact ⟨⟨a0, a1, nd, fd, np, pl, pr, nl, lp, wl, wd, ni, ev⟩, c2, c3, c4, c5, rfl, ⟨hd, hp, hl, hi⟩, i64_bd b0, float_bd b1, rd, rp, rl, rw', re⟩
end

end Go.Proofs.Ythkfaeplmmlnlaa
