/- Slices that came in, as rows: what the frames share. A model that came in, opened. A model that came in, opened, with its numbers' bounds. Rows.PlainRunsSaid: for every input the law 'horologe/horologelaw09.PlainRuns' returns true and leaves its arguments as they were. No condition. The walk is 'plRuns_walk' (PlRunsW); this text is the frame. -/
import Derived.Test.YthkfaeplmmlnlaaGreatRZ1
import Derived.Test.YthkfaeplmmlnlaaGreatRZ0
import Derived.Test.YthkfaeplmmlnlaaGreatRZ34
import Derived.Test.YthkfaeplmmlnlaaGreatRPlRunsW
namespace Go.Proofs.YthkfaeplmmlnlaaGreat
open Go.ChangeShapes Go.WideShapes Go.ChangeAt Go.RowKit Go.Joins
set_option linter.unusedVariables false
set_option maxRecDepth 100000

theorem rows_sl {C : Nat} (hC : 0 < C) {ok : List Value → Prop} {w : World} {a : Option Addr} {len cap : Nat} (h : CellRows C ok w a len cap) :
    ∃ f : Nat → List Value, (∀ i, i < len → (f i).length = C ∧ ok (f i)) ∧ Sl C (fun i j => (f i).getD j undef) len (.slice a len cap) w := by
  rcases h with ⟨rfl, rfl, rfl⟩ | ⟨x, rfl, hl, hm, hc⟩
  · exact ⟨fun _ => [], fun i hi => absurd hi (Nat.not_lt_zero i), none, 0, rfl, Nat.le_refl _, by omega, fun h => absurd h (Nat.lt_irrefl 0)⟩
  · have hex : ∀ i, ∃ cs : List Value, i < len → cs.length = C ∧ ok cs ∧ ∀ j, j < C → w.cell? (x.add (i * C + j)) = cs[j]? := fun i => by
      by_cases hi : i < len
      · obtain ⟨cs, h1, h2, h3⟩ := hc i hi; exact ⟨cs, fun _ => ⟨h1, h2, h3⟩⟩
      · exact ⟨[], fun h => absurd h hi⟩
    obtain ⟨f, hf⟩ : ∃ f : Nat → List Value, ∀ i, i < len → (f i).length = C ∧ ok (f i) ∧ ∀ j, j < C → w.cell? (x.add (i * C + j)) = (f i)[j]? := ⟨fun i => Classical.choose (hex i), fun i => Classical.choose_spec (hex i)⟩
    refine ⟨f, fun i hi => ⟨(hf i hi).1, (hf i hi).2.1⟩, some x, cap, rfl, hl, hm, fun hn => ?_⟩
    have h0 := (hf 0 hn).2.2 0 hC
    rw [Nat.zero_mul, List.getElem?_eq_getElem (by rw [(hf 0 hn).1]; exact hC)] at h0
    obtain ⟨b, off, spot⟩ := x
    have hspot : spot = none := by simpa [Addr.add] using World.cell?_spot h0
    subst hspot
    refine ⟨b, off, rfl, ?_, fun i hi j hj => ?_⟩
    · rw [add_plain] at h0
      rcases Nat.lt_or_ge b w.heap.size with h' | h'
      · exact h'
      · simp [World.cell?, Array.getElem?_eq_none h'] at h0
    · have := (hf i hi).2.2 j hj
      rw [add_plain] at this
      rw [Nat.add_assoc, this, List.getElem?_eq_getElem (by rw [(hf i hi).1]; exact hj)]
      simp [List.getD, List.getElem?_eq_getElem (show j < (f i).length by rw [(hf i hi).1]; exact hj)]

theorem choose_fn {α : Type} {n : Nat} {p : Nat → α → Prop} (d : α) (h : ∀ i, i < n → ∃ x, p i x) : ∃ f : Nat → α, ∀ i, i < n → p i (f i) := by
  have hex : ∀ i, ∃ x, i < n → p i x := fun i => by
    by_cases hi : i < n
    · obtain ⟨x, hx⟩ := h i hi; exact ⟨x, fun _ => hx⟩
    · exact ⟨d, fun h => absurd h hi⟩
  exact ⟨fun i => Classical.choose (hex i), fun i => Classical.choose_spec (hex i)⟩

section
variable {H : Type} {enc : TypeId × Value → H} {W : World}

/-- what a slice's one cell is -/
theorem slice_cell {P : Program} {base fuel : Nat} {t e : TypeId} {c : Value} {x : DataW H × List MemPlace} (ht : P.underlying t = some (.slice e)) (hf : DataW.trod enc P W base (fun _ => true) true fuel t [c] = some x) : ∃ a len cap, c = .slice a len cap := by
  rcases Go.Deep.open_slice ht hf with ⟨hcs, _⟩ | ⟨y, l, cp, m, n, D, Pl, hcs, _⟩
  · exact ⟨none, 0, 0, by simpa using hcs⟩
  · exact ⟨some y, l, cp, by simpa using hcs⟩

end

end Go.Proofs.YthkfaeplmmlnlaaGreat
namespace Go.Proofs.YthkfaeplmmlnlaaGreat
open Go.ChangeShapes Go.WideShapes Go.ChangeAt Go.RowKit Go.Joins
set_option linter.unusedVariables false
set_option maxRecDepth 100000

section
variable {H : Type} {enc : TypeId × Value → H} {W : World}

theorem floats_of {base fuel : Nat} {c : Value} {x : DataW H × List MemPlace} (hf : DataW.trod enc Tryz.prog W base (fun _ => true) true fuel 23 [c] = some x) : ∃ n d, Sl 1 (gF d) n c W := by
  obtain ⟨a, len, cap, rfl⟩ := slice_cell Tryz.underlying23 hf
  have h : CellRows 1 (fun cs => ∃ x : Nat, cs = [.float .f64 x]) W a len cap := by
    refine cellRows_of (C := 1) Tryz.underlying23 (by kernel_rfl) hf ?_
    intro cs m y hl hy
    obtain ⟨b, hb, _⟩ := trod_float_cell Tryz.underlying22 hy
    exact ⟨b, hb⟩
  obtain ⟨f, hf1, hs⟩ := rows_sl (by omega) h
  obtain ⟨d, hd⟩ := choose_fn 0 fun i hi => (hf1 i hi).2
  refine ⟨len, d, hs.congr fun i hi j hj => ?_⟩
  rcases (show j = 0 by omega) with rfl
  rw [hd i hi]; rfl

theorem ints_of {base fuel : Nat} {c : Value} {x : DataW H × List MemPlace} (hf : DataW.trod enc Tryz.prog W base (fun _ => true) true fuel 53 [c] = some x) : ∃ n d, Sl 1 (gW d) n c W := by
  obtain ⟨a, len, cap, rfl⟩ := slice_cell Tryz.underlying53 hf
  have h : CellRows 1 (fun cs => ∃ x : Int, cs = [.int .i64 x]) W a len cap := by
    refine cellRows_of (C := 1) Tryz.underlying53 (by kernel_rfl) hf ?_
    intro cs m y hl hy
    obtain ⟨b, hb, _⟩ := DataW.trod_int Tryz.underlying3 hy
    exact ⟨b, hb⟩
  obtain ⟨f, hf1, hs⟩ := rows_sl (by omega) h
  obtain ⟨d, hd⟩ := choose_fn 0 fun i hi => (hf1 i hi).2
  refine ⟨len, d, hs.congr fun i hi j hj => ?_⟩
  rcases (show j = 0 by omega) with rfl
  rw [hd i hi]; rfl

theorem inss_of {base fuel : Nat} {c : Value} {x : DataW H × List MemPlace} (hf : DataW.trod enc Tryz.prog W base (fun _ => true) true fuel 61 [c] = some x) : ∃ n f, Sl 4 (gI f) n c W := by
  obtain ⟨a, len, cap, rfl⟩ := slice_cell Tryz.underlying61 hf
  have h : CellRows 4 (fun cs => ∃ x : I4, cs = [.int .i64 x.op, .int .i64 x.a, .int .i64 x.b, .int .i64 x.c]) W a len cap := by
    refine cellRows_of (C := 4) Tryz.underlying61 (by kernel_rfl) hf ?_
    intro cs m y hl hy
    obtain ⟨c0, c1, c2, c3, rfl⟩ := list4 hl
    obtain ⟨m2, hs⟩ := struct_cells Tryz.underlying99 hy
    obtain ⟨y0, g0⟩ := hs 0 3 0 1 rfl (by kernel_rfl)
    obtain ⟨a0, e0, _⟩ := DataW.trod_int Tryz.underlying3 g0
    obtain rfl : c0 = .int .i64 a0 := by simpa using e0
    obtain ⟨y1, g1⟩ := hs 1 3 1 1 rfl (by kernel_rfl)
    obtain ⟨a1, e1, _⟩ := DataW.trod_int Tryz.underlying3 g1
    obtain rfl : c1 = .int .i64 a1 := by simpa using e1
    obtain ⟨y2, g2⟩ := hs 2 3 2 1 rfl (by kernel_rfl)
    obtain ⟨a2, e2, _⟩ := DataW.trod_int Tryz.underlying3 g2
    obtain rfl : c2 = .int .i64 a2 := by simpa using e2
    obtain ⟨y3, g3⟩ := hs 3 3 3 1 rfl (by kernel_rfl)
    obtain ⟨a3, e3, _⟩ := DataW.trod_int Tryz.underlying3 g3
    obtain rfl : c3 = .int .i64 a3 := by simpa using e3
    exact ⟨⟨a0, a1, a2, a3⟩, rfl⟩
  obtain ⟨f, hf1, hs⟩ := rows_sl (by omega) h
  obtain ⟨d, hd⟩ := choose_fn (⟨0, 0, 0, 0⟩ : I4) fun i hi => (hf1 i hi).2
  refine ⟨len, d, hs.congr fun i hi j hj => ?_⟩
  rcases (show j = 0 ∨ j = 1 ∨ j = 2 ∨ j = 3 by omega) with rfl | rfl | rfl | rfl <;> (rw [hd i hi]; rfl)

theorem evs_of {base fuel : Nat} {c : Value} {x : DataW H × List MemPlace} (hf : DataW.trod enc Tryz.prog W base (fun _ => true) true fuel 26 [c] = some x) : ∃ n f, Sl 3 (gE f) n c W := by
  obtain ⟨a, len, cap, rfl⟩ := slice_cell Tryz.underlying26 hf
  have h : CellRows 3 (fun cs => ∃ x : Ev, cs = [.float .f64 x.t, .int .i64 x.dst, .int .i64 x.pay]) W a len cap := by
    refine cellRows_of (C := 3) Tryz.underlying26 (by kernel_rfl) hf ?_
    intro cs m y hl hy
    obtain ⟨c0, c1, c2, rfl⟩ := list3 hl
    obtain ⟨m2, hs⟩ := struct_cells Tryz.underlying78 hy
    obtain ⟨y0, g0⟩ := hs 0 22 0 1 rfl (by kernel_rfl)
    obtain ⟨a0, e0, _⟩ := trod_float_cell Tryz.underlying22 g0
    obtain rfl : c0 = .float .f64 a0 := by simpa using e0
    obtain ⟨y1, g1⟩ := hs 1 3 1 1 rfl (by kernel_rfl)
    obtain ⟨a1, e1, _⟩ := DataW.trod_int Tryz.underlying3 g1
    obtain rfl : c1 = .int .i64 a1 := by simpa using e1
    obtain ⟨y2, g2⟩ := hs 2 3 2 1 rfl (by kernel_rfl)
    obtain ⟨a2, e2, _⟩ := DataW.trod_int Tryz.underlying3 g2
    obtain rfl : c2 = .int .i64 a2 := by simpa using e2
    exact ⟨⟨a0, a1, a2⟩, rfl⟩
  obtain ⟨f, hf1, hs⟩ := rows_sl (by omega) h
  obtain ⟨d, hd⟩ := choose_fn (⟨0, 0, 0⟩ : Ev) fun i hi => (hf1 i hi).2
  refine ⟨len, d, hs.congr fun i hi j hj => ?_⟩
  rcases (show j = 0 ∨ j = 1 ∨ j = 2 by omega) with rfl | rfl | rfl <;> (rw [hd i hi]; rfl)

theorem pgs_of {base fuel : Nat} {c : Value} {x : DataW H × List MemPlace} (hf : DataW.trod enc Tryz.prog W base (fun _ => true) true fuel 24 [c] = some x) : ∃ n pl pr, Pgs n pl pr c W := by
  obtain ⟨a, len, cap, rfl⟩ := slice_cell Tryz.underlying24 hf
  have h : CellRows 1 (fun cs => ∃ x : Value × Nat × (Nat → I4), cs = [x.1] ∧ Sl 4 (gI x.2.2) x.2.1 x.1 W) W a len cap := by
    refine cellRows_of (C := 1) Tryz.underlying24 (by kernel_rfl) hf ?_
    intro cs m y hl hy
    obtain ⟨c0, rfl⟩ := list1 hl
    obtain ⟨n, f, hs⟩ := inss_of hy
    exact ⟨(c0, n, f), rfl, hs⟩
  obtain ⟨f, hf1, hs⟩ := rows_sl (by omega) h
  obtain ⟨d, hd⟩ := choose_fn ((undef, 0, fun _ => ⟨0, 0, 0, 0⟩) : Value × Nat × (Nat → I4)) fun i hi => (hf1 i hi).2
  refine ⟨len, fun i => (d i).2.1, fun i => (d i).2.2, fun i => (d i).1, hs.congr fun i hi j hj => ?_, fun i hi => (hd i hi).2⟩
  rcases (show j = 0 by omega) with rfl
  rw [(hd i hi).1]; rfl

theorem lps_of {base fuel : Nat} {c : Value} {x : DataW H × List MemPlace} (hf : DataW.trod enc Tryz.prog W base (fun _ => true) true fuel 25 [c] = some x) : ∃ n lp wl wd, Lps n lp wl wd c W := by
  obtain ⟨a, len, cap, rfl⟩ := slice_cell Tryz.underlying25 hf
  have h : CellRows 2 (fun cs => ∃ x : Int × Value × Nat × (Nat → Int), cs = [.int .i64 x.1, x.2.1] ∧ Sl 1 (gW x.2.2.2) x.2.2.1 x.2.1 W) W a len cap := by
    refine cellRows_of (C := 2) Tryz.underlying25 (by kernel_rfl) hf ?_
    intro cs m y hl hy
    obtain ⟨c0, c1, rfl⟩ := list2 hl
    obtain ⟨m2, hs⟩ := struct_cells Tryz.underlying63 hy
    obtain ⟨y0, g0⟩ := hs 0 3 0 1 rfl (by kernel_rfl)
    obtain ⟨a0, e0, _⟩ := DataW.trod_int Tryz.underlying3 g0
    obtain rfl : c0 = .int .i64 a0 := by simpa using e0
    obtain ⟨y1, g1⟩ := hs 1 53 1 1 rfl (by kernel_rfl)
    obtain ⟨n, f, hs⟩ := ints_of g1
    exact ⟨(a0, c1, n, f), rfl, hs⟩
  obtain ⟨f, hf1, hs⟩ := rows_sl (by omega) h
  obtain ⟨d, hd⟩ := choose_fn ((0, undef, 0, fun _ => 0) : Int × Value × Nat × (Nat → Int)) fun i hi => (hf1 i hi).2
  refine ⟨len, fun i => (d i).1, fun i => (d i).2.2.1, fun i => (d i).2.2.2, fun i => (d i).2.1, hs.congr fun i hi j hj => ?_, fun i hi => (hd i hi).2⟩
  rcases (show j = 0 ∨ j = 1 by omega) with rfl | rfl <;> (rw [(hd i hi).1]; rfl)

/-- a model that came in -/
theorem open_mdl {r : Reach} {b0 base : Nat} {v : Value} {d : DataW H} {p : List MemPlace} (hv : Value.okWide Tryz.prog W r b0 28 v) (h : DataW.Trod enc Tryz.prog W base (fun _ => true) true 28 v d p) :
    ∃ m vd vp vl vi, v = mval m vd vp vl vi ∧ MdlAt m vd vp vl vi W := by
  obtain ⟨cs, n, rfl, hl, hs⟩ := open_struct Tryz.underlying28 hv h
  have hm : Tryz.prog.cellsOf 28 = 6 := by kernel_rfl
  rw [hm] at hl
  obtain ⟨c0, c1, c2, c3, c4, c5, rfl⟩ := list6 hl
  obtain ⟨y0, g0⟩ := hs 0 3 0 1 rfl (by kernel_rfl)
  obtain ⟨a0, e0, _⟩ := DataW.trod_int Tryz.underlying3 g0
  obtain rfl : c0 = .int .i64 a0 := by simpa using e0
  obtain ⟨y1, g1⟩ := hs 1 22 1 1 rfl (by kernel_rfl)
  obtain ⟨a1, e1, _⟩ := trod_float_cell Tryz.underlying22 g1
  obtain rfl : c1 = .float .f64 a1 := by simpa using e1
  obtain ⟨y2, g2⟩ := hs 2 23 2 1 rfl (by kernel_rfl)
  obtain ⟨y3, g3⟩ := hs 3 24 3 1 rfl (by kernel_rfl)
  obtain ⟨y4, g4⟩ := hs 4 25 4 1 rfl (by kernel_rfl)
  obtain ⟨y5, g5⟩ := hs 5 26 5 1 rfl (by kernel_rfl)
  obtain ⟨nd, fd, hd⟩ := floats_of g2
  obtain ⟨np, pl, pr, hp⟩ := pgs_of g3
  obtain ⟨nl, lp, wl, wd, hl⟩ := lps_of g4
  obtain ⟨ni, ev, hi⟩ := evs_of g5
  exact ⟨⟨a0, a1, nd, fd, np, pl, pr, nl, lp, wl, wd, ni, ev⟩, c2, c3, c4, c5, rfl, hd, hp, hl, hi⟩
end

end Go.Proofs.YthkfaeplmmlnlaaGreat
namespace Go.Proofs.YthkfaeplmmlnlaaGreat
open Go.ChangeShapes Go.WideShapes Go.ChangeAt Go.RowKit Go.Joins
set_option linter.unusedVariables false
set_option maxRecDepth 100000

def rI (x : I4) : Prop := r64 x.op ∧ r64 x.a ∧ r64 x.b ∧ r64 x.c
def rE (x : Ev) : Prop := x.t < 18446744073709551616 ∧ r64 x.dst ∧ r64 x.pay
theorem float_bd {b : Nat} (h : (Lit.float .f64 b).wf = true) : b < 18446744073709551616 := by
  simpa [Lit.wf] using h
section
variable {H : Type} {enc : TypeId × Value → H} {W : World}

theorem floats_rng {base fuel : Nat} {c : Value} {x : DataW H × List MemPlace} (hf : DataW.trod enc Tryz.prog W base (fun _ => true) true fuel 23 [c] = some x) : ∃ n d, Sl 1 (gF d) n c W ∧ ∀ i, i < n → d i < 18446744073709551616 := by
  obtain ⟨a, len, cap, rfl⟩ := slice_cell Tryz.underlying23 hf
  have h : CellRows 1 (fun cs => ∃ x : Nat, cs = [.float .f64 x] ∧ x < 18446744073709551616) W a len cap := by
    refine cellRows_of (C := 1) Tryz.underlying23 (by kernel_rfl) hf ?_
    intro cs m y hl hy
    obtain ⟨b, hb, hw⟩ := trod_float_cell Tryz.underlying22 hy
    exact ⟨b, hb, float_bd hw⟩
  obtain ⟨f, hf1, hs⟩ := rows_sl (by omega) h
  obtain ⟨d, hd⟩ := choose_fn 0 fun i hi => (hf1 i hi).2
  refine ⟨len, d, hs.congr fun i hi j hj => ?_, fun i hi => (hd i hi).2⟩
  rcases (show j = 0 by omega) with rfl
  rw [(hd i hi).1]; rfl

theorem ints_rng {base fuel : Nat} {c : Value} {x : DataW H × List MemPlace} (hf : DataW.trod enc Tryz.prog W base (fun _ => true) true fuel 53 [c] = some x) : ∃ n d, Sl 1 (gW d) n c W ∧ ∀ i, i < n → r64 (d i) := by
  obtain ⟨a, len, cap, rfl⟩ := slice_cell Tryz.underlying53 hf
  have h : CellRows 1 (fun cs => ∃ x : Int, cs = [.int .i64 x] ∧ r64 x) W a len cap := by
    refine cellRows_of (C := 1) Tryz.underlying53 (by kernel_rfl) hf ?_
    intro cs m y hl hy
    obtain ⟨b, hb, _, hw⟩ := DataW.trod_int Tryz.underlying3 hy
    exact ⟨b, hb, i64_bd hw⟩
  obtain ⟨f, hf1, hs⟩ := rows_sl (by omega) h
  obtain ⟨d, hd⟩ := choose_fn 0 fun i hi => (hf1 i hi).2
  refine ⟨len, d, hs.congr fun i hi j hj => ?_, fun i hi => (hd i hi).2⟩
  rcases (show j = 0 by omega) with rfl
  rw [(hd i hi).1]; rfl

theorem inss_rng {base fuel : Nat} {c : Value} {x : DataW H × List MemPlace} (hf : DataW.trod enc Tryz.prog W base (fun _ => true) true fuel 61 [c] = some x) : ∃ n f, Sl 4 (gI f) n c W ∧ ∀ i, i < n → rI (f i) := by
  obtain ⟨a, len, cap, rfl⟩ := slice_cell Tryz.underlying61 hf
  have h : CellRows 4 (fun cs => ∃ x : I4, cs = [.int .i64 x.op, .int .i64 x.a, .int .i64 x.b, .int .i64 x.c] ∧ rI x) W a len cap := by
    refine cellRows_of (C := 4) Tryz.underlying61 (by kernel_rfl) hf ?_
    intro cs m y hl hy
    obtain ⟨c0, c1, c2, c3, rfl⟩ := list4 hl
    obtain ⟨m2, hs⟩ := struct_cells Tryz.underlying99 hy
    obtain ⟨y0, g0⟩ := hs 0 3 0 1 rfl (by kernel_rfl)
    obtain ⟨a0, e0, _, b0⟩ := DataW.trod_int Tryz.underlying3 g0
    obtain rfl : c0 = .int .i64 a0 := by simpa using e0
    obtain ⟨y1, g1⟩ := hs 1 3 1 1 rfl (by kernel_rfl)
    obtain ⟨a1, e1, _, b1⟩ := DataW.trod_int Tryz.underlying3 g1
    obtain rfl : c1 = .int .i64 a1 := by simpa using e1
    obtain ⟨y2, g2⟩ := hs 2 3 2 1 rfl (by kernel_rfl)
    obtain ⟨a2, e2, _, b2⟩ := DataW.trod_int Tryz.underlying3 g2
    obtain rfl : c2 = .int .i64 a2 := by simpa using e2
    obtain ⟨y3, g3⟩ := hs 3 3 3 1 rfl (by kernel_rfl)
    obtain ⟨a3, e3, _, b3⟩ := DataW.trod_int Tryz.underlying3 g3
    obtain rfl : c3 = .int .i64 a3 := by simpa using e3
    exact ⟨⟨a0, a1, a2, a3⟩, rfl, i64_bd b0, i64_bd b1, i64_bd b2, i64_bd b3⟩
  obtain ⟨f, hf1, hs⟩ := rows_sl (by omega) h
  obtain ⟨d, hd⟩ := choose_fn (⟨0, 0, 0, 0⟩ : I4) fun i hi => (hf1 i hi).2
  refine ⟨len, d, hs.congr fun i hi j hj => ?_, fun i hi => (hd i hi).2⟩
  rcases (show j = 0 ∨ j = 1 ∨ j = 2 ∨ j = 3 by omega) with rfl | rfl | rfl | rfl <;> (rw [(hd i hi).1]; rfl)

theorem evs_rng {base fuel : Nat} {c : Value} {x : DataW H × List MemPlace} (hf : DataW.trod enc Tryz.prog W base (fun _ => true) true fuel 26 [c] = some x) : ∃ n f, Sl 3 (gE f) n c W ∧ ∀ i, i < n → rE (f i) := by
  obtain ⟨a, len, cap, rfl⟩ := slice_cell Tryz.underlying26 hf
  have h : CellRows 3 (fun cs => ∃ x : Ev, cs = [.float .f64 x.t, .int .i64 x.dst, .int .i64 x.pay] ∧ rE x) W a len cap := by
    refine cellRows_of (C := 3) Tryz.underlying26 (by kernel_rfl) hf ?_
    intro cs m y hl hy
    obtain ⟨c0, c1, c2, rfl⟩ := list3 hl
    obtain ⟨m2, hs⟩ := struct_cells Tryz.underlying78 hy
    obtain ⟨y0, g0⟩ := hs 0 22 0 1 rfl (by kernel_rfl)
    obtain ⟨a0, e0, b0⟩ := trod_float_cell Tryz.underlying22 g0
    obtain rfl : c0 = .float .f64 a0 := by simpa using e0
    obtain ⟨y1, g1⟩ := hs 1 3 1 1 rfl (by kernel_rfl)
    obtain ⟨a1, e1, _, b1⟩ := DataW.trod_int Tryz.underlying3 g1
    obtain rfl : c1 = .int .i64 a1 := by simpa using e1
    obtain ⟨y2, g2⟩ := hs 2 3 2 1 rfl (by kernel_rfl)
    obtain ⟨a2, e2, _, b2⟩ := DataW.trod_int Tryz.underlying3 g2
    obtain rfl : c2 = .int .i64 a2 := by simpa using e2
    exact ⟨⟨a0, a1, a2⟩, rfl, float_bd b0, i64_bd b1, i64_bd b2⟩
  obtain ⟨f, hf1, hs⟩ := rows_sl (by omega) h
  obtain ⟨d, hd⟩ := choose_fn (⟨0, 0, 0⟩ : Ev) fun i hi => (hf1 i hi).2
  refine ⟨len, d, hs.congr fun i hi j hj => ?_, fun i hi => (hd i hi).2⟩
  rcases (show j = 0 ∨ j = 1 ∨ j = 2 by omega) with rfl | rfl | rfl <;> (rw [(hd i hi).1]; rfl)

theorem pgs_rng {base fuel : Nat} {c : Value} {x : DataW H × List MemPlace} (hf : DataW.trod enc Tryz.prog W base (fun _ => true) true fuel 24 [c] = some x) : ∃ n pl pr, Pgs n pl pr c W ∧ ∀ i, i < n → ∀ k, k < pl i → rI (pr i k) := by
  obtain ⟨a, len, cap, rfl⟩ := slice_cell Tryz.underlying24 hf
  have h : CellRows 1 (fun cs => ∃ x : Value × Nat × (Nat → I4), cs = [x.1] ∧ Sl 4 (gI x.2.2) x.2.1 x.1 W ∧ ∀ k, k < x.2.1 → rI (x.2.2 k)) W a len cap := by
    refine cellRows_of (C := 1) Tryz.underlying24 (by kernel_rfl) hf ?_
    intro cs m y hl hy
    obtain ⟨c0, rfl⟩ := list1 hl
    obtain ⟨n, f, hs, hr⟩ := inss_rng hy
    exact ⟨(c0, n, f), rfl, hs, hr⟩
  obtain ⟨f, hf1, hs⟩ := rows_sl (by omega) h
  obtain ⟨d, hd⟩ := choose_fn ((undef, 0, fun _ => ⟨0, 0, 0, 0⟩) : Value × Nat × (Nat → I4)) fun i hi => (hf1 i hi).2
  refine ⟨len, fun i => (d i).2.1, fun i => (d i).2.2, ⟨fun i => (d i).1, hs.congr fun i hi j hj => ?_, fun i hi => (hd i hi).2.1⟩, fun i hi => (hd i hi).2.2⟩
  rcases (show j = 0 by omega) with rfl
  rw [(hd i hi).1]; rfl

theorem lps_rng {base fuel : Nat} {c : Value} {x : DataW H × List MemPlace} (hf : DataW.trod enc Tryz.prog W base (fun _ => true) true fuel 25 [c] = some x) : ∃ n lp wl wd, Lps n lp wl wd c W ∧ (∀ i, i < n → r64 (lp i)) ∧ ∀ i, i < n → ∀ k, k < wl i → r64 (wd i k) := by
  obtain ⟨a, len, cap, rfl⟩ := slice_cell Tryz.underlying25 hf
  have h : CellRows 2 (fun cs => ∃ x : Int × Value × Nat × (Nat → Int), cs = [.int .i64 x.1, x.2.1] ∧ Sl 1 (gW x.2.2.2) x.2.2.1 x.2.1 W ∧ r64 x.1 ∧ ∀ k, k < x.2.2.1 → r64 (x.2.2.2 k)) W a len cap := by
    refine cellRows_of (C := 2) Tryz.underlying25 (by kernel_rfl) hf ?_
    intro cs m y hl hy
    obtain ⟨c0, c1, rfl⟩ := list2 hl
    obtain ⟨m2, hs⟩ := struct_cells Tryz.underlying63 hy
    obtain ⟨y0, g0⟩ := hs 0 3 0 1 rfl (by kernel_rfl)
    obtain ⟨a0, e0, _, b0⟩ := DataW.trod_int Tryz.underlying3 g0
    obtain rfl : c0 = .int .i64 a0 := by simpa using e0
    obtain ⟨y1, g1⟩ := hs 1 53 1 1 rfl (by kernel_rfl)
    obtain ⟨n, f, hs, hr⟩ := ints_rng g1
    exact ⟨(a0, c1, n, f), rfl, hs, i64_bd b0, hr⟩
  obtain ⟨f, hf1, hs⟩ := rows_sl (by omega) h
  obtain ⟨d, hd⟩ := choose_fn ((0, undef, 0, fun _ => 0) : Int × Value × Nat × (Nat → Int)) fun i hi => (hf1 i hi).2
  refine ⟨len, fun i => (d i).1, fun i => (d i).2.2.1, fun i => (d i).2.2.2, ⟨fun i => (d i).2.1, hs.congr fun i hi j hj => ?_, fun i hi => (hd i hi).2.1⟩, fun i hi => (hd i hi).2.2.1, fun i hi => (hd i hi).2.2.2⟩
  rcases (show j = 0 ∨ j = 1 by omega) with rfl | rfl <;> (rw [(hd i hi).1]; rfl)

/-- a model that came in -/
theorem open_mdl_rng {r : Reach} {b0 base : Nat} {v : Value} {d : DataW H} {p : List MemPlace} (hv : Value.okWide Tryz.prog W r b0 28 v) (h : DataW.Trod enc Tryz.prog W base (fun _ => true) true 28 v d p) :
    ∃ m vd vp vl vi, v = mval m vd vp vl vi ∧ MdlAt m vd vp vl vi W ∧ Rng m := by
  obtain ⟨cs, n, rfl, hl, hs⟩ := open_struct Tryz.underlying28 hv h
  have hm : Tryz.prog.cellsOf 28 = 6 := by kernel_rfl
  rw [hm] at hl
  obtain ⟨c0, c1, c2, c3, c4, c5, rfl⟩ := list6 hl
  obtain ⟨y0, g0⟩ := hs 0 3 0 1 rfl (by kernel_rfl)
  obtain ⟨a0, e0, _, b0⟩ := DataW.trod_int Tryz.underlying3 g0
  obtain rfl : c0 = .int .i64 a0 := by simpa using e0
  obtain ⟨y1, g1⟩ := hs 1 22 1 1 rfl (by kernel_rfl)
  obtain ⟨a1, e1, b1⟩ := trod_float_cell Tryz.underlying22 g1
  obtain rfl : c1 = .float .f64 a1 := by simpa using e1
  obtain ⟨y2, g2⟩ := hs 2 23 2 1 rfl (by kernel_rfl)
  obtain ⟨y3, g3⟩ := hs 3 24 3 1 rfl (by kernel_rfl)
  obtain ⟨y4, g4⟩ := hs 4 25 4 1 rfl (by kernel_rfl)
  obtain ⟨y5, g5⟩ := hs 5 26 5 1 rfl (by kernel_rfl)
  obtain ⟨nd, fd, hd, rd⟩ := floats_rng g2
  obtain ⟨np, pl, pr, hp, rp⟩ := pgs_rng g3
  obtain ⟨nl, lp, wl, wd, hl, rl, rw'⟩ := lps_rng g4
  obtain ⟨ni, ev, hi, re⟩ := evs_rng g5
  exact ⟨⟨a0, a1, nd, fd, np, pl, pr, nl, lp, wl, wd, ni, ev⟩, c2, c3, c4, c5, rfl, ⟨hd, hp, hl, hi⟩, i64_bd b0, float_bd b1, rd, rp, rl, rw', re⟩
end

end Go.Proofs.YthkfaeplmmlnlaaGreat
namespace Go.Proofs.YthkfaeplmmlnlaaGreat.plainRuns
open Go.ChangeShapes Go.WideShapes Go.ChangeAt Go.RowKit Go.Joins
open Go.ChangeMaps (open_string shut_string)
set_option linter.unusedVariables false

theorem own : ownKnob Tryz.prog.godebug = none := by kernel_rfl
theorem laidOut : laidOutB Tryz.prog = true := by kernel_rfl

set_option maxRecDepth 100000 in
theorem lifted (os : Os) (started : os.Started) (H : Type) (enc : TypeId × Value → H) :
    ReturnsInHanded {} Tryz.checked os 3 .any (Rows.plainRunsSpec.pre6 enc Tryz.prog Tryz.f3 Rows.plainRunsRow.domain false) (Rows.plainRunsSpec.post enc Tryz.prog Tryz.f3 false true false false) := by
  refine returnsInHanded_of_change (C := Tryz.checked) own started (by kernel_rfl) Tryz.func3
    (ChangeSpec.witness6 (enc := enc) (C := Tryz.checked) false ⟨#[], #[.agg #[.int .i64 0, .float .f64 0, .slice none 0 0, .slice none 0 0, .slice none 0 0, .slice none 0 0], .int .u8 0], []⟩ 8 (by kernel_rfl) (by kernel_rfl) (by kernel_rfl) (by kernel_rfl)) ?_
  intro W base args ds gs before hval0 hW hcnd _
  have hval : ∀ (j : Nat) t v, Tryz.f3.params[j]? = some t → args[j]? = some v → Value.okWide Tryz.prog W .any base t v := hval0
  have hW' := hW
  obtain ⟨p, q, hA0, hV, rfl, hfz, hnd⟩ := hW
  have hA : DataW.TrodAll enc Tryz.prog W 0 (fun _ => true) true Tryz.f3.params.toList args.toList ds p := hA0
  rw [Tryz.params3] at hA hval
  obtain ⟨v0, vs0, d0, ds0, p0, q0, hargs, rfl, rfl, h0, r0⟩ := trodAll_cons hA
  obtain ⟨v1, vs1, d1, ds1, p1, q1, rfl, rfl, rfl, h1, r1⟩ := trodAll_cons r0
  obtain ⟨rfl, rfl, rfl⟩ := trodAll_nil r1
  obtain rfl : args = #[v0, v1] := by cases args; simp_all
  obtain ⟨rfl, rfl⟩ := trodVars_none hV
  have k0 := h0
  have lt0 : ∀ x ∈ p0, x.block < W.heap.size := by obtain ⟨m, hm⟩ := k0; exact DataW.trod_lt m _ _ _ hm
  have k1 := h1
  have lt1 : ∀ x ∈ p1, x.block < W.heap.size := by obtain ⟨m, hm⟩ := k1; exact DataW.trod_lt m _ _ _ hm
  obtain ⟨m0, vd0, vp0, vl0, vi0, rfl, w0, g0⟩ := open_mdl_rng (hval 0 28 v0 rfl rfl) h0
  obtain ⟨a1, rfl, rfl, rfl, w1⟩ := open_int Tryz.underlying5 (hval 1 5 v1 rfl rfl) h1
  clear hA0 hval0
  refine (plRuns_walk m0 vd0 vp0 vl0 vi0 a1 W w0 g0 w1).mono fun e W' ⟨he, bel⟩ => ?_
  subst he
  exact ⟨_, rfl, _, _, _, [], _, [], hW', trodAll_mk1 (shut_bool Tryz.underlying4 _), (trodAll_cons_mk (Below.trod laidOut (by kernel_rfl) (of_decide_eq_true (by kernel_rfl)) k0 bel lt0) (trodAll_cons_mk (Below.trod laidOut (by kernel_rfl) (of_decide_eq_true (by kernel_rfl)) k1 bel lt1) trodAll_mk0)), rfl, bel.frame _, fun h => by cases h⟩

theorem over : Rows.plainRunsRow.holds Tryz.pinned (OpenSpec.ofChange Rows.plainRunsSpec) :=
  OpenClaim.holds_of_wide 3 Tryz.f3 rfl rfl rfl rfl rfl rfl rfl ⟨rfl, rfl, rfl, rfl, rfl⟩ rfl rfl rfl rfl rfl (by kernel_rfl) Tryz.func3 (by kernel_rfl)
    (of_decide_eq_true (by kernel_rfl)) (by unfold Func.isWrapper; first | (rw [if_pos (by decide +kernel)]; kernel_rfl) | (rw [if_neg (by decide +kernel)]; exact ⟨rfl, rfl⟩))
    (fun os started H enc _ => lifted os started H enc)

theorem proved : Rows.PlainRunsSaid := over
end Go.Proofs.YthkfaeplmmlnlaaGreat.plainRuns
