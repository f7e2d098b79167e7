/- What came in, opened: a model with the bounds of its instructions, a state, an event, a case. -/
import Derived.Test.YtplhkplfbcmbdaaYModelFrameAid
import Derived.Test.YtplhkplfbcmbdaaYRvAid
import Derived.Test.YtplhkplfbcmbdaaYZ27
import Derived.Test.YtplhkplfbcmbdaaYZ24
namespace Go.Proofs.Ytplhkplfbcmbdaa
open Go.ChangeShapes Go.WideShapes Go.ChangeAt Go.RowKit Go.Joins
set_option linter.unusedVariables false
set_option maxRecDepth 100000

section
variable {H : Type} {enc : TypeId × Value → H} {W : World}
theorem pgs_rv {base fuel : Nat} {c : Value} {x : DataW H × List MemPlace} (hf : DataW.trod enc Try.prog W base (fun _ => true) true fuel 24 [c] = some x) : ∃ n pl pr, Pgs n pl pr c W ∧ ∀ i k, r64v (pr i k).b := by
  obtain ⟨a, len, cap, rfl⟩ := slice_cell Try.underlying24 hf
  have h : CellRows 1 (fun cs => ∃ x : Value × Nat × (Nat → I4), cs = [x.1] ∧ Sl 4 (gI x.2.2) x.2.1 x.1 W ∧ ∀ k, r64v (x.2.2 k).b) W a len cap := by
    refine cellRows_of (C := 1) Try.underlying24 (by kernel_rfl) hf ?_
    intro cs m y hl hy
    obtain ⟨c0, rfl⟩ := list1 hl
    obtain ⟨n, f, hs, hr⟩ := inss_rv hy
    exact ⟨(c0, n, f), rfl, hs, hr⟩
  obtain ⟨f, hf1, hs⟩ := rows_sl (by omega) h
  obtain ⟨d, hd⟩ := choose_fn ((undef, 0, fun _ => ⟨0, 0, 0, 0⟩) : Value × Nat × (Nat → I4)) fun i hi => (hf1 i hi).2
  refine ⟨len, fun i => (d i).2.1, fun i => if i < len then (d i).2.2 else fun _ => ⟨0, 0, 0, 0⟩, ⟨fun i => (d i).1, hs.congr fun i hi j hj => ?_, fun i hi => ?_⟩, fun i k => ?_⟩
  · rcases (show j = 0 by omega) with rfl
    rw [(hd i hi).1]; rfl
  · simp only [if_pos hi]; exact (hd i hi).2.1
  · by_cases hi : i < len
    · simp only [if_pos hi]; exact (hd i hi).2.2 k
    · simp only [if_neg hi]; unfold r64v; decide
/-- a model's six cells -/
theorem mdl_cells {base fuel : Nat} {l : List Value} {x : DataW H × List MemPlace} (hl : l.length = 6) (hf : DataW.trod enc Try.prog W base (fun _ => true) true fuel 28 l = some x) :
    ∃ (m : Mdl) (vd vp vl vi : Value), l = [.int .i64 m.seed, .float .f64 m.fin, vd, vp, vl, vi] ∧ MdlAt m vd vp vl vi W ∧ ∀ p k, r64v (m.pr p k).b := by
  obtain ⟨c0, c1, c2, c3, c4, c5, rfl⟩ := list6 hl
  obtain ⟨n, hs⟩ := struct_cells Try.underlying28 hf
  obtain ⟨y0, g0⟩ := hs 0 3 0 1 rfl (by kernel_rfl)
  obtain ⟨a0, e0, _⟩ := DataW.trod_int Try.underlying3 g0
  obtain rfl : c0 = .int .i64 a0 := by simpa using e0
  obtain ⟨y1, g1⟩ := hs 1 22 1 1 rfl (by kernel_rfl)
  obtain ⟨a1, e1, _⟩ := trod_float_cell Try.underlying22 g1
  obtain rfl : c1 = .float .f64 a1 := by simpa using e1
  obtain ⟨y2, g2⟩ := hs 2 23 2 1 rfl (by kernel_rfl)
  obtain ⟨y3, g3⟩ := hs 3 24 3 1 rfl (by kernel_rfl)
  obtain ⟨y4, g4⟩ := hs 4 25 4 1 rfl (by kernel_rfl)
  obtain ⟨y5, g5⟩ := hs 5 26 5 1 rfl (by kernel_rfl)
  obtain ⟨nd, fd, hd⟩ := floats_of g2
  obtain ⟨np, pl, pr, hp, rp⟩ := pgs_rv g3
  obtain ⟨nl, lp, wl, wd, hl⟩ := lps_of g4
  obtain ⟨ni, ev, hi⟩ := evs_of g5
  exact ⟨⟨a0, a1, nd, fd, np, pl, pr, nl, lp, wl, wd, ni, ev⟩, c2, c3, c4, c5, rfl, ⟨hd, hp, hl, hi⟩, rp⟩
/-- a state's three cells -/
theorem sta_cells {base fuel : Nat} {l : List Value} {x : DataW H × List MemPlace} (hl : l.length = 3) (hf : DataW.trod enc Try.prog W base (fun _ => true) true fuel 37 l = some x) :
    ∃ (s : Sta) (vI : Value), l = [vI, .int .i64 s.sent, .int .i64 s.dice] ∧ Sl 1 (gW s.w) s.nw vI W ∧ ∀ i, r64v (s.w i) := by
  obtain ⟨c0, c1, c2, rfl⟩ := list3 hl
  obtain ⟨n, hs⟩ := struct_cells Try.underlying37 hf
  obtain ⟨y0, g0⟩ := hs 0 35 0 1 rfl (by kernel_rfl)
  obtain ⟨y1, g1⟩ := hs 1 3 1 1 rfl (by kernel_rfl)
  obtain ⟨a1, e1, _⟩ := DataW.trod_int Try.underlying3 g1
  obtain rfl : c1 = .int .i64 a1 := by simpa using e1
  obtain ⟨y2, g2⟩ := hs 2 3 2 1 rfl (by kernel_rfl)
  obtain ⟨a2, e2, _⟩ := DataW.trod_int Try.underlying3 g2
  obtain rfl : c2 = .int .i64 a2 := by simpa using e2
  obtain ⟨nw, f, h1, h2⟩ := ints_rv g0
  exact ⟨⟨nw, f, a1, a2⟩, c0, rfl, h1, h2⟩
/-- an event's five cells -/
theorem evt_cells {base fuel : Nat} {l : List Value} {x : DataW H × List MemPlace} (hl : l.length = 5) (hf : DataW.trod enc Try.prog W base (fun _ => true) true fuel 49 l = some x) :
    ∃ e : Evn, l = [.float .f64 e.t, .int .i64 e.src, .int .i64 e.n, .int .i64 e.dst, .int .i64 e.pay] ∧ r64v e.pay := by
  obtain ⟨c0, c1, c2, c3, c4, rfl⟩ := list5 hl
  obtain ⟨n, hs⟩ := struct_cells Try.underlying49 hf
  obtain ⟨y0, g0⟩ := hs 0 47 0 3 rfl (by kernel_rfl)
  obtain ⟨n2, hs2⟩ := struct_cells Try.underlying47 g0
  obtain ⟨z0, k0⟩ := hs2 0 22 0 1 rfl (by kernel_rfl)
  obtain ⟨a0, e0, _⟩ := trod_float_cell Try.underlying22 k0
  obtain rfl : c0 = .float .f64 a0 := by simpa using e0
  obtain ⟨z1, k1⟩ := hs2 1 3 1 1 rfl (by kernel_rfl)
  obtain ⟨a1, e1, _⟩ := DataW.trod_int Try.underlying3 k1
  obtain rfl : c1 = .int .i64 a1 := by simpa using e1
  obtain ⟨z2, k2⟩ := hs2 2 3 2 1 rfl (by kernel_rfl)
  obtain ⟨a2, e2, _⟩ := DataW.trod_int Try.underlying3 k2
  obtain rfl : c2 = .int .i64 a2 := by simpa using e2
  obtain ⟨y3, g3⟩ := hs 1 3 3 1 rfl (by kernel_rfl)
  obtain ⟨a3, e3, _⟩ := DataW.trod_int Try.underlying3 g3
  obtain rfl : c3 = .int .i64 a3 := by simpa using e3
  obtain ⟨y4, g4⟩ := hs 2 3 4 1 rfl (by kernel_rfl)
  obtain ⟨a4, e4, _, b4⟩ := DataW.trod_int Try.underlying3 g4
  obtain rfl : c4 = .int .i64 a4 := by simpa using e4
  exact ⟨⟨a0, a1, a2, a3, a4⟩, rfl, i64_bd b4⟩
theorem open_state8 {r : Reach} {b0 base : Nat} {v : Value} {d : DataW H} {p : List MemPlace} (hv : Value.okWide Try.prog W r b0 37 v) (h : DataW.Trod enc Try.prog W base (fun _ => true) true 37 v d p) :
    ∃ (s : Sta) (vI : Value), v = sval s vI ∧ Sl 1 (gW s.w) s.nw vI W := by
  obtain ⟨cs, n, rfl, hl, hs⟩ := open_struct Try.underlying37 hv h
  obtain ⟨fuel, hf⟩ := h
  obtain ⟨s, vI, e, h1, _⟩ := sta_cells (by rw [hl]; kernel_rfl) (by simpa [Value.cells] using hf)
  exact ⟨s, vI, by unfold sval; rw [e], h1⟩
theorem open_event8 {r : Reach} {b0 base : Nat} {v : Value} {d : DataW H} {p : List MemPlace} (hv : Value.okWide Try.prog W r b0 49 v) (h : DataW.Trod enc Try.prog W base (fun _ => true) true 49 v d p) :
    ∃ e : Evn, v = eval8 e := by
  obtain ⟨cs, n, rfl, hl, hs⟩ := open_struct Try.underlying49 hv h
  obtain ⟨fuel, hf⟩ := h
  obtain ⟨e, e1, _⟩ := evt_cells (by rw [hl]; kernel_rfl) (by simpa [Value.cells] using hf)
  exact ⟨e, by unfold eval8; rw [e1]⟩
theorem open_case8 {r : Reach} {b0 base : Nat} {v : Value} {d : DataW H} {p : List MemPlace} (hv : Value.okWide Try.prog W r b0 51 v) (h : DataW.Trod enc Try.prog W base (fun _ => true) true 51 v d p) :
    ∃ (m : Mdl) (vd vp vl vi : Value) (lp : Int) (s : Sta) (vI : Value) (e : Evn), v = cval m vd vp vl vi lp s vI e ∧ MdlAt m vd vp vl vi W ∧ Sl 1 (gW s.w) s.nw vI W ∧ (∀ p k, r64v (m.pr p k).b) ∧ Bd (beginM (inpOf m lp s e)) := by
  obtain ⟨cs, n, rfl, hl, hs⟩ := open_struct Try.underlying51 hv h
  have hm : Try.prog.cellsOf 51 = 15 := by kernel_rfl
  rw [hm] at hl
  obtain ⟨y0, g0⟩ := hs 0 28 0 6 rfl (by kernel_rfl)
  obtain ⟨y1, g1⟩ := hs 1 3 6 1 rfl (by kernel_rfl)
  obtain ⟨y2, g2⟩ := hs 2 37 7 3 rfl (by kernel_rfl)
  obtain ⟨y3, g3⟩ := hs 3 49 10 5 rfl (by kernel_rfl)
  obtain ⟨m, vd, vp, vl, vi, e0, h1, h2⟩ := mdl_cells (by simp; omega) g0
  obtain ⟨lp, e1, _, b1⟩ := DataW.trod_int Try.underlying3 g1
  obtain ⟨s, vI, e2, h3, h4⟩ := sta_cells (by simp; omega) g2
  obtain ⟨e, e3, h5⟩ := evt_cells (by simp; omega) g3
  have ec : cs = (cs.drop 0).take 6 ++ ((cs.drop 6).take 1 ++ ((cs.drop 7).take 3 ++ (cs.drop 10).take 5)) := by
    have t1 : (cs.drop 10).take 5 = cs.drop 10 := List.take_of_length_le (by simp; omega)
    have t2 : (cs.drop 7).take 3 ++ cs.drop 10 = cs.drop 7 := by have := List.take_append_drop 3 (cs.drop 7); rwa [List.drop_drop] at this
    have t3 : (cs.drop 6).take 1 ++ cs.drop 7 = cs.drop 6 := by have := List.take_append_drop 1 (cs.drop 6); rwa [List.drop_drop] at this
    have t4 : cs.take 6 ++ cs.drop 6 = cs := List.take_append_drop 6 cs
    rw [t1, t2, t3, List.drop_zero, t4]
  refine ⟨m, vd, vp, vl, vi, lp, s, vI, e, ?_, h1, h3, h2, bd_begin h5 (i64_bd b1) ?_ ?_ h4⟩
  · unfold cval
    rw [ec, e0, e1, e2, e3]
    rfl
  · obtain ⟨_, ⟨_, cap, _, q1, q2, _⟩, _⟩ := h1.l
    show r64v (m.nl : Int)
    unfold r64v
    omega
  · obtain ⟨_, cap, _, q1, q2, _⟩ := h3
    exact Nat.le_trans q1 q2
end

end Go.Proofs.Ytplhkplfbcmbdaa
