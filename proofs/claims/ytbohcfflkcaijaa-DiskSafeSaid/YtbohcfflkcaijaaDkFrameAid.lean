/- What came in, opened: a crash, a call, a slice of calls. -/
import Derived.Test.YtbohcfflkcaijaaRowsAid
import Derived.Test.YtbohcfflkcaijaaDkLaw1
namespace Go.Proofs.Ytbohcfflkcaijaa
open Go.ChangeShapes Go.WideShapes Go.ChangeAt Go.RowKit Go.Joins
set_option linter.unusedVariables false
set_option maxRecDepth 100000

section
variable {H : Type} {enc : TypeId × Value → H} {W : World}
theorem bools_of {base fuel : Nat} {c : Value} {x : DataW H × List MemPlace} (hf : DataW.trod enc Try.prog W base (fun _ => true) true fuel 32 [c] = some x) : ∃ l : List Bool, Sl 1 (fun i _ => .bool (l.getD i false)) l.length c W := by
  obtain ⟨a, len, cap, rfl⟩ := slice_cell Try.underlying32 hf
  have h : CellRows 1 (fun cs => ∃ x : Bool, cs = [.bool x]) W a len cap := by
    refine cellRows_of (C := 1) Try.underlying32 (by kernel_rfl) hf ?_
    intro cs m y hl hy
    obtain ⟨b, hb, _⟩ := DataW.trod_bool Try.underlying4 hy
    exact ⟨b, hb⟩
  obtain ⟨f, hf1, hs⟩ := rows_sl (by omega) h
  obtain ⟨d, hd⟩ := choose_fn false fun i hi => (hf1 i hi).2
  have hlen : ((List.range len).map d).length = len := by simp
  refine ⟨(List.range len).map d, ?_⟩
  rw [hlen]
  refine hs.congr fun i hi j hj => ?_
  rcases (show j = 0 by omega) with rfl
  have e9 : ((List.range len).map d).getD i false = d i := by rw [List.getD_eq_getElem?_getD, List.getElem?_map, List.getElem?_range hi]; rfl
  rw [hd i hi, e9]; rfl
theorem crA_of {l : List Bool} {t b : Int} {c : Value} (h : Sl 1 (fun i _ => .bool (l.getD i false)) l.length c W) (ht : bd64 t) (hb : bd64 b) : CrA W.heap.size l t b c W := by
  obtain ⟨ao, cap, e, h1, h2, h3⟩ := h
  refine ⟨⟨ao, cap, e, h1, h2, fun hn => ?_⟩, ht, hb⟩
  obtain ⟨B, o, e2, hA⟩ := h3 hn
  exact ⟨B, o, e2, hA.1, fun i hi => by have := hA.2 i hi 0 (by omega); rwa [Nat.mul_one, Nat.add_zero] at this⟩
theorem bd_wf {x : Int} (h : (Lit.int .i64 x).wf = true) : bd64 x := by
  have := i64_bd h
  unfold bd64
  omega
/-- a crash's three cells -/
theorem crash_cells {base fuel : Nat} {l : List Value} {x : DataW H × List MemPlace} (hl : l.length = 3) (hf : DataW.trod enc Try.prog W base (fun _ => true) true fuel 38 l = some x) :
    ∃ (keep : List Bool) (t b : Int) (v : Value), l = [v, .int .i64 t, .int .i64 b] ∧ CrA W.heap.size keep t b v W := by
  obtain ⟨c0, c1, c2, rfl⟩ := list3 hl
  obtain ⟨n, hs⟩ := struct_cells Try.underlying38 hf
  obtain ⟨y0, g0⟩ := hs 0 32 0 1 rfl (by kernel_rfl)
  obtain ⟨y1, g1⟩ := hs 1 3 1 1 rfl (by kernel_rfl)
  obtain ⟨a1, e1, _, w1⟩ := DataW.trod_int Try.underlying3 g1
  obtain rfl : c1 = .int .i64 a1 := by simpa using e1
  obtain ⟨y2, g2⟩ := hs 2 3 2 1 rfl (by kernel_rfl)
  obtain ⟨a2, e2, _, w2⟩ := DataW.trod_int Try.underlying3 g2
  obtain rfl : c2 = .int .i64 a2 := by simpa using e2
  obtain ⟨k, hk⟩ := bools_of g0
  exact ⟨k, a1, a2, c0, rfl, crA_of hk (bd_wf w1) (bd_wf w2)⟩
/-- a call's six cells -/
theorem act_cells {base fuel : Nat} {l : List Value} {x : DataW H × List MemPlace} (hl : l.length = 6) (hf : DataW.trod enc Try.prog W base (fun _ => true) true fuel 49 l = some x) :
    ∃ (a : Ac) (v : Value), l = acV a v ∧ AcAt W.heap.size a v W := by
  obtain ⟨c0, c1, c2, c3, c4, c5, rfl⟩ := list6 hl
  obtain ⟨n, hs⟩ := struct_cells Try.underlying49 hf
  obtain ⟨y0, g0⟩ := hs 0 3 0 1 rfl (by kernel_rfl)
  obtain ⟨a0, e0, _, w0⟩ := DataW.trod_int Try.underlying3 g0
  obtain rfl : c0 = .int .i64 a0 := by simpa using e0
  obtain ⟨y1, g1⟩ := hs 1 3 1 1 rfl (by kernel_rfl)
  obtain ⟨a1, e1, _, w1⟩ := DataW.trod_int Try.underlying3 g1
  obtain rfl : c1 = .int .i64 a1 := by simpa using e1
  obtain ⟨y2, g2⟩ := hs 2 9 2 1 rfl (by kernel_rfl)
  obtain ⟨a2, e2, _, w2⟩ := DataW.trod_string Try.underlying9 g2
  obtain rfl : c2 = .string a2 := by simpa using e2
  obtain ⟨y3, g3⟩ := hs 3 38 3 3 rfl (by kernel_rfl)
  obtain ⟨k, t, b, v, e3, h3⟩ := crash_cells (l := [c3, c4, c5]) rfl g3
  simp only [List.cons.injEq, and_true] at e3
  obtain ⟨rfl, rfl, rfl⟩ := e3
  exact ⟨⟨a0, a1, a2, k, t, b⟩, c3, rfl, bd_wf w0, bd_wf w1, by unfold maxLen at w2; omega, h3⟩
theorem open_act {r : Reach} {b0 base : Nat} {v : Value} {d : DataW H} {p : List MemPlace} (hv : Value.okWide Try.prog W r b0 49 v) (h : DataW.Trod enc Try.prog W base (fun _ => true) true 49 v d p) :
    ∃ (a : Ac) (vK : Value), v = .agg (acV a vK).toArray ∧ AcAt W.heap.size a vK W := by
  obtain ⟨cs, n, rfl, hl, hs⟩ := open_struct Try.underlying49 hv h
  obtain ⟨fuel, hf⟩ := h
  obtain ⟨a, vK, e, h1⟩ := act_cells (by rw [hl]; kernel_rfl) (by simpa [Value.cells] using hf)
  exact ⟨a, vK, by rw [e], h1⟩
theorem open_crash {r : Reach} {b0 base : Nat} {v : Value} {d : DataW H} {p : List MemPlace} (hv : Value.okWide Try.prog W r b0 38 v) (h : DataW.Trod enc Try.prog W base (fun _ => true) true 38 v d p) :
    ∃ (keep : List Bool) (t b : Int) (vK : Value), v = .agg #[vK, .int .i64 t, .int .i64 b] ∧ CrA W.heap.size keep t b vK W := by
  obtain ⟨cs, n, rfl, hl, hs⟩ := open_struct Try.underlying38 hv h
  obtain ⟨fuel, hf⟩ := h
  obtain ⟨k, t, b, vK, e, h1⟩ := crash_cells (by rw [hl]; kernel_rfl) (by simpa [Value.cells] using hf)
  exact ⟨k, t, b, vK, by rw [e], h1⟩
theorem open_acts {r : Reach} {b0 base : Nat} {v : Value} {d : DataW H} {p : List MemPlace} (hv : Value.okWide Try.prog W r b0 22 v) (h : DataW.Trod enc Try.prog W base (fun _ => true) true 22 v d p) :
    ∃ (n : Nat) (A : Nat → Ac) (g : Nat → Value) (ao : Option Addr) (cap : Nat), v = .slice ao n cap ∧ AcsAt W.heap.size n A g ao cap W := by
  obtain ⟨ao, len, cap, rfl⟩ := okWide_slice Try.underlying22 hv
  obtain ⟨fuel, hf⟩ := h
  have h : CellRows 6 (fun cs => ∃ x : Ac × Value, cs = acV x.1 x.2 ∧ AcAt W.heap.size x.1 x.2 W) W ao len cap := by
    refine cellRows_of (C := 6) Try.underlying22 (by kernel_rfl) (by simpa [Value.cells] using hf) ?_
    intro cs m y hl hy
    obtain ⟨a, vK, e, h1⟩ := act_cells hl hy
    exact ⟨(a, vK), e, h1⟩
  obtain ⟨f, hf1, hs⟩ := rows_sl (by omega) h
  obtain ⟨d, hd⟩ := choose_fn ((⟨0, 0, ByteArray.empty, [], 0, 0⟩, undef) : Ac × Value) fun i hi => (hf1 i hi).2
  obtain ⟨a1, c1, e1, s1, s2, s3⟩ := hs
  simp only [Value.slice.injEq, true_and] at e1
  obtain ⟨rfl, rfl⟩ := e1
  refine ⟨len, fun i => (d i).1, fun i => (d i).2, ao, cap, rfl, ⟨s1, s2⟩, fun hn => ?_, fun i hi => (hd i hi).2⟩
  obtain ⟨B, o, e2, hA⟩ := s3 hn
  refine ⟨B, o, e2, hA.1, fun i hi j hj => ?_⟩
  rw [hA.2 i hi j hj]
  show some ((f i).getD j undef) = _
  rw [(hd i hi).1]
  have hl : (acV (d i).1 (d i).2).length = 6 := rfl
  rw [List.getD_eq_getElem?_getD, List.getElem?_eq_getElem (by omega)]
  rfl
end

end Go.Proofs.Ytbohcfflkcaijaa
