/- What came in, opened: a slice of stage 12's acts. -/
import Derived.Test.YtbjmdejnipleoaaRowsAid
import Derived.Test.YtbjmdejnipleoaaFmLaw1
namespace Go.Proofs.Ytbjmdejnipleoaa
open Go.ChangeShapes Go.WideShapes Go.ChangeAt Go.RowKit Go.Joins
set_option linter.unusedVariables false
set_option maxRecDepth 100000

section
variable {H : Type} {enc : TypeId × Value → H} {W : World}
def fasV (x : Int × Int) : List Value := [.int .i64 x.1, .int .i64 x.2]
theorem fas_cells {base fuel : Nat} {l : List Value} {x : DataW H × List MemPlace} (hl : l.length = 2) (hf : DataW.trod enc Try.prog W base (fun _ => true) true fuel 40 l = some x) :
    ∃ y : Int × Int, l = fasV y := by
  obtain ⟨c0, c1, rfl⟩ : ∃ a b, l = [a, b] := by
    match l, hl with
    | [a, b], _ => exact ⟨a, b, rfl⟩
  obtain ⟨n, hs⟩ := struct_cells Try.underlying40 hf
  obtain ⟨y0, g0⟩ := hs 0 3 0 1 rfl (by kernel_rfl)
  obtain ⟨a0, e0, _, w0⟩ := DataW.trod_int Try.underlying3 g0
  obtain rfl : c0 = .int .i64 a0 := by simpa using e0
  obtain ⟨y1, g1⟩ := hs 1 3 1 1 rfl (by kernel_rfl)
  obtain ⟨a1, e1, _, w1⟩ := DataW.trod_int Try.underlying3 g1
  obtain rfl : c1 = .int .i64 a1 := by simpa using e1
  exact ⟨(a0, a1), rfl⟩
theorem open_fas {r : Reach} {b0 base : Nat} {v : Value} {d : DataW H} {p : List MemPlace} (hv : Value.okWide Try.prog W r b0 22 v) (h : DataW.Trod enc Try.prog W base (fun _ => true) true 22 v d p) :
    ∃ (n : Nat) (A : Nat → Int × Int) (ao : Option Addr) (cap : Nat), v = .slice ao n cap ∧ FasAt W.heap.size n A ao cap W := by
  obtain ⟨ao, len, cap, rfl⟩ := okWide_slice Try.underlying22 hv
  obtain ⟨fuel, hf⟩ := h
  have h : CellRows 2 (fun cs => ∃ x : Int × Int, cs = fasV x) W ao len cap := by
    refine cellRows_of (C := 2) Try.underlying22 (by kernel_rfl) (by simpa [Value.cells] using hf) ?_
    intro cs m y hl hy
    exact fas_cells hl hy
  obtain ⟨f, hf1, hs⟩ := rows_sl (by omega) h
  obtain ⟨d, hd⟩ := choose_fn ((0, 0) : Int × Int) fun i hi => (hf1 i hi).2
  obtain ⟨a1, c1, e1, s1, s2, s3⟩ := hs
  simp only [Value.slice.injEq, true_and] at e1
  obtain ⟨rfl, rfl⟩ := e1
  refine ⟨len, d, ao, cap, rfl, ⟨s1, s2⟩, fun hn => ?_⟩
  obtain ⟨B, o, e2, hA⟩ := s3 hn
  refine ⟨B, o, e2, hA.1, fun i hi => ?_⟩
  have h0 := hA.2 i hi 0 (by omega)
  have h1 := hA.2 i hi 1 (by omega)
  rw [Nat.add_zero] at h0
  refine ⟨h0.trans ?_, h1.trans ?_⟩
  · show some ((f i).getD 0 undef) = _
    rw [hd i hi]
    rfl
  · show some ((f i).getD 1 undef) = _
    rw [hd i hi]
    rfl
end

end Go.Proofs.Ytbjmdejnipleoaa
