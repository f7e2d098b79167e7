/- Slices of whole numbers and of instructions that came in, with their bounds. -/
import Derived.Test.YtplhkplfbcmbdaaYZ28
import Derived.Test.YtplhkplfbcmbdaaYZ0
namespace Go.Proofs.Ytplhkplfbcmbdaa
open Go.ChangeShapes Go.WideShapes Go.ChangeAt Go.RowKit Go.Joins
set_option linter.unusedVariables false
set_option maxRecDepth 100000

section
variable {H : Type} {enc : TypeId × Value → H} {W : World}
theorem ints_rv {base fuel : Nat} {c : Value} {x : DataW H × List MemPlace} (hf : DataW.trod enc Try.prog W base (fun _ => true) true fuel 35 [c] = some x) : ∃ n d, Sl 1 (gW d) n c W ∧ ∀ i, r64v (d i) := by
  obtain ⟨a, len, cap, rfl⟩ := slice_cell Try.underlying35 hf
  have h : CellRows 1 (fun cs => ∃ x : Int, cs = [.int .i64 x] ∧ r64v x) W a len cap := by
    refine cellRows_of (C := 1) Try.underlying35 (by kernel_rfl) hf ?_
    intro cs m y hl hy
    obtain ⟨b, hb, _, hw⟩ := DataW.trod_int Try.underlying3 hy
    exact ⟨b, hb, i64_bd hw⟩
  obtain ⟨f, hf1, hs⟩ := rows_sl (by omega) h
  obtain ⟨d, hd⟩ := choose_fn 0 fun i hi => (hf1 i hi).2
  refine ⟨len, fun i => if i < len then d i else 0, hs.congr fun i hi j hj => ?_, fun i => ?_⟩
  · rcases (show j = 0 by omega) with rfl
    rw [(hd i hi).1]; simp [gW, hi]
  · by_cases hi : i < len
    · simp only [if_pos hi]; exact (hd i hi).2
    · simp only [if_neg hi]; unfold r64v; decide
theorem inss_rv {base fuel : Nat} {c : Value} {x : DataW H × List MemPlace} (hf : DataW.trod enc Try.prog W base (fun _ => true) true fuel 60 [c] = some x) : ∃ n f, Sl 4 (gI f) n c W ∧ ∀ i, r64v (f i).b := by
  obtain ⟨a, len, cap, rfl⟩ := slice_cell Try.underlying60 hf
  have h : CellRows 4 (fun cs => ∃ x : I4, cs = [.int .i64 x.op, .int .i64 x.a, .int .i64 x.b, .int .i64 x.c] ∧ r64v x.b) W a len cap := by
    refine cellRows_of (C := 4) Try.underlying60 (by kernel_rfl) hf ?_
    intro cs m y hl hy
    obtain ⟨c0, c1, c2, c3, rfl⟩ := list4 hl
    obtain ⟨m2, hs⟩ := struct_cells Try.underlying91 hy
    obtain ⟨y0, g0⟩ := hs 0 3 0 1 rfl (by kernel_rfl)
    obtain ⟨a0, e0, _, b0⟩ := DataW.trod_int Try.underlying3 g0
    obtain rfl : c0 = .int .i64 a0 := by simpa using e0
    obtain ⟨y1, g1⟩ := hs 1 3 1 1 rfl (by kernel_rfl)
    obtain ⟨a1, e1, _, b1⟩ := DataW.trod_int Try.underlying3 g1
    obtain rfl : c1 = .int .i64 a1 := by simpa using e1
    obtain ⟨y2, g2⟩ := hs 2 3 2 1 rfl (by kernel_rfl)
    obtain ⟨a2, e2, _, b2⟩ := DataW.trod_int Try.underlying3 g2
    obtain rfl : c2 = .int .i64 a2 := by simpa using e2
    obtain ⟨y3, g3⟩ := hs 3 3 3 1 rfl (by kernel_rfl)
    obtain ⟨a3, e3, _, b3⟩ := DataW.trod_int Try.underlying3 g3
    obtain rfl : c3 = .int .i64 a3 := by simpa using e3
    exact ⟨⟨a0, a1, a2, a3⟩, rfl, i64_bd b2⟩
  obtain ⟨f, hf1, hs⟩ := rows_sl (by omega) h
  obtain ⟨d, hd⟩ := choose_fn (⟨0, 0, 0, 0⟩ : I4) fun i hi => (hf1 i hi).2
  refine ⟨len, fun i => if i < len then d i else ⟨0, 0, 0, 0⟩, hs.congr fun i hi j hj => ?_, fun i => ?_⟩
  · rcases (show j = 0 ∨ j = 1 ∨ j = 2 ∨ j = 3 by omega) with rfl | rfl | rfl | rfl <;> (rw [(hd i hi).1]; simp [gI, hi])
  · by_cases hi : i < len
    · simp only [if_pos hi]; exact (hd i hi).2
    · simp only [if_neg hi]; unfold r64v; decide
end

end Go.Proofs.Ytplhkplfbcmbdaa
