/- Rows.StampFirstSaid: for every input the law 'horologe/horologelaw02.StampFirst' returns true and leaves its arguments as they were. No condition. The walk is 'stampFirst_walk' (StampFirst); this text is the frame. -/
import Derived.Test.YtlcfibmgegjklaaStampFirst
import Derived.Test.YtlcfibmgegjklaaFrameAid
namespace Go.Proofs.Ytlcfibmgegjklaa.stampFirst
open Go.ChangeShapes Go.WideShapes Go.ChangeAt Go.RowKit Go.Joins
open Go.ChangeMaps (open_string shut_string)
set_option linter.unusedVariables false

theorem own : ownKnob Try.prog.godebug = none := by kernel_rfl
theorem laidOut : laidOutB Try.prog = true := by kernel_rfl

set_option maxRecDepth 100000 in
theorem lifted (os : Os) (started : os.Started) (H : Type) (enc : TypeId × Value → H) :
    ReturnsInHanded {} Try.checked os 10 .any (Rows.stampFirstSpec.pre6 enc Try.prog Try.f10 Rows.stampFirstRow.domain false) (Rows.stampFirstSpec.post enc Try.prog Try.f10 false true false false) := by
  refine returnsInHanded_of_change (C := Try.checked) own started (by kernel_rfl) Try.func10
    (ChangeSpec.witness6 (enc := enc) (C := Try.checked) false ⟨#[], #[.slice none 0 0], []⟩ 8 (by kernel_rfl) (by kernel_rfl) (by kernel_rfl) (by kernel_rfl)) ?_
  intro W base args ds gs before hval0 hW hcnd _
  have hval : ∀ (j : Nat) t v, Try.f10.params[j]? = some t → args[j]? = some v → Value.okWide Try.prog W .any base t v := hval0
  have hW' := hW
  obtain ⟨p, q, hA0, hV, rfl, hfz, hnd⟩ := hW
  have hA : DataW.TrodAll enc Try.prog W 0 (fun _ => true) true Try.f10.params.toList args.toList ds p := hA0
  rw [Try.params10] at hA hval
  obtain ⟨v0, vs0, d0, ds0, p0, q0, hargs, rfl, rfl, h0, r0⟩ := trodAll_cons hA
  obtain ⟨rfl, rfl, rfl⟩ := trodAll_nil r0
  obtain rfl : args = #[v0] := by cases args; simp_all
  obtain ⟨rfl, rfl⟩ := trodVars_none hV
  have k0 := h0
  have lt0 : ∀ x ∈ p0, x.block < W.heap.size := by obtain ⟨m, hm⟩ := k0; exact DataW.trod_lt m _ _ _ hm
  obtain ⟨b0, len0, cap0, rfl⟩ := okWide_slice Try.underlying42 (hval 0 42 v0 rfl rfl)
  have w0 : CellRows 3 (fun cs : List Value => ∃ (x0 : Nat) (x1 : Int) (x2 : Int), cs = [.float .f64 x0, .int .i64 x1, .int .i64 x2] ∧ (Lit.float .f64 x0).wf = true ∧ (Lit.int .i64 x1).wf = true ∧ (Lit.int .i64 x2).wf = true) W b0 len0 cap0 := by
    obtain ⟨fuel, hf⟩ := h0
    refine cellRows_of (C := 3) Try.underlying42 (by kernel_rfl) (by simpa [Value.cells] using hf) ?_
    intro cs m y hl hy
    obtain ⟨c0_0, c0_1, c0_2, rfl⟩ : ∃ c0_0 c0_1 c0_2, cs = [c0_0, c0_1, c0_2] := list3 hl
    obtain ⟨m2, hs0⟩ := struct_cells Try.underlying30 hy
    obtain ⟨yghs0_0, ghs0_0⟩ := hs0 0 22 0 1 rfl (by kernel_rfl)
    obtain ⟨a0_0, e0_0, w0_0⟩ := trod_float_cell Try.underlying22 ghs0_0
    obtain rfl : c0_0 = .float .f64 a0_0 := by simpa using e0_0
    obtain ⟨yghs0_1, ghs0_1⟩ := hs0 1 3 1 1 rfl (by kernel_rfl)
    obtain ⟨a0_1, e0_1, _, w0_1⟩ := DataW.trod_int Try.underlying3 ghs0_1
    obtain rfl : c0_1 = .int .i64 a0_1 := by simpa using e0_1
    obtain ⟨yghs0_2, ghs0_2⟩ := hs0 2 3 2 1 rfl (by kernel_rfl)
    obtain ⟨a0_2, e0_2, _, w0_2⟩ := DataW.trod_int Try.underlying3 ghs0_2
    obtain rfl : c0_2 = .int .i64 a0_2 := by simpa using e0_2
    exact ⟨a0_0, a0_1, a0_2, rfl, w0_0, w0_1, w0_2⟩
  clear hA0 hval0
  refine (stampFirst_walk b0 len0 cap0 W w0).mono fun e W' ⟨he, bel⟩ => ?_
  subst he
  exact ⟨_, rfl, _, _, _, [], _, [], hW', trodAll_mk1 (shut_bool Try.underlying4 _), (trodAll_cons_mk (Below.trod laidOut (by kernel_rfl) (of_decide_eq_true (by kernel_rfl)) k0 bel lt0) trodAll_mk0), rfl, bel.frame _, fun h => by cases h⟩

theorem over : Rows.stampFirstRow.holds Try.pinned (OpenSpec.ofChange Rows.stampFirstSpec) :=
  OpenClaim.holds_of_wide 10 Try.f10 rfl rfl rfl rfl rfl rfl rfl ⟨rfl, rfl, rfl, rfl, rfl⟩ rfl rfl rfl rfl rfl (by kernel_rfl) Try.func10 (by kernel_rfl)
    (of_decide_eq_true (by kernel_rfl)) (by unfold Func.isWrapper; first | (rw [if_pos (by decide +kernel)]; kernel_rfl) | (rw [if_neg (by decide +kernel)]; exact ⟨rfl, rfl⟩))
    (fun os started H enc _ => lifted os started H enc)

theorem proved : Rows.StampFirstSaid := over
end Go.Proofs.Ytlcfibmgegjklaa.stampFirst
