/- Rows.RootPartsSaid: for every input the law 'horologe/horologelaw13.RootParts' returns true and leaves its arguments as they were. No condition. The walk is 'rootParts_of rt_is' (RtIs); this text is the frame. -/
import Derived.Test.YtaaagmcdbmppmaaYRtIs
import Derived.Test.YtaaagmcdbmppmaaYFrameAid
namespace Go.Proofs.Ytaaagmcdbmppmaa.rootParts
open Go.ChangeShapes Go.WideShapes Go.ChangeAt Go.RowKit Go.Joins
open Go.ChangeMaps (open_string shut_string)
set_option linter.unusedVariables false

theorem own : ownKnob Try.prog.godebug = none := by kernel_rfl
theorem laidOut : laidOutB Try.prog = true := by kernel_rfl

set_option maxRecDepth 100000 in
theorem lifted (os : Os) (started : os.Started) (H : Type) (enc : TypeId × Value → H) :
    ReturnsInHanded {} Try.checked os 4 .any (Rows.rootPartsSpec.pre6 enc Try.prog Try.f4 Rows.rootPartsRow.domain false) (Rows.rootPartsSpec.post enc Try.prog Try.f4 false true false false) := by
  refine returnsInHanded_of_change (C := Try.checked) own started (by kernel_rfl) Try.func4
    (ChangeSpec.witness6 (enc := enc) (C := Try.checked) false ⟨#[], #[.agg #[.slice none 0 0, .int .i64 0, .string ⟨#[]⟩, .int .i64 0]], []⟩ 8 (by kernel_rfl) (by kernel_rfl) (by kernel_rfl) (by kernel_rfl)) ?_
  intro W base args ds gs before hval0 hW hcnd _
  have hval : ∀ (j : Nat) t v, Try.f4.params[j]? = some t → args[j]? = some v → Value.okWide Try.prog W .any base t v := hval0
  have hW' := hW
  obtain ⟨p, q, hA0, hV, rfl, hfz, hnd⟩ := hW
  have hA : DataW.TrodAll enc Try.prog W 0 (fun _ => true) true Try.f4.params.toList args.toList ds p := hA0
  rw [Try.params4] at hA hval
  obtain ⟨v0, vs0, d0, ds0, p0, q0, hargs, rfl, rfl, h0, r0⟩ := trodAll_cons hA
  obtain ⟨rfl, rfl, rfl⟩ := trodAll_nil r0
  obtain rfl : args = #[v0] := by cases args; simp_all
  obtain ⟨rfl, rfl⟩ := trodVars_none hV
  have k0 := h0
  have lt0 : ∀ x ∈ p0, x.block < W.heap.size := by obtain ⟨m, hm⟩ := k0; exact DataW.trod_lt m _ _ _ hm
  obtain ⟨cs0, m0, rfl, hl0, hs0⟩ := open_struct Try.underlying37 (hval 0 37 v0 rfl rfl) h0
  have hm0 : Try.prog.cellsOf 37 = 4 := by kernel_rfl
  rw [hm0] at hl0
  obtain ⟨c0_0, c0_1, c0_2, c0_3, rfl⟩ : ∃ c0_0 c0_1 c0_2 c0_3, cs0 = [c0_0, c0_1, c0_2, c0_3] := list4 hl0
  obtain ⟨yghs0_0, ghs0_0⟩ := hs0 0 22 0 1 rfl (by kernel_rfl)
  obtain ⟨a0_0, len0_0, cap0_0, z0_0, e0_0, w0_0⟩ := isRow_cell Try.underlying22 Try.underlying3 (by kernel_rfl) ghs0_0
  subst e0_0
  obtain ⟨yghs0_1, ghs0_1⟩ := hs0 1 3 1 1 rfl (by kernel_rfl)
  obtain ⟨a0_1, e0_1, _, w0_1⟩ := DataW.trod_int Try.underlying3 ghs0_1
  obtain rfl : c0_1 = .int .i64 a0_1 := by simpa using e0_1
  obtain ⟨yghs0_2, ghs0_2⟩ := hs0 2 9 2 1 rfl (by kernel_rfl)
  obtain ⟨a0_2, e0_2, _, w0_2⟩ := DataW.trod_string Try.underlying9 ghs0_2
  obtain rfl : c0_2 = .string a0_2 := by simpa using e0_2
  obtain ⟨yghs0_3, ghs0_3⟩ := hs0 3 3 3 1 rfl (by kernel_rfl)
  obtain ⟨a0_3, e0_3, _, w0_3⟩ := DataW.trod_int Try.underlying3 ghs0_3
  obtain rfl : c0_3 = .int .i64 a0_3 := by simpa using e0_3
  clear hA0 hval0
  refine (rootParts_of rt_is a0_0 len0_0 cap0_0 z0_0 a0_1 a0_2 a0_3 W w0_0 w0_1 w0_2 w0_3).mono fun e W' ⟨he, bel⟩ => ?_
  subst he
  exact ⟨_, rfl, _, _, _, [], _, [], hW', trodAll_mk1 (shut_bool Try.underlying4 _), (trodAll_cons_mk (Below.trod laidOut (by kernel_rfl) (of_decide_eq_true (by kernel_rfl)) k0 bel lt0) trodAll_mk0), rfl, bel.frame _, fun h => by cases h⟩

theorem over : Rows.rootPartsRow.holds Try.pinned (OpenSpec.ofChange Rows.rootPartsSpec) :=
  OpenClaim.holds_of_wide 4 Try.f4 rfl rfl rfl rfl rfl rfl rfl ⟨rfl, rfl, rfl, rfl, rfl⟩ rfl rfl rfl rfl rfl (by kernel_rfl) Try.func4 (by kernel_rfl)
    (of_decide_eq_true (by kernel_rfl)) (by unfold Func.isWrapper; first | (rw [if_pos (by decide +kernel)]; kernel_rfl) | (rw [if_neg (by decide +kernel)]; exact ⟨rfl, rfl⟩))
    (fun os started H enc _ => lifted os started H enc)

theorem proved : Rows.RootPartsSaid := over
end Go.Proofs.Ytaaagmcdbmppmaa.rootParts
