/- Rows.RootTornSaid: for every input the law 'horologe/horologelaw13.RootTorn' returns true and leaves its arguments as they were. No condition. The walk is 'rootTorn_of rt_is' (RtIs); this text is the frame. -/
import Derived.Test.YtaaagmcdbmppmaaYRtIs
import Derived.Test.YtaaagmcdbmppmaaYFrameAid
namespace Go.Proofs.Ytaaagmcdbmppmaa.rootTorn
open Go.ChangeShapes Go.WideShapes Go.ChangeAt Go.RowKit Go.Joins
open Go.ChangeMaps (open_string shut_string)
set_option linter.unusedVariables false

theorem own : ownKnob Try.prog.godebug = none := by kernel_rfl
theorem laidOut : laidOutB Try.prog = true := by kernel_rfl

set_option maxRecDepth 100000 in
theorem lifted (os : Os) (started : os.Started) (H : Type) (enc : TypeId × Value → H) :
    ReturnsInHanded {} Try.checked os 3 .any (Rows.rootTornSpec.pre6 enc Try.prog Try.f3 Rows.rootTornRow.domain false) (Rows.rootTornSpec.post enc Try.prog Try.f3 false true false false) := by
  refine returnsInHanded_of_change (C := Try.checked) own started (by kernel_rfl) Try.func3
    (ChangeSpec.witness6 (enc := enc) (C := Try.checked) false ⟨#[], #[.agg #[.int .i64 0, .int .i64 0, .slice none 0 0], .agg #[.int .i64 0, .int .i64 0, .slice none 0 0], .int .u8 0], []⟩ 8 (by kernel_rfl) (by kernel_rfl) (by kernel_rfl) (by kernel_rfl)) ?_
  intro W base args ds gs before hval0 hW hcnd _
  have hval : ∀ (j : Nat) t v, Try.f3.params[j]? = some t → args[j]? = some v → Value.okWide Try.prog W .any base t v := hval0
  have hW' := hW
  obtain ⟨p, q, hA0, hV, rfl, hfz, hnd⟩ := hW
  have hA : DataW.TrodAll enc Try.prog W 0 (fun _ => true) true Try.f3.params.toList args.toList ds p := hA0
  rw [Try.params3] at hA hval
  obtain ⟨v0, vs0, d0, ds0, p0, q0, hargs, rfl, rfl, h0, r0⟩ := trodAll_cons hA
  obtain ⟨v1, vs1, d1, ds1, p1, q1, rfl, rfl, rfl, h1, r1⟩ := trodAll_cons r0
  obtain ⟨v2, vs2, d2, ds2, p2, q2, rfl, rfl, rfl, h2, r2⟩ := trodAll_cons r1
  obtain ⟨rfl, rfl, rfl⟩ := trodAll_nil r2
  obtain rfl : args = #[v0, v1, v2] := by cases args; simp_all
  obtain ⟨rfl, rfl⟩ := trodVars_none hV
  have k0 := h0
  have lt0 : ∀ x ∈ p0, x.block < W.heap.size := by obtain ⟨m, hm⟩ := k0; exact DataW.trod_lt m _ _ _ hm
  have k1 := h1
  have lt1 : ∀ x ∈ p1, x.block < W.heap.size := by obtain ⟨m, hm⟩ := k1; exact DataW.trod_lt m _ _ _ hm
  have k2 := h2
  have lt2 : ∀ x ∈ p2, x.block < W.heap.size := by obtain ⟨m, hm⟩ := k2; exact DataW.trod_lt m _ _ _ hm
  obtain ⟨cs0, m0, rfl, hl0, hs0⟩ := open_struct Try.underlying24 (hval 0 24 v0 rfl rfl) h0
  have hm0 : Try.prog.cellsOf 24 = 3 := by kernel_rfl
  rw [hm0] at hl0
  obtain ⟨c0_0, c0_1, c0_2, rfl⟩ : ∃ c0_0 c0_1 c0_2, cs0 = [c0_0, c0_1, c0_2] := list3 hl0
  obtain ⟨yghs0_0, ghs0_0⟩ := hs0 0 3 0 1 rfl (by kernel_rfl)
  obtain ⟨a0_0, e0_0, _, w0_0⟩ := DataW.trod_int Try.underlying3 ghs0_0
  obtain rfl : c0_0 = .int .i64 a0_0 := by simpa using e0_0
  obtain ⟨yghs0_1, ghs0_1⟩ := hs0 1 3 1 1 rfl (by kernel_rfl)
  obtain ⟨a0_1, e0_1, _, w0_1⟩ := DataW.trod_int Try.underlying3 ghs0_1
  obtain rfl : c0_1 = .int .i64 a0_1 := by simpa using e0_1
  obtain ⟨yghs0_2, ghs0_2⟩ := hs0 2 22 2 1 rfl (by kernel_rfl)
  obtain ⟨a0_2, len0_2, cap0_2, z0_2, e0_2, w0_2⟩ := isRow_cell Try.underlying22 Try.underlying3 (by kernel_rfl) ghs0_2
  subst e0_2
  obtain ⟨cs1, m1, rfl, hl1, hs1⟩ := open_struct Try.underlying24 (hval 1 24 v1 rfl rfl) h1
  have hm1 : Try.prog.cellsOf 24 = 3 := by kernel_rfl
  rw [hm1] at hl1
  obtain ⟨c1_0, c1_1, c1_2, rfl⟩ : ∃ c1_0 c1_1 c1_2, cs1 = [c1_0, c1_1, c1_2] := list3 hl1
  obtain ⟨yghs1_0, ghs1_0⟩ := hs1 0 3 0 1 rfl (by kernel_rfl)
  obtain ⟨a1_0, e1_0, _, w1_0⟩ := DataW.trod_int Try.underlying3 ghs1_0
  obtain rfl : c1_0 = .int .i64 a1_0 := by simpa using e1_0
  obtain ⟨yghs1_1, ghs1_1⟩ := hs1 1 3 1 1 rfl (by kernel_rfl)
  obtain ⟨a1_1, e1_1, _, w1_1⟩ := DataW.trod_int Try.underlying3 ghs1_1
  obtain rfl : c1_1 = .int .i64 a1_1 := by simpa using e1_1
  obtain ⟨yghs1_2, ghs1_2⟩ := hs1 2 22 2 1 rfl (by kernel_rfl)
  obtain ⟨a1_2, len1_2, cap1_2, z1_2, e1_2, w1_2⟩ := isRow_cell Try.underlying22 Try.underlying3 (by kernel_rfl) ghs1_2
  subst e1_2
  obtain ⟨a2, rfl, rfl, rfl, w2⟩ := open_int Try.underlying5 (hval 2 5 v2 rfl rfl) h2
  clear hA0 hval0
  refine (rootTorn_of rt_is a0_0 a0_1 a0_2 len0_2 cap0_2 z0_2 a1_0 a1_1 a1_2 len1_2 cap1_2 z1_2 a2 W w0_0 w0_1 w0_2 w1_0 w1_1 w1_2 w2).mono fun e W' ⟨he, bel⟩ => ?_
  subst he
  exact ⟨_, rfl, _, _, _, [], _, [], hW', trodAll_mk1 (shut_bool Try.underlying4 _), (trodAll_cons_mk (Below.trod laidOut (by kernel_rfl) (of_decide_eq_true (by kernel_rfl)) k0 bel lt0) (trodAll_cons_mk (Below.trod laidOut (by kernel_rfl) (of_decide_eq_true (by kernel_rfl)) k1 bel lt1) (trodAll_cons_mk (Below.trod laidOut (by kernel_rfl) (of_decide_eq_true (by kernel_rfl)) k2 bel lt2) trodAll_mk0))), rfl, bel.frame _, fun h => by cases h⟩

theorem over : Rows.rootTornRow.holds Try.pinned (OpenSpec.ofChange Rows.rootTornSpec) :=
  OpenClaim.holds_of_wide 3 Try.f3 rfl rfl rfl rfl rfl rfl rfl ⟨rfl, rfl, rfl, rfl, rfl⟩ rfl rfl rfl rfl rfl (by kernel_rfl) Try.func3 (by kernel_rfl)
    (of_decide_eq_true (by kernel_rfl)) (by unfold Func.isWrapper; first | (rw [if_pos (by decide +kernel)]; kernel_rfl) | (rw [if_neg (by decide +kernel)]; exact ⟨rfl, rfl⟩))
    (fun os started H enc _ => lifted os started H enc)

theorem proved : Rows.RootTornSaid := over
end Go.Proofs.Ytaaagmcdbmppmaa.rootTorn
