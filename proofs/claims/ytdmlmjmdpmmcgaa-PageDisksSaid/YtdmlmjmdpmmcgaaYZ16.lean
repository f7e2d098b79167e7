/- A crash that came in, opened. What came in, opened: a slice of PageDisks' acts. Rows.PageDisksSaid: for every input the law 'horologe/horologelaw11.PageDisks' returns true and leaves its arguments as they were. No condition. The walk is 'pageDisks_walk' (PgDisksW); this text is the frame. -/
import Derived.Test.YtdmlmjmdpmmcgaaYZ15
import Derived.Test.YtdmlmjmdpmmcgaaYZ3
import Derived.Test.YtdmlmjmdpmmcgaaYZ14
namespace Go.Proofs.Ytdmlmjmdpmmcgaa
open Go.ChangeShapes Go.WideShapes Go.ChangeAt Go.RowKit Go.Joins
set_option linter.unusedVariables false
set_option maxRecDepth 100000

section
variable {H : Type} {enc : TypeId × Value → H} {W : World}
theorem bools_of {base fuel : Nat} {c : Value} {x : DataW H × List MemPlace} (hf : DataW.trod enc Try.prog W base (fun _ => true) true fuel 42 [c] = some x) : ∃ l : List Bool, Sl 1 (fun i _ => .bool (l.getD i false)) l.length c W := by
  obtain ⟨a, len, cap, rfl⟩ := slice_cell Try.underlying42 hf
  have h : CellRows 1 (fun cs => ∃ x : Bool, cs = [.bool x]) W a len cap := by
    refine cellRows_of (C := 1) Try.underlying42 (by kernel_rfl) hf ?_
    intro cs m y hl hy
    obtain ⟨b, hb, _⟩ := DataW.trod_bool Try.underlying4 hy
    exact ⟨b, hb⟩
  obtain ⟨f, hf1, hs⟩ := rows_sl (by omega) h
  obtain ⟨d, hd⟩ := choose_fn false fun i hi => (hf1 i hi).2
  have hlen : ((List.range len).map d).length = len := by simp
  refine ⟨(List.range len).map d, ?_⟩
  rw [hlen]
  refine hs.congr fun i hi j hj => ?_
  rcases (show j = 0 by omega) with rfl
  have e9 : ((List.range len).map d).getD i false = d i := by rw [List.getD_eq_getElem?_getD, List.getElem?_map, List.getElem?_range hi]; rfl
  rw [hd i hi, e9]; rfl
theorem crA_of {l : List Bool} {t b : Int} {c : Value} (h : Sl 1 (fun i _ => .bool (l.getD i false)) l.length c W) (ht : -9223372036854775808 ≤ t ∧ t ≤ 9223372036854775807) (hb : -9223372036854775808 ≤ b ∧ b ≤ 9223372036854775807) : CrA W.heap.size l t b c W := by
  obtain ⟨ao, cap, e, h1, h2, h3⟩ := h
  refine ⟨⟨ao, cap, e, h1, h2, fun hn => ?_⟩, ht, hb⟩
  obtain ⟨B, o, e2, hA⟩ := h3 hn
  exact ⟨B, o, e2, hA.1, fun i hi => by have := hA.2 i hi 0 (by omega); rwa [Nat.mul_one, Nat.add_zero] at this⟩
theorem bd_wf {x : Int} (h : (Lit.int .i64 x).wf = true) : -9223372036854775808 ≤ x ∧ x ≤ 9223372036854775807 := i64_bd h
/-- a crash's three cells -/
theorem crash_cells {base fuel : Nat} {l : List Value} {x : DataW H × List MemPlace} (hl : l.length = 3) (hf : DataW.trod enc Try.prog W base (fun _ => true) true fuel 44 l = some x) :
    ∃ (keep : List Bool) (t b : Int) (v : Value), l = [v, .int .i64 t, .int .i64 b] ∧ CrA W.heap.size keep t b v W := by
  obtain ⟨c0, c1, c2, rfl⟩ := list3 hl
  obtain ⟨n, hs⟩ := struct_cells Try.underlying44 hf
  obtain ⟨y0, g0⟩ := hs 0 42 0 1 rfl (by kernel_rfl)
  obtain ⟨y1, g1⟩ := hs 1 3 1 1 rfl (by kernel_rfl)
  obtain ⟨a1, e1, _, w1⟩ := DataW.trod_int Try.underlying3 g1
  obtain rfl : c1 = .int .i64 a1 := by simpa using e1
  obtain ⟨y2, g2⟩ := hs 2 3 2 1 rfl (by kernel_rfl)
  obtain ⟨a2, e2, _, w2⟩ := DataW.trod_int Try.underlying3 g2
  obtain rfl : c2 = .int .i64 a2 := by simpa using e2
  obtain ⟨k, hk⟩ := bools_of g0
  exact ⟨k, a1, a2, c0, rfl, crA_of hk (bd_wf w1) (bd_wf w2)⟩
theorem open_crash {r : Reach} {b0 base : Nat} {v : Value} {d : DataW H} {p : List MemPlace} (hv : Value.okWide Try.prog W r b0 44 v) (h : DataW.Trod enc Try.prog W base (fun _ => true) true 44 v d p) :
    ∃ (keep : List Bool) (t b : Int) (vK : Value), v = .agg #[vK, .int .i64 t, .int .i64 b] ∧ CrA W.heap.size keep t b vK W := by
  obtain ⟨cs, n, rfl, hl, hs⟩ := open_struct Try.underlying44 hv h
  obtain ⟨fuel, hf⟩ := h
  obtain ⟨k, t, b, vK, e, h1⟩ := crash_cells (by rw [hl]; kernel_rfl) (by simpa [Value.cells] using hf)
  exact ⟨k, t, b, vK, by rw [e], h1⟩
end

end Go.Proofs.Ytdmlmjmdpmmcgaa
namespace Go.Proofs.Ytdmlmjmdpmmcgaa
open Go.ChangeShapes Go.WideShapes Go.ChangeAt Go.RowKit Go.Joins
set_option linter.unusedVariables false
set_option maxRecDepth 100000

section
variable {H : Type} {enc : TypeId × Value → H} {W : World}
theorem ten_list {α : Type} {l : List α} (h : l.length = 10) : ∃ a b c d e f g i j k, l = [a, b, c, d, e, f, g, i, j, k] := by
  match l, h with
  | [a, b, c, d, e, f, g, i, j, k], _ => exact ⟨a, b, c, d, e, f, g, i, j, k, rfl⟩
theorem pac_cells {base fuel : Nat} {l : List Value} {x : DataW H × List MemPlace} (hl : l.length = 10) (hf : DataW.trod enc Try.prog W base (fun _ => true) true fuel 46 l = some x) :
    ∃ (a : Pac) (v : Value), l = pacV a v ∧ PacAt W.heap.size a v W := by
  obtain ⟨c0, c1, c2, c3, c4, c5, c6, c7, c8, c9, rfl⟩ := ten_list hl
  obtain ⟨n, hs⟩ := struct_cells Try.underlying46 hf
  obtain ⟨y0, g0⟩ := hs 0 3 0 1 rfl (by kernel_rfl)
  obtain ⟨a0, e0, _, w0⟩ := DataW.trod_int Try.underlying3 g0
  obtain rfl : c0 = .int .i64 a0 := by simpa using e0
  obtain ⟨y1, g1⟩ := hs 1 3 1 1 rfl (by kernel_rfl)
  obtain ⟨a1, e1, _, w1⟩ := DataW.trod_int Try.underlying3 g1
  obtain rfl : c1 = .int .i64 a1 := by simpa using e1
  obtain ⟨y2, g2⟩ := hs 2 23 2 4 rfl (by kernel_rfl)
  obtain ⟨m, hq⟩ := struct_cells Try.underlying23 g2
  obtain ⟨z0, q0⟩ := hq 0 3 0 1 rfl (by kernel_rfl)
  obtain ⟨b0, f0, _, v0⟩ := DataW.trod_int Try.underlying3 q0
  obtain rfl : c2 = .int .i64 b0 := by simpa using f0
  obtain ⟨z1, q1⟩ := hq 1 3 1 1 rfl (by kernel_rfl)
  obtain ⟨b1, f1, _, v1⟩ := DataW.trod_int Try.underlying3 q1
  obtain rfl : c3 = .int .i64 b1 := by simpa using f1
  obtain ⟨z2, q2⟩ := hq 2 3 2 1 rfl (by kernel_rfl)
  obtain ⟨b2, f2, _, v2⟩ := DataW.trod_int Try.underlying3 q2
  obtain rfl : c4 = .int .i64 b2 := by simpa using f2
  obtain ⟨z3, q3⟩ := hq 3 9 3 1 rfl (by kernel_rfl)
  obtain ⟨b3, f3, _, v3⟩ := DataW.trod_string Try.underlying9 q3
  obtain rfl : c5 = .string b3 := by simpa using f3
  obtain ⟨y3, g3⟩ := hs 3 9 6 1 rfl (by kernel_rfl)
  obtain ⟨a3, e3, _, w3⟩ := DataW.trod_string Try.underlying9 g3
  obtain rfl : c6 = .string a3 := by simpa using e3
  obtain ⟨y4, g4⟩ := hs 4 44 7 3 rfl (by kernel_rfl)
  obtain ⟨k, t, b, v, e4, h4⟩ := crash_cells (l := [c7, c8, c9]) rfl g4
  simp only [List.cons.injEq, and_true] at e4
  obtain ⟨rfl, rfl, rfl⟩ := e4
  exact ⟨⟨a0, a1, ⟨b0, b1, b2, b3⟩, a3, k, t, b⟩, c7, rfl, bd_wf w0, bd_wf w1, bd_wf v0, by unfold maxLen at v3; dsimp only; omega, by unfold maxLen at w3; dsimp only; omega, h4⟩
theorem open_pacts {r : Reach} {b0 base : Nat} {v : Value} {d : DataW H} {p : List MemPlace} (hv : Value.okWide Try.prog W r b0 34 v) (h : DataW.Trod enc Try.prog W base (fun _ => true) true 34 v d p) :
    ∃ (n : Nat) (A : Nat → Pac) (g : Nat → Value) (ao : Option Addr) (cap : Nat), v = .slice ao n cap ∧ PacsAt W.heap.size n A g ao cap W := by
  obtain ⟨ao, len, cap, rfl⟩ := okWide_slice Try.underlying34 hv
  obtain ⟨fuel, hf⟩ := h
  have h : CellRows 10 (fun cs => ∃ x : Pac × Value, cs = pacV x.1 x.2 ∧ PacAt W.heap.size x.1 x.2 W) W ao len cap := by
    refine cellRows_of (C := 10) Try.underlying34 (by kernel_rfl) (by simpa [Value.cells] using hf) ?_
    intro cs m y hl hy
    obtain ⟨a, vK, e, h1⟩ := pac_cells hl hy
    exact ⟨(a, vK), e, h1⟩
  obtain ⟨f, hf1, hs⟩ := rows_sl (by omega) h
  obtain ⟨d, hd⟩ := choose_fn ((⟨0, 0, noPg, ByteArray.empty, [], 0, 0⟩, undef) : Pac × Value) fun i hi => (hf1 i hi).2
  obtain ⟨a1, c1, e1, s1, s2, s3⟩ := hs
  simp only [Value.slice.injEq, true_and] at e1
  obtain ⟨rfl, rfl⟩ := e1
  refine ⟨len, fun i => (d i).1, fun i => (d i).2, ao, cap, rfl, ⟨s1, s2⟩, fun hn => ?_, fun i hi => (hd i hi).2⟩
  obtain ⟨B, o, e2, hA⟩ := s3 hn
  refine ⟨B, o, e2, hA.1, fun i hi j hj => ?_⟩
  rw [hA.2 i hi j hj]
  show some ((f i).getD j undef) = _
  rw [(hd i hi).1]
  have hl : (pacV (d i).1 (d i).2).length = 10 := rfl
  rw [List.getD_eq_getElem?_getD, List.getElem?_eq_getElem (by omega)]
  rfl
end

end Go.Proofs.Ytdmlmjmdpmmcgaa
namespace Go.Proofs.Ytdmlmjmdpmmcgaa.pageDisks
open Go.ChangeShapes Go.WideShapes Go.ChangeAt Go.RowKit Go.Joins
open Go.ChangeMaps (open_string shut_string)
set_option linter.unusedVariables false

theorem own : ownKnob Try.prog.godebug = none := by kernel_rfl
theorem laidOut : laidOutB Try.prog = true := by kernel_rfl

set_option maxRecDepth 100000 in
theorem lifted (os : Os) (started : os.Started) (H : Type) (enc : TypeId × Value → H) :
    ReturnsInHanded {} Try.checked os 6 .any (Rows.pageDisksSpec.pre6 enc Try.prog Try.f6 Rows.pageDisksRow.domain false) (Rows.pageDisksSpec.post enc Try.prog Try.f6 false true false false) := by
  refine returnsInHanded_of_change (C := Try.checked) own started (by kernel_rfl) Try.func6
    (ChangeSpec.witness6 (enc := enc) (C := Try.checked) false ⟨#[], #[.int .u8 0, .slice none 0 0], []⟩ 8 (by kernel_rfl) (by kernel_rfl) (by kernel_rfl) (by kernel_rfl)) ?_
  intro W base args ds gs before hval0 hW hcnd _
  have hval : ∀ (j : Nat) t v, Try.f6.params[j]? = some t → args[j]? = some v → Value.okWide Try.prog W .any base t v := hval0
  have hW' := hW
  obtain ⟨p, q, hA0, hV, rfl, hfz, hnd⟩ := hW
  have hA : DataW.TrodAll enc Try.prog W 0 (fun _ => true) true Try.f6.params.toList args.toList ds p := hA0
  rw [Try.params6] at hA hval
  obtain ⟨v0, vs0, d0, ds0, p0, q0, hargs, rfl, rfl, h0, r0⟩ := trodAll_cons hA
  obtain ⟨v1, vs1, d1, ds1, p1, q1, rfl, rfl, rfl, h1, r1⟩ := trodAll_cons r0
  obtain ⟨rfl, rfl, rfl⟩ := trodAll_nil r1
  obtain rfl : args = #[v0, v1] := by cases args; simp_all
  obtain ⟨rfl, rfl⟩ := trodVars_none hV
  have k0 := h0
  have lt0 : ∀ x ∈ p0, x.block < W.heap.size := by obtain ⟨m, hm⟩ := k0; exact DataW.trod_lt m _ _ _ hm
  have k1 := h1
  have lt1 : ∀ x ∈ p1, x.block < W.heap.size := by obtain ⟨m, hm⟩ := k1; exact DataW.trod_lt m _ _ _ hm
  obtain ⟨a0, rfl, rfl, rfl, w0⟩ := open_int Try.underlying5 (hval 0 5 v0 rfl rfl) h0
  obtain ⟨n1, A1, g1, ao1, cap1, rfl, w1⟩ := open_pacts (hval 1 34 v1 rfl rfl) h1
  clear hA0 hval0
  refine (pageDisks_walk a0 n1 A1 g1 ao1 cap1 W w0 w1).mono fun e W' ⟨he, bel⟩ => ?_
  subst he
  exact ⟨_, rfl, _, _, _, [], _, [], hW', trodAll_mk1 (shut_bool Try.underlying4 _), (trodAll_cons_mk (Below.trod laidOut (by kernel_rfl) (of_decide_eq_true (by kernel_rfl)) k0 bel lt0) (trodAll_cons_mk (Below.trod laidOut (by kernel_rfl) (of_decide_eq_true (by kernel_rfl)) k1 bel lt1) trodAll_mk0)), rfl, bel.frame _, fun h => by cases h⟩

theorem over : Rows.pageDisksRow.holds Try.pinned (OpenSpec.ofChange Rows.pageDisksSpec) :=
  OpenClaim.holds_of_wide 6 Try.f6 rfl rfl rfl rfl rfl rfl rfl ⟨rfl, rfl, rfl, rfl, rfl⟩ rfl rfl rfl rfl rfl (by kernel_rfl) Try.func6 (by kernel_rfl)
    (of_decide_eq_true (by kernel_rfl)) (by unfold Func.isWrapper; first | (rw [if_pos (by decide +kernel)]; kernel_rfl) | (rw [if_neg (by decide +kernel)]; exact ⟨rfl, rfl⟩))
    (fun os started H enc _ => lifted os started H enc)

theorem proved : Rows.PageDisksSaid := over
end Go.Proofs.Ytdmlmjmdpmmcgaa.pageDisks
