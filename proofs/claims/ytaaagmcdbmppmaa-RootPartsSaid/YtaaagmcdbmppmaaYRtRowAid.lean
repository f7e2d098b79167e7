/- The walks of stage 13's laws over what came in as the frames lay it. -/
import Derived.Test.YtaaagmcdbmppmaaYRtTornW
import Derived.Test.YtaaagmcdbmppmaaYRtPartsW
import Derived.Test.YtaaagmcdbmppmaaYRtTablesW
import Derived.Test.YtaaagmcdbmppmaaYFrameAid
namespace Go.Proofs.Ytaaagmcdbmppmaa
open Go.RowKit Go.Deep
set_option linter.unusedVariables false
set_option maxRecDepth 100000

theorem lst_of_row {W : World} {a : Option Addr} {len cap : Nat} {zs : List Int} (h : IsRow .i64 W a len cap zs) : ∃ l : List Int, l.length = len ∧ LstI l (.slice a len cap) W := by
  refine ⟨zs.take len, ?_, ?_⟩
  · rcases h with ⟨_, rfl, _, rfl⟩ | ⟨x, _, hl, _, hz, _⟩
    · rfl
    · rw [List.length_take]; omega
  · rcases h with ⟨rfl, rfl, rfl, rfl⟩ | ⟨x, rfl, hl, hm, hz, hcell, _⟩
    · exact LstI.nil W
    · have e : (zs.take len).length = len := by rw [List.length_take]; omega
      refine ⟨some x, cap, by rw [e], by rw [e]; exact hl, by unfold maxLen at hm; omega, fun hn => ?_⟩
      rw [e] at hn
      have h0 := hcell 0 (by omega)
      have hx : x = ⟨x.block, x.off, none⟩ := by
        obtain ⟨b, off, spot⟩ := x
        have hspot : spot = none := by simpa [Addr.add] using World.cell?_spot h0
        subst hspot
        rfl
      generalize x.block = b at hx
      generalize x.off = o at hx
      subst hx
      refine ⟨b, o, rfl, ?_, fun i hi j hj => ?_⟩
      · rw [add_plain] at h0
        rcases Nat.lt_or_ge b W.heap.size with h' | h'
        · exact h'
        · simp [World.cell?, Array.getElem?_eq_none h'] at h0
      · obtain rfl : j = 0 := by omega
        rw [e] at hi
        have := hcell i (by omega)
        rw [add_plain] at this
        rw [Nat.mul_one, Nat.add_zero, this]
        show _ = some (Value.int .i64 ((zs.take len).getD i 0))
        rw [List.getD_eq_getElem?_getD, List.getD_eq_getElem?_getD, List.getElem?_take, if_pos hi]
theorem rootTorn_of (I : Rt13) (e1 l1 : Int) (a1 : Option Addr) (n1 c1 : Nat) (z1 : List Int) (e2 l2 : Int) (a2 : Option Addr) (n2 c2 : Nat) (z2 : List Int) (cut : Int) (W : World) (p1 : (Lit.int .i64 e1).wf = true) (p2 : (Lit.int .i64 l1).wf = true) (h1 : IsRow .i64 W a1 n1 c1 z1) (p3 : (Lit.int .i64 e2).wf = true) (p4 : (Lit.int .i64 l2).wf = true) (h2 : IsRow .i64 W a2 n2 c2 z2) (p5 : (Lit.int .u8 cut).wf = true) :
    Calls Try.prog 3 #[.agg #[.int .i64 e1, .int .i64 l1, .slice a1 n1 c1], .agg #[.int .i64 e2, .int .i64 l2, .slice a2 n2 c2], .int .u8 cut] W fun r u' => r = .returned (.bool true) ∧ Below W.heap.size W u' := by
  obtain ⟨A, rfl, hA⟩ := lst_of_row h1
  obtain ⟨B, rfl, hB⟩ := lst_of_row h2
  exact torn13_walk I e1 l1 A a1 c1 e2 l2 B a2 c2 cut W hA hB (i64_bd p1) (i64_bd p2) (i64_bd p3) (i64_bd p4) (by have h := p5; simp [Lit.wf, IntKind.min, IntKind.max, IntKind.bits, IntKind.signed] at h; omega)
theorem rootParts_of (I : Rt13) (a1 : Option Addr) (n1 c1 : Nat) (z1 : List Int) (p : Int) (s : ByteArray) (m : Int) (W : World) (h1 : IsRow .i64 W a1 n1 c1 z1) (p1 : (Lit.int .i64 p).wf = true) (p2 : s.size ≤ maxLen) (p3 : (Lit.int .i64 m).wf = true) :
    Calls Try.prog 4 #[.agg #[.slice a1 n1 c1, .int .i64 p, .string s, .int .i64 m]] W fun r u' => r = .returned (.bool true) ∧ Below W.heap.size W u' := by
  obtain ⟨A, rfl, hA⟩ := lst_of_row h1
  exact parts13_walk I A a1 c1 p s m W hA (i64_bd p1) (by unfold maxLen at p2; omega) (i64_bd p3)
theorem rootTables_of (I : Rt13) (a1 : Option Addr) (n1 c1 : Nat) (z1 : List Int) (W : World) (h1 : IsRow .i64 W a1 n1 c1 z1) :
    Calls Try.prog 5 #[.slice a1 n1 c1] W fun r u' => r = .returned (.bool true) ∧ Below W.heap.size W u' := by
  obtain ⟨A, rfl, hA⟩ := lst_of_row h1
  exact tables13_walk I A a1 c1 W hA

end Go.Proofs.Ytaaagmcdbmppmaa
