/- The contract of the document's own Check, whole. -/
import Derived.Test.YthkfaeplmmlnlaaYModelRefCheck
namespace Go.Proofs.Ythkfaeplmmlnlaa
open Go.RowKit
set_option linter.unusedVariables false

theorem refCheck_any (m : Mdl) (vd vp vl vi : Value) (w : World) (h : MdlAt m vd vp vl vi w) :
    Calls Try.prog 16 #[mval m vd vp vl vi] w fun e w' => e = .returned (.int .i64 (chkN m)) ∧ Below w.heap.size w w' := by
  obtain ⟨hd, hp, hl, hi⟩ := h
  have hp0 := hp
  have hl0 := hl
  obtain ⟨ad, cd, rfl, _, _, _⟩ := id hd
  obtain ⟨gp, hp1, _⟩ := hp0
  obtain ⟨ap, cp, rfl, _, _, _⟩ := hp1
  obtain ⟨gl, hl1, _⟩ := hl0
  obtain ⟨al, cl, rfl, _, _, _⟩ := hl1
  obtain ⟨ai, ci, rfl, _, _, _⟩ := id hi
  unfold mval
  have bad : (countsB m && numF m.fin) = false → chkN m = 15 := fun h => by
    unfold chkN mayB
    rw [← Bool.and_assoc, h]
    rfl
  have hx : (FloatKind.f64.format.order m.fin m.fin != some .eq) = !numF m.fin := by have := ord_eq m.fin m.fin; simp only [bne, this]; simp [numF]
  by_cases g1 : m.nl < 1
  · rw [bad (by simp [countsB, from1]; omega)]; exact refCheck_b0 _ _ _ _ _ _ _ _ _ _ _ _ _ _ g1 w
  by_cases g2 : 6 < m.nl
  · rw [bad (by simp [countsB, from1]; omega)]; exact refCheck_b1 _ _ _ _ _ _ _ _ _ _ _ _ _ _ (by omega) g2 w
  by_cases g3 : m.np < 1
  · rw [bad (by simp [countsB, from1]; omega)]; exact refCheck_b2 _ _ _ _ _ _ _ _ _ _ _ _ _ _ (by omega) (by omega) g3 w
  by_cases g4 : 4 < m.np
  · rw [bad (by simp [countsB, from1]; omega)]; exact refCheck_b3 _ _ _ _ _ _ _ _ _ _ _ _ _ _ (by omega) (by omega) (by omega) g4 w
  by_cases g5 : m.nd < 1
  · rw [bad (by simp [countsB, from1]; omega)]; exact refCheck_b4 _ _ _ _ _ _ _ _ _ _ _ _ _ _ (by omega) (by omega) (by omega) (by omega) g5 w
  by_cases g6 : 8 < m.nd
  · rw [bad (by simp [countsB, from1]; omega)]; exact refCheck_b5 _ _ _ _ _ _ _ _ _ _ _ _ _ _ (by omega) (by omega) (by omega) (by omega) (by omega) g6 w
  by_cases g7 : 16 < m.ni
  · rw [bad (by simp [countsB, from1]; omega)]; exact refCheck_b6 _ _ _ _ _ _ _ _ _ _ _ _ _ _ (by omega) (by omega) (by omega) (by omega) (by omega) (by omega) g7 w
  by_cases g8 : numF m.fin = true
  · have hc : countsB m = true := by simp [countsB, from1]; omega
    have e : chkN m = if (allN (fun i => posF (m.d i)) m.nd && (allN (fun i => progB (m.pr i) (m.pl i)) m.np && (allN (fun i => lpB m.np (m.lp i) (m.wl i)) m.nl && allN (fun i => evB m.nl (m.ev i)) m.ni))) = true then 0 else 15 := by
      unfold chkN mayB
      rw [hc, g8]
      rfl
    rw [e]
    exact refCheck_good _ _ _ _ _ _ _ _ _ _ _ _ _ _ (by omega) (by omega) (by omega) (by omega) (by omega) (by omega) (by omega) (by rw [hx, g8]; rfl) m.d m.pl m.pr m.lp m.wl m.wd m.ev w hd hp hl hi
  · have g9 : numF m.fin = false := by simpa using g8
    rw [bad (by rw [g9, Bool.and_false])]
    exact refCheck_b7 _ _ _ _ _ _ _ _ _ _ _ _ _ _ (by omega) (by omega) (by omega) (by omega) (by omega) (by omega) (by omega) (by rw [hx, g9]; rfl) w

end Go.Proofs.Ythkfaeplmmlnlaa
