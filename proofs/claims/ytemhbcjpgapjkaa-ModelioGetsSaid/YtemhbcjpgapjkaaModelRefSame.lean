/- The contract of the document's own Same, whole. -/
import Derived.Test.YtemhbcjpgapjkaaModelRefSameA
import Derived.Test.YtemhbcjpgapjkaaModelRefSameB
namespace Go.Proofs.Ytemhbcjpgapjkaa
open Go.RowKit
set_option linter.unusedVariables false

theorem refSame_any (x y : Mdl) (vd1 vp1 vl1 vi1 vd2 vp2 vl2 vi2 : Value) (w : World) (h1 : MdlAt x vd1 vp1 vl1 vi1 w) (h2 : MdlAt y vd2 vp2 vl2 vi2 w) :
    Calls Try.prog 15 #[mval x vd1 vp1 vl1 vi1, mval y vd2 vp2 vl2 vi2] w fun e w' => e = .returned (.bool (sameB x y)) ∧ Below w.heap.size w w' := by
  obtain ⟨hd1, hp1, hl1, hi1⟩ := h1
  obtain ⟨hd2, hp2, hl2, hi2⟩ := h2
  have hp10 := hp1
  have hl10 := hl1
  have hp20 := hp2
  have hl20 := hl2
  obtain ⟨ad1, cd1, rfl, _, _, _⟩ := id hd1
  obtain ⟨gp1, hq1, _⟩ := hp10
  obtain ⟨ap1, cp1, rfl, _, _, _⟩ := hq1
  obtain ⟨gl1, hr1, _⟩ := hl10
  obtain ⟨al1, cl1, rfl, _, _, _⟩ := hr1
  obtain ⟨ai1, ci1, rfl, _, _, _⟩ := id hi1
  obtain ⟨ad2, cd2, rfl, _, _, _⟩ := id hd2
  obtain ⟨gp2, hq2, _⟩ := hp20
  obtain ⟨ap2, cp2, rfl, _, _, _⟩ := hq2
  obtain ⟨gl2, hr2, _⟩ := hl20
  obtain ⟨al2, cl2, rfl, _, _, _⟩ := hr2
  obtain ⟨ai2, ci2, rfl, _, _, _⟩ := id hi2
  unfold mval
  by_cases g0 : x.seed = y.seed
  · by_cases g1 : sameF x.fin y.fin = true
    · by_cases g2 : x.nd = y.nd
      · by_cases g3 : x.np = y.np
        · by_cases g4 : x.nl = y.nl
          · by_cases g5 : x.ni = y.ni
            · have e : sameB x y = (allN (fun i => sameF (x.d i) (y.d i)) x.nd && (allN (fun i => sameP (x.pr i) (y.pr i) (x.pl i) (y.pl i)) x.np && (allN (fun i => sameLp (x.lp i) (y.lp i) (x.wd i) (y.wd i) (x.wl i) (y.wl i)) x.nl && allN (fun i => sameE (x.ev i) (y.ev i)) x.ni))) := by
                unfold sameB sameL
                simp [g0, g1, g2, g3, g4, g5]
              rw [e]
              rw [← g2] at hd2 ⊢
              rw [← g3] at hp2 ⊢
              rw [← g4] at hl2 ⊢
              rw [← g5] at hi2 ⊢
              rw [← g0]
              exact refSame_good x.seed x.fin y.fin x.nd x.np x.nl x.ni _ _ _ _ _ _ _ _ _ _ _ _ _ _ _ _ x.d y.d x.pl y.pl x.pr y.pr x.lp y.lp x.wl y.wl x.wd y.wd x.ev y.ev w (fun w => by have := float5_any x.fin y.fin w; rwa [g1] at this) hd1 hd2 hp1 hp2 hl1 hl2 hi1 hi2
            · rw [show sameB x y = false by unfold sameB sameL; simp [g5]]
              exact refSame_b5 _ _ _ _ _ _ _ _ _ _ _ _ _ _ _ _ _ _ _ _ _ _ _ _ _ _ _ _ (sameF x.fin y.fin) w (float5_any _ _) (by simpa using g0) g1 (by simp [g2]) (by simp [g3]) (by simp [g4]) (by simp; omega)
          · rw [show sameB x y = false by unfold sameB sameL; simp [g4]]
            exact refSame_b4 _ _ _ _ _ _ _ _ _ _ _ _ _ _ _ _ _ _ _ _ _ _ _ _ _ _ _ _ (sameF x.fin y.fin) w (float5_any _ _) (by simpa using g0) g1 (by simp [g2]) (by simp [g3]) (by simp; omega)
        · rw [show sameB x y = false by unfold sameB sameL; simp [g3]]
          exact refSame_b3 _ _ _ _ _ _ _ _ _ _ _ _ _ _ _ _ _ _ _ _ _ _ _ _ _ _ _ _ (sameF x.fin y.fin) w (float5_any _ _) (by simpa using g0) g1 (by simp [g2]) (by simp; omega)
      · rw [show sameB x y = false by unfold sameB sameL; simp [g2]]
        exact refSame_b2 _ _ _ _ _ _ _ _ _ _ _ _ _ _ _ _ _ _ _ _ _ _ _ _ _ _ _ _ (sameF x.fin y.fin) w (float5_any _ _) (by simpa using g0) g1 (by simp; omega)
    · rw [show sameB x y = false by unfold sameB; simp [g1]]
      exact refSame_b1 _ _ _ _ _ _ _ _ _ _ _ _ _ _ _ _ _ _ _ _ _ _ _ _ _ _ _ _ (sameF x.fin y.fin) w (float5_any _ _) (by simpa using g0) (by simpa using g1)
  · rw [show sameB x y = false by unfold sameB; simp [g0]]
    exact refSame_b0 _ _ _ _ _ _ _ _ _ _ _ _ _ _ _ _ _ _ _ _ _ _ _ _ _ _ _ _ (sameF x.fin y.fin) w (float5_any _ _) (by simpa using g0)

end Go.Proofs.Ytemhbcjpgapjkaa
