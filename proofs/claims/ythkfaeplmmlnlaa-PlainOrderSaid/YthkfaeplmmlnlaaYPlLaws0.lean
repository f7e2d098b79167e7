/- What the laws of plain have in common: a model's numbers outside its lists; a model that came in, not too great. -/
import Derived.Test.YthkfaeplmmlnlaaYZ32
import Derived.Test.YthkfaeplmmlnlaaYRng
import Derived.Test.YthkfaeplmmlnlaaYActLight0
namespace Go.Proofs.Ythkfaeplmmlnlaa
open Go.RowKit Go.Deep Go.Maps
set_option linter.unusedVariables false
set_option maxRecDepth 100000

theorem r64_r64v {x : Int} (h : r64 x) : r64v x := by unfold r64 at h; unfold r64v; omega
/-- the same model: what stands outside its lists is nought -/
theorem mdl_clamp {m : Mdl} {vd vp vl vi : Value} {w : World} (hm : MdlAt m vd vp vl vi w) (hr : Rng m) : ∃ m2, MdlAt m2 vd vp vl vi w ∧ MdlR m2 ∧ m2.seed = m.seed ∧ m2.fin = m.fin := by
  refine ⟨⟨m.seed, m.fin, m.nd, m.d, m.np, m.pl, fun p k => if p < m.np ∧ k < m.pl p then m.pr p k else ⟨0, 0, 0, 0⟩, m.nl, m.lp, m.wl, fun i k => if i < m.nl ∧ k < m.wl i then m.wd i k else 0, m.ni, fun i => if i < m.ni then m.ev i else ⟨0, 0, 0⟩⟩, ?_, ?_, rfl, rfl⟩
  · obtain ⟨gp, p1, p2⟩ := hm.p
    obtain ⟨gl, l1, l2⟩ := hm.l
    refine ⟨hm.d, ⟨gp, p1, fun i hi => (p2 i hi).congr fun k hk j hj => ?_⟩, ⟨gl, l1, fun i hi => (l2 i hi).congr fun k hk j hj => ?_⟩, hm.i.congr fun i hi j hj => ?_⟩
    · have e : (if i < m.np ∧ k < m.pl i then m.pr i k else ⟨0, 0, 0, 0⟩) = m.pr i k := if_pos ⟨hi, hk⟩
      unfold gI
      rcases j with _ | _ | _ | j <;> simp only [e]
    · show Value.int .i64 (m.wd i k) = .int .i64 (if i < m.nl ∧ k < m.wl i then m.wd i k else 0)
      rw [if_pos ⟨hi, hk⟩]
    · have e : (if i < m.ni then m.ev i else ⟨0, 0, 0⟩) = m.ev i := if_pos hi
      unfold gE
      rcases j with _ | _ | j <;> simp only [e]
  · have z : r64v 0 := by unfold r64v; decide
    refine ⟨fun p k => ?_, fun i k => ?_, fun i => ?_⟩
    · show r64v (if p < m.np ∧ k < m.pl p then m.pr p k else ⟨0, 0, 0, 0⟩).b
      split
      · rename_i c; exact r64_r64v (hr.pr p c.1 k c.2).2.2.1
      · exact z
    · show r64v (if i < m.nl ∧ k < m.wl i then m.wd i k else 0)
      split
      · rename_i c; exact r64_r64v (hr.wd i c.1 k c.2)
      · exact z
    · show r64v (if i < m.ni then m.ev i else ⟨0, 0, 0⟩).pay
      split
      · rename_i c; exact r64_r64v (hr.ev i c).2.2
      · exact z
/-- each event that is handled -/
theorem dn_ok {m : Mdl} {k : Nat} {x : Sm} (h : InvP m k x) (hw : x.W ≠ []) : GoodE m x.S (dnP m x).e ∧ ∃ r, x.W = (dnP m x).e :: r := by
  unfold dnP
  cases hW : x.W with
  | nil => exact absurd hW hw
  | cons e r => exact ⟨h.ev e (by rw [hW]; exact List.mem_cons_self), r, rfl⟩
theorem inv_from {m : Mdl} (hc : chkN m = 0) (hr : MdlR m) {k : Nat} {x : Sm} (h : InvP m k x) : ∀ (i : Nat), k + i ≤ 1000000 → InvP m (k + i) (stepsP m i x)
  | 0, _ => h
  | i + 1, hi => by rw [stepsP_succ]; exact inv_step hc hr (show k + i ≤ 1000000 by omega) (inv_from hc hr h i (by omega))
theorem dn_order {m : Mdl} (hc : chkN m = 0) (hr : MdlR m) {k : Nat} {x : Sm} (h : InvP m k x) {i : Nat} (hi : k + i ≤ 100000) (h1 : (stepsP m i x).W ≠ []) (h2 : (stepsP m (i + 1) x).W ≠ []) : ordE (dnF m x i).e (dnF m x (i + 1)).e ≤ 0 := by
  have I := inv_from hc hr h i (by omega)
  have I2 := inv_from hc hr h (i + 1) (by omega)
  obtain ⟨_, r, e1⟩ := dn_ok I h1
  obtain ⟨_, r2, e2⟩ := dn_ok I2 h2
  have := step_later hc hr (by omega) I e1 (dnP m (stepsP m (i + 1) x)).e (by rw [← stepsP_succ, e2]; exact List.mem_cons_self)
  exact this
theorem dn_fin {m : Mdl} (hc : chkN m = 0) (hr : MdlR m) {k : Nat} {x : Sm} (h : InvP m k x) {i : Nat} (hi : k + i ≤ 100000) (h1 : (stepsP m i x).W ≠ []) : isNum (dnF m x i).e.t ∧ leqF (dnF m x i).e.t m.fin = true := by
  have I := inv_from hc hr h i (by omega)
  obtain ⟨g, _⟩ := dn_ok I h1
  exact ⟨g.num, g.fin⟩

end Go.Proofs.Ythkfaeplmmlnlaa
