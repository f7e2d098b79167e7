/- A model that was read, as a model in memory. -/
import Derived.Test.YtemhbcjpgapjkaaMioMake
namespace Go.Proofs.Ytemhbcjpgapjkaa
open Go.RowKit
set_option linter.unusedVariables false
set_option maxRecDepth 100000

theorem At.show {tb C : Nat} {g : Nat → Nat → Value} {n b o : Nat} {w : World} (h : At C g n b o (Hd tb w)) : At C g n b o w :=
  ⟨by have := h.1; rwa [Hd.size] at this, fun i hi j hj => Hd.cell (h.2 i hi j hj)⟩
theorem Sl.show {tb C : Nat} {g : Nat → Nat → Value} {n : Nat} {v : Value} {w : World} (h : Sl C g n v (Hd tb w)) : Sl C g n v w := by
  obtain ⟨ao, cap, e, h1, h2, h3⟩ := h
  exact ⟨ao, cap, e, h1, h2, fun hn => by obtain ⟨b, o, e2, ha⟩ := h3 hn; exact ⟨b, o, e2, ha.show⟩⟩
theorem MdlAt.show {tb : Nat} {m : Mdl} {vd vp vl vi : Value} {w : World} (h : MdlAt m vd vp vl vi (Hd tb w)) : MdlAt m vd vp vl vi w := by
  obtain ⟨h1, ⟨g2, h2, k2⟩, ⟨g3, h3, k3⟩, h4⟩ := h
  exact ⟨h1.show, ⟨g2, h2.show, fun i hi => (k2 i hi).show⟩, ⟨g3, h3.show, fun i hi => (k3 i hi).show⟩, h4.show⟩

theorem stab_md (s : ByteArray) : Stab 28 (RMd s) := by
  rintro st r u u2 ⟨vd, vp, vl, vi, e, h1, h2, h3, h4⟩ k
  exact ⟨vd, vp, vl, vi, e, stab_lst (by decide) (stab_rf _ s) _ _ _ _ h1 k, stab_lst (by decide) (stab_pr (by decide) s) _ _ _ _ h2 k,
    stab_lst (by decide) (stab_lp (by decide) s) _ _ _ _ h3 k, stab_lst (by decide) (stab_ev _ s) _ _ _ _ h4 k⟩

theorem lst_pr {s : ByteArray} {st : St} {r : Value} {u : World} (h : RPr s st r u) : Sl 4 (gI (prV s st)) (lsN s st) r u := by
  obtain ⟨g, h1, h2⟩ := h
  refine h1.sl.congr fun i hi j hj => ?_
  have e : g i = .agg #[.int .i64 (prV s st i).op, .int .i64 (prV s st i).a, .int .i64 (prV s st i).b, .int .i64 (prV s st i).c] := h2 i hi
  rw [e]
  have : j = 0 ∨ j = 1 ∨ j = 2 ∨ j = 3 := by omega
  rcases this with rfl | rfl | rfl | rfl <;> rfl
theorem lst_wd {s : ByteArray} {st : St} {r : Value} {u : World} (h : RWd s st r u) : Sl 1 (gW (wdV s st)) (lsN s st) r u := by
  obtain ⟨g, h1, h2⟩ := h
  refine h1.sl.congr fun i hi j hj => ?_
  exact h2 i hi
theorem rmd_mdl {s : ByteArray} {r : Value} {u : World} (h : RMd s ⟨0, 0⟩ r u) : ∃ vd vp vl vi, r = mval (getM s) vd vp vl vi ∧ MdlAt (getM s) vd vp vl vi u := by
  obtain ⟨vd, vp, vl, vi, e, ⟨g1, h1, k1⟩, ⟨g2, h2, k2⟩, ⟨g3, h3, k3⟩, ⟨g4, h4, k4⟩⟩ := h
  refine ⟨vd, vp, vl, vi, e, ?_, ⟨g2, ?_, fun i hi => lst_pr (k2 i hi)⟩, ⟨fun i => clA (g3 i) 1, ?_, fun i hi => ?_⟩, ?_⟩
  · exact h1.sl.congr fun i hi j hj => k1 i hi
  · exact h2.sl
  · refine h3.sl.congr fun i hi j hj => ?_
    obtain ⟨v, e, _⟩ := k3 i hi
    have : j = 0 ∨ j = 1 := by omega
    rcases this with rfl | rfl
    · show clA (g3 i) 0 = _
      rw [e]; rfl
    · rfl
  · obtain ⟨v, e, hv⟩ := k3 i hi
    simp only [e]
    exact lst_wd hv
  · refine h4.sl.congr fun i hi j hj => ?_
    have e : g4 i = .agg #[.float .f64 ((getM s).ev i).t, .int .i64 ((getM s).ev i).dst, .int .i64 ((getM s).ev i).pay] := k4 i hi
    rw [e]
    have : j = 0 ∨ j = 1 ∨ j = 2 := by omega
    rcases this with rfl | rfl | rfl <;> rfl
theorem RMd.forms {s : ByteArray} {st : St} {r : Value} {u : World} (h : RMd s st r u) : ∃ a3 n3 k3 a4 n4 k4 a5 n5 k5 a6 n6 k6, r = .agg #[.int .i64 (stI s st), .float .f64 (stF s (stN s st)), .slice a3 n3 k3, .slice a4 n4 k4, .slice a5 n5 k5, .slice a6 n6 k6] := by
  obtain ⟨vd, vp, vl, vi, e, h1, h2, h3, h4⟩ := h
  obtain ⟨_, _, _, rfl⟩ := h1.form
  obtain ⟨_, _, _, rfl⟩ := h2.form
  obtain ⟨_, _, _, rfl⟩ := h3.form
  obtain ⟨_, _, _, rfl⟩ := h4.form
  exact ⟨_, _, _, _, _, _, _, _, _, _, _, _, e⟩
theorem zero_mdl (u : World) : MdlAt zeroM (.slice none 0 0) (.slice none 0 0) (.slice none 0 0) (.slice none 0 0) u := by
  have h : ∀ C g, Sl C g 0 (.slice none 0 0) u := fun C g => ⟨none, 0, rfl, Nat.le_refl _, by omega, fun h => absurd h (Nat.lt_irrefl 0)⟩
  exact ⟨h _ _, ⟨fun _ => undef, h _ _, fun i hi => absurd hi (Nat.not_lt_zero i)⟩, ⟨fun _ => undef, h _ _, fun i hi => absurd hi (Nat.not_lt_zero i)⟩, h _ _⟩

end Go.Proofs.Ytemhbcjpgapjkaa
