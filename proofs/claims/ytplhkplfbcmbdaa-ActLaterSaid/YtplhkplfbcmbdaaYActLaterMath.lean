/- What is sent comes later, and is numbered: the mathematics of P8.4 and P8.5. -/
import Derived.Test.YtplhkplfbcmbdaaYActBegins
namespace Go.Proofs.Ytplhkplfbcmbdaa
open Go.RowKit
set_option linter.unusedVariables false
set_option maxRecDepth 100000

theorem oneR_dice (x : I4) (seed me : Int) (r : Mch) : (oneR x seed me r).dice = r.dice ∨ (oneR x seed me r).dice = wrap64 (r.dice + 1) := by
  unfold oneR
  repeat' split
  all_goals first | exact .inl rfl | exact .inr rfl
theorem runM_dice (pr : Nat → I4) (pl : Nat) (lps seed me : Int) (k : Nat) : ∀ r : Mch, 0 ≤ r.dice → r.dice + k ≤ 4611686018427387904 → r.dice ≤ (runM pr pl lps seed me k r).dice := by
  induction k with
  | zero =>
    intro r h0 h1
    by_cases c : pl ≤ r.pc
    · rw [runM_end c]; exact Int.le_refl _
    · rw [runM_fuel (by omega)]; exact Int.le_refl _
  | succ k ih =>
    intro r h0 h1
    by_cases c : pl ≤ r.pc
    · rw [runM_end c]; exact Int.le_refl _
    · by_cases h2 : (pr r.pc).op = 0
      · rw [runM_halt (by omega) h2]; exact Int.le_refl _
      · by_cases hf : oneF (pr r.pc) lps { r with n := r.n + 1, pc := r.pc + 1 } = 0
        · rw [runM_on (by omega) h2 hf]
          have hw : wrap64 (r.dice + 1) = r.dice + 1 := by unfold wrap64; omega
          rcases oneR_dice (pr r.pc) seed me { r with n := r.n + 1, pc := r.pc + 1 } with h3 | h3
          · have h4 : (oneR (pr r.pc) seed me { r with n := r.n + 1, pc := r.pc + 1 }).dice = r.dice := h3
            have := ih (oneR (pr r.pc) seed me { r with n := r.n + 1, pc := r.pc + 1 }) (by rw [h4]; exact h0) (by rw [h4]; omega)
            rw [h4] at this
            exact this
          · have h4 : (oneR (pr r.pc) seed me { r with n := r.n + 1, pc := r.pc + 1 }).dice = r.dice + 1 := h3.trans hw
            have := ih (oneR (pr r.pc) seed me { r with n := r.n + 1, pc := r.pc + 1 }) (by rw [h4]; omega) (by rw [h4]; omega)
            rw [h4] at this
            omega
        · rw [runM_bad (by omega) h2 hf]; exact Int.le_refl _
/-- one event, as P8.4 and P8.5 say -/
structure LatE (m : Mdl) (lp : Int) (s : Sta) (e : Evn) (hi : Int) (x : Evn) : Prop where
  num : isNum x.t
  later : ford e.t < ford x.t
  fin : leqF x.t m.fin = true
  src : x.src = lp
  lo : s.sent ≤ x.n
  up : x.n < s.sent + hi
  dst : 0 ≤ x.dst ∧ x.dst < m.nl
theorem later_num {t d : Nat} (h : (laterSpec t d).2 = 0) : isNum (laterSpec t d).1 ∧ ford t < ford (laterSpec t d).1 := by
  unfold laterSpec at h ⊢
  cases hq : FloatKind.f64.format.add t d with
  | none => rw [hq] at h; exact absurd (show (7 : Int) = 0 from h) (by decide)
  | some x =>
    rw [hq] at h
    simp only at h ⊢
    by_cases c : isNum t ∧ isNum d ∧ 0 < ford d ∧ isNum x ∧ ford t < ford x
    · rw [if_pos c]; exact ⟨c.2.2.2.1, c.2.2.2.2⟩
    · rw [if_neg c] at h; exact absurd (show (7 : Int) = 0 from h) (by decide)
/-- all of them, and that their numbers rise -/
theorem sentE_later (m : Mdl) (lp : Int) (s : Sta) (e : Evn) (o : Ou) (hd : ∀ q, q < o.ns → 0 ≤ (o.sn q).dst ∧ (o.sn q).dst < m.nl) : ∀ k, k ≤ o.ns → laterB m e o k = true →
    (∀ i, i < (sentE m lp s e o k).n → LatE m lp s e k ((sentE m lp s e o k).f i)) ∧ ∀ i, i + 1 < (sentE m lp s e o k).n → ((sentE m lp s e o k).f i).n + 1 ≤ ((sentE m lp s e o k).f (i + 1)).n
  | 0, _, _ => ⟨fun i hi => absurd hi (Nat.not_lt_zero i), fun i hi => absurd hi (Nat.not_lt_zero _)⟩
  | k + 1, hk, hl => by
    have hl2 : laterB m e o k = true ∧ (whenS m e o k).2 = 0 := by
      rw [show laterB m e o (k + 1) = (laterB m e o k && decide ((whenS m e o k).2 = 0)) from rfl, Bool.and_eq_true, decide_eq_true_eq] at hl
      exact hl
    obtain ⟨h1, h2⟩ := sentE_later m lp s e o hd k (by omega) hl2.1
    have hn := later_num hl2.2
    have old : ∀ i, i < (sentE m lp s e o k).n → LatE m lp s e (k + 1 : Nat) ((sentE m lp s e o k).f i) := fun i hi => by
      have h := h1 i hi
      exact ⟨h.num, h.later, h.fin, h.src, h.lo, by have := h.up; omega, h.dst⟩
    unfold sentE
    by_cases hq : leqF (whenS m e o k).1 m.fin = true
    · rw [if_pos hq]
      refine ⟨fun i hi => ?_, fun i hi => ?_⟩
      · have hi : i < (sentE m lp s e o k).n + 1 := hi
        by_cases c : i = (sentE m lp s e o k).n
        · simp only [Evs.push, if_pos c]
          exact ⟨hn.1, hn.2, hq, rfl, by show s.sent ≤ s.sent + (k : Int); omega, by show s.sent + (k : Int) < s.sent + ((k + 1 : Nat) : Int); omega, hd k (by omega)⟩
        · simp only [Evs.push, if_neg c]
          exact old i (by omega)
      · have hi : i + 1 < (sentE m lp s e o k).n + 1 := hi
        by_cases c : i + 1 = (sentE m lp s e o k).n
        · have h := h1 i (by omega)
          simp only [Evs.push, if_pos c, if_neg (show ¬ i = (sentE m lp s e o k).n by omega)]
          have := h.up
          omega
        · simp only [Evs.push, if_neg c, if_neg (show ¬ i = (sentE m lp s e o k).n by omega)]
          exact h2 i (by omega)
    · rw [if_neg hq]
      exact ⟨old, h2⟩
theorem chk_prog {m : Mdl} (h : chkN m = 0) : ∀ i, i < m.np → (1 ≤ m.pl i ∧ m.pl i ≤ 48) ∧ allN (fun k => insB (m.pr i k) (m.pl i)) (m.pl i) = true := by
  unfold chkN at h
  have hm : mayB m = true := by
    cases hq : mayB m with
    | true => rfl
    | false => rw [hq] at h; exact absurd h (by decide)
  unfold mayB at hm
  simp only [Bool.and_eq_true] at hm
  obtain ⟨_, _, _, hp, _, _⟩ := hm
  intro i hi
  have := (allN_iff _ _).1 hp i hi
  unfold progB from1 at this
  simp only [Bool.and_eq_true, decide_eq_true_eq] at this
  exact this
/-- what ActLater asks of what an event does -/
structure LatH (m : Mdl) (lp : Int) (s : Sta) (e : Evn) (h : Hnd) : Prop where
  bad : h.e ≠ 0 ∨ h.f ≠ 0 → h.l.n = 0 ∧ (h.e ≠ 0 ∨ h.s = s)
  good : h.e = 0 → h.f = 0 → (∀ i, i < h.l.n → LatE m lp s e (h.s.sent - s.sent) (h.l.f i)) ∧ (∀ i, i + 1 < h.l.n → (h.l.f i).n + 1 ≤ (h.l.f (i + 1)).n) ∧ s.sent ≤ h.s.sent ∧ s.dice ≤ h.s.dice ∧ h.s.nw = s.nw ∧ h.l.n ≤ 4 ∧ h.s.sent ≤ 1099511627780 ∧ 0 ≤ s.sent ∧ isNum e.t ∧ 0 ≤ lp ∧ lp < m.nl
theorem handA_later (m : Mdl) (lp : Int) (s : Sta) (e : Evn) : LatH m lp s e (handA m lp s e) := by
  by_cases hc : chkN m = 0
  · rw [handA_good hc]
    unfold handH
    by_cases hb : badArg m lp s e
    · rw [if_pos hb]
      exact ⟨fun _ => ⟨rfl, .inl (by decide)⟩, fun h => absurd h (by decide)⟩
    · rw [if_neg hb]
      by_cases hf : (ouAt m lp s e).f = 0
      · rw [if_neg (by simp [hf])]
        by_cases hl : laterB m e (ouAt m lp s e) (ouAt m lp s e).ns = false
        · rw [if_pos hl]
          exact ⟨fun _ => ⟨rfl, .inr rfl⟩, fun _ h => absurd (show (7 : Int) = 0 from h) (by decide)⟩
        · rw [if_neg hl]
          have hl2 : laterB m e (ouAt m lp s e) (ouAt m lp s e).ns = true := by simpa using hl
          unfold badArg at hb
          simp only [not_or] at hb
          obtain ⟨b0, b1, b2, b3, b4, b5, b6, b7⟩ := hb
          have hlp := (chk_lp hc).1 lp.toNat (by omega)
          have hp : pgOf m lp < m.np := by unfold pgOf; omega
          have hmn : mayN (m.pr (pgOf m lp)) (m.pl (pgOf m lp)) (inpOf m lp s e) = 0 := by
            unfold mayN
            rw [if_pos (chk_prog hc _ hp), if_neg (show ¬ 8 < (inpOf m lp s e).nw from b3)]
          have hw := doU_whl (m.pr (pgOf m lp)) (m.pl (pgOf m lp)) (inpOf m lp s e)
          obtain ⟨w1, w2, w3⟩ := hw.good hmn hf
          have hd : s.dice ≤ (ouAt m lp s e).dice := by
            unfold ouAt doU at hf ⊢
            rw [if_pos hmn] at hf ⊢
            by_cases hq : (wholeM (m.pr (pgOf m lp)) (m.pl (pgOf m lp)) (inpOf m lp s e)).f = 0
            · rw [if_pos hq]
              exact runM_dice _ _ _ _ _ 120 (beginM (inpOf m lp s e)) (by show 0 ≤ s.dice; omega) (by show s.dice + (120 : Nat) ≤ _; omega)
            · rw [if_neg hq] at hf
              exact absurd hf hq
          obtain ⟨l1, l2⟩ := sentE_later m lp s e (ouAt m lp s e) w3 _ (Nat.le_refl _) hl2
          have hns := ouAt_ns m lp s e
          have hsn := sentE_n m lp s e (ouAt m lp s e) (ouAt m lp s e).ns
          refine ⟨fun h => by rcases h with h | h <;> exact absurd rfl h, fun _ _ => ⟨fun i hi => ?_, l2, by show s.sent ≤ s.sent + _; omega, hd, w1, by show (sentE _ _ _ _ _ _).n ≤ 4; omega, by show s.sent + _ ≤ _; omega, by omega, Classical.not_not.1 b2, by omega, by omega⟩⟩
          have := l1 i hi
          exact ⟨this.num, this.later, this.fin, this.src, this.lo, Int.lt_of_lt_of_le this.up (by show s.sent + _ ≤ s.sent + (s.sent + ((ouAt m lp s e).ns : Int) - s.sent); omega), this.dst⟩
      · rw [if_pos hf]
        exact ⟨fun _ => ⟨rfl, .inr rfl⟩, fun _ h => absurd h hf⟩
  · rw [handA_bad hc]
    exact ⟨fun _ => ⟨rfl, .inl (by decide)⟩, fun h => absurd h (by decide)⟩

end Go.Proofs.Ytplhkplfbcmbdaa
