/- The laws of layer 7 from what the program's Run and Steps answer. -/
import Derived.Test.YtehdlpgopcoecaaVmAgain
namespace Go.Proofs.Ytehdlpgopcoecaa
open Go.RowKit
set_option linter.unusedVariables false
set_option maxRecDepth 100000

/-- the program's Steps answers as the document's Of counts -/
def StepsAny : Prop :=
  ∀ (pr : Nat → I4) (pl : Nat) (vp : Value) (i : Inp) (vI : Value) (u : World), Sl 4 (gI pr) pl vp u → Sl 1 (gW i.w) i.nw vI u → Bd (beginM i) → (∀ k, r64v (pr k).b) →
    Calls Try.prog 13 #[vp, .agg #[vI, .int .i64 i.pay, .int .i64 i.me, .int .i64 i.lps, .int .i64 i.seed, .int .i64 i.dice]] u fun e w' => e = .returned (.int .i64 (if mayN pr pl i = 0 then (((wholeM pr pl i).n : Nat) : Int) else 0)) ∧ Below u.heap.size u w'

theorem vmRuns_of (HR : Hid RunAny) (pr : Nat → I4) (pl : Nat) (vp : Value) (i : Inp) (vI : Value) (w : World) (hp : Sl 4 (gI pr) pl vp w) (hw : Sl 1 (gW i.w) i.nw vI w) (hbd : Bd (beginM i)) (hb : ∀ k, r64v (pr k).b) :
    Calls Try.prog 3 #[vp, .agg #[vI, .int .i64 i.pay, .int .i64 i.me, .int .i64 i.lps, .int .i64 i.seed, .int .i64 i.dice]] w fun e w' => e = .returned (.bool true) ∧ Below w.heap.size w w' := by
  obtain ⟨ap, cp, rfl, _, _, _⟩ := id hp
  obtain ⟨aw, cw, rfl, _, _, _⟩ := id hw
  exact vmRuns_core (doU pr pl i) (mayN pr pl i) ap aw pl cp i.nw cw i.pay i.me i.lps i.seed i.dice w (fun w => awake7_any HR w)
    (fun u k => HR.out pr pl _ i _ u (hp.below k) (hw.below k) hbd hb)
    (fun u k => (do7_any pr pl _ i _ u (hp.below k) (hw.below k) hbd hb).mono fun e w' h => tells_of h)
theorem vmWhole_of (HR : Hid RunAny) (pr : Nat → I4) (pl : Nat) (vp : Value) (i : Inp) (vI : Value) (w : World) (hp : Sl 4 (gI pr) pl vp w) (hw : Sl 1 (gW i.w) i.nw vI w) (hbd : Bd (beginM i)) (hb : ∀ k, r64v (pr k).b) :
    Calls Try.prog 5 #[vp, .agg #[vI, .int .i64 i.pay, .int .i64 i.me, .int .i64 i.lps, .int .i64 i.seed, .int .i64 i.dice]] w fun e w' => e = .returned (.bool true) ∧ Below w.heap.size w w' := by
  obtain ⟨ap, cp, rfl, _, _, _⟩ := id hp
  obtain ⟨aw, cw, rfl, _, _, _⟩ := id hw
  exact vmWhole_core (doU pr pl i) (mayN pr pl i) ap aw pl cp i.nw cw i.pay i.me i.lps i.seed i.dice (doU_whl pr pl i) w (fun w => awake7_any HR w)
    (fun u k => HR.out pr pl _ i _ u (hp.below k) (hw.below k) hbd hb)
theorem vmSteps_of (HR : Hid RunAny) (HST : Hid StepsAny) (pr : Nat → I4) (pl : Nat) (vp : Value) (i : Inp) (vI : Value) (w : World) (hp : Sl 4 (gI pr) pl vp w) (hw : Sl 1 (gW i.w) i.nw vI w) (hbd : Bd (beginM i)) (hb : ∀ k, r64v (pr k).b) :
    Calls Try.prog 4 #[vp, .agg #[vI, .int .i64 i.pay, .int .i64 i.me, .int .i64 i.lps, .int .i64 i.seed, .int .i64 i.dice]] w fun e w' => e = .returned (.bool true) ∧ Below w.heap.size w w' := by
  obtain ⟨ap, cp, rfl, _, _, _⟩ := id hp
  obtain ⟨aw, cw, rfl, _, _, _⟩ := id hw
  refine vmSteps_core (if mayN pr pl i = 0 then (wholeM pr pl i).n else 0) (mayN pr pl i) ?_ (fun h => if_neg h) ap aw pl cp i.nw cw i.pay i.me i.lps i.seed i.dice w (fun w => awake7_any HR w) (fun u k => ?_) (fun u k => may7_any pr pl _ i _ u (hp.below k) (hw.below k)) (fun h0 u k => ?_)
  · split
    · exact whole_n pr pl i
    · omega
  · have := HST.out pr pl _ i _ u (hp.below k) (hw.below k) hbd hb
    by_cases h : mayN pr pl i = 0
    · rw [if_pos h] at this ⊢; exact this
    · rw [if_neg h] at this ⊢; exact this
  · have hh : ((1 ≤ pl ∧ pl ≤ 48) ∧ allN (fun k => insB (pr k) pl) pl = true) ∧ i.nw ≤ 8 := by
      unfold mayN at h0
      by_cases c : (1 ≤ pl ∧ pl ≤ 48) ∧ allN (fun k => insB (pr k) pl) pl = true
      · rw [if_pos c] at h0
        refine ⟨c, ?_⟩
        by_cases c2 : 8 < i.nw
        · rw [if_pos c2] at h0; exact absurd h0 (by decide)
        · omega
      · rw [if_neg c] at h0; exact absurd h0 (by decide)
    rw [if_pos h0]
    refine (of7_any pr pl _ i _ u (hp.below k) (hw.below k) hh.1.1.2 hh.2 ((allN_iff _ _).1 hh.1.2) hbd hb).mono ?_
    rintro e w' ⟨P, bg, vw, vs, rfl, hr, hbl⟩
    exact ⟨P, rfl, hr.cells.2.2.2.2.2.1, hbl⟩
theorem vmAgain_of (HR : Hid RunAny) (pr px : Nat → I4) (pl xl : Nat) (vp vx : Value) (i : Inp) (vI : Value) (w : World) (hp : Sl 4 (gI pr) pl vp w) (hx : Sl 4 (gI px) xl vx w) (hw : Sl 1 (gW i.w) i.nw vI w) (hbd : Bd (beginM i)) (hb : ∀ k, r64v (pr k).b) (hbx : ∀ k, r64v (px k).b) :
    Calls Try.prog 6 #[vp, .agg #[vI, .int .i64 i.pay, .int .i64 i.me, .int .i64 i.lps, .int .i64 i.seed, .int .i64 i.dice], vx] w fun e w' => e = .returned (.bool true) ∧ Below w.heap.size w w' := by
  obtain ⟨ap, cp, rfl, _, _, _⟩ := id hp
  obtain ⟨aw, cw, rfl, _, _, _⟩ := id hw
  obtain ⟨ax, cx, rfl, _, _, _⟩ := id hx
  exact vmAgain_core pr i.w ap aw ax pl cp i.nw cw xl cx i.pay i.me i.lps i.seed i.dice w hp hw (doU pr pl i) (mayN pr pl i)
    (fun u k => HR.out pr pl _ i _ u (hp.below k) (hw.below k) hbd hb)
    (fun u k => (HR.out px xl _ i _ u (hx.below k) (hw.below k) hbd hbx).mono fun e w' ⟨_, _, _, _, h1, _, h3⟩ => ⟨⟨_, h1⟩, h3⟩)
    (fun u k => (do7_any pr pl _ i _ u (hp.below k) (hw.below k) hbd hb).mono fun e w' h => tells_of h) (fun w => awake7_any HR w)
theorem vmDivides_of (HR : Hid RunAny) (a b : Int) (ha : r64v a) (hb : r64v b) (w : World) :
    Calls Try.prog 7 #[.int .i64 a, .int .i64 b] w fun e w' => e = .returned (.bool true) ∧ Below w.heap.size w w' := by
  by_cases h : b = 0
  · exact vmDivides_zero HR a b ha hb h w
  · exact vmDivides_some HR a b ha hb h w

end Go.Proofs.Ytehdlpgopcoecaa
