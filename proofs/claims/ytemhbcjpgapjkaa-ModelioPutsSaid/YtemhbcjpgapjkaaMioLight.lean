/- The contract of layer 6's light. -/
import Derived.Test.YtemhbcjpgapjkaaModelSmall
namespace Go.Proofs.Ytemhbcjpgapjkaa
open Go.RowKit
set_option linter.unusedVariables false

/-- is a model not far too great? -/
def light6B (m : Mdl) : Bool := (decide (m.np ≤ 10) && decide (m.nl ≤ 20) && decide (m.nd ≤ 60) && decide (m.ni ≤ 60)) && (allN (fun i => decide (m.pl i ≤ 100)) m.np && allN (fun i => decide (m.wl i ≤ 60)) m.nl)

set_option maxRecDepth 100000 in
set_option maxHeartbeats 3200000 in
theorem light6_core (seed : Int) (fin nd np nl ni cd cp cl ci : Nat) (ad ap al ai : Option Addr) (pl : Nat → Nat) (pr : Nat → Nat → I4) (lp : Nat → Int) (wl : Nat → Nat) (wd : Nat → Nat → Int) (w : World)
    (HP : Hid (Pgs np pl pr (.slice ap np cp) w)) (HL : Hid (Lps nl lp wl wd (.slice al nl cl) w)) (h1 : np ≤ 10) (h2 : nl ≤ 20) (h3 : nd ≤ 60) (h4 : ni ≤ 60) :
    Calls Try.prog 8 #[.agg #[.int .i64 seed, .float .f64 fin, .slice ad nd cd, .slice ap np cp, .slice al nl cl, .slice ai ni ci]] w fun e w' => e = .returned (.bool (allN (fun i => decide (pl i ≤ 100)) np && allN (fun i => decide (wl i ≤ 60)) nl)) ∧ Below w.heap.size w w' := by
  have HX := Lib.hid (Box6.new (.int .i64 seed) (.float .f64 fin) (.slice ad nd cd) (.slice ap np cp) (.slice al nl cl) (.slice ai ni ci) 28 w)
  have HA := Lib.hid (balloc w (.cells #[.int .i64 seed, .float .f64 fin, .slice ad nd cd, .slice ap np cp, .slice al nl cl, .slice ai ni ci] 28))
  have E1 : Hid (∀ i, (fun i => decide (pl i ≤ 100)) i = decide (pl i ≤ 100)) := fun i => rfl
  have E2 : Hid (∀ i, (fun i => decide (wl i ≤ 60)) i = decide (wl i ≤ 60)) := fun i => rfl
  generalize (fun i => decide (pl i ≤ 100)) = p1 at *
  generalize (fun i => decide (wl i ≤ 60)) = p2 at *
  have ER : Hid (∀ r, (allN p1 np && allN p2 nl) = r → (allN p1 np && allN p2 nl) = r) := fun r h => h
  generalize hR : (allN p1 np && allN p2 nl) = R at *
  have HR := Lib.hid hR
  clear hR ER
  obtain ⟨_, x0, x1, x2, x3, x4, x5⟩ := HX.out
  go_enter Try.func8, Try.ntmps8
  go_wp2_with fail
  go_loopw [3] (fun i wr => ∃ j : Nat, j ≤ np ∧ i = .int .i64 j ∧ allN p1 j = true ∧ wr = w.alloc (.cells #[.int .i64 seed, .float .f64 fin, .slice ad nd cd, .slice ap np cp, .slice al nl cl, .slice ai ni ci] 28)) (fun i _ => np - (intOf i).toNat)
  case atStart => exact ⟨0, by omega, rfl, rfl, rfl⟩
  case round =>
    obtain ⟨j, hj, rfl, hall, rfl⟩ := hrel
    have HAll := Lib.hid hall
    clear hall
    by_cases hlt : j < np
    · obtain ⟨g, ⟨ao, cap, ee, _, _, h3'⟩, hg⟩ := HP.out
      cases ee
      obtain ⟨b, o, rfl, hA⟩ := h3' (by omega)
      have c0 := (hA.below HA.out).one j hlt
      dsimp only [gV] at c0
      obtain ⟨aj, capj, ej, _, _, _⟩ := hg j hlt
      rw [ej] at c0
      have e := E1.out j
      clear hA h3' hg ej
      generalize pl j = n at c0 e
      have HE := Lib.hid e
      clear e
      by_cases q : 100 < n
      · have HPj : Hid (p1 j = false) := by show _ = _; rw [HE.out]; simp; omega
        go_wp2_with fail
        go_ret
        exact ⟨by rw [← HR.out, allN_false hlt HPj.out]; rfl, HA.out⟩
      · have HPj : Hid (p1 j = true) := by show _ = _; rw [HE.out]; simp; omega
        go_wp2_with fail
        go_roundw
        case rel => exact ⟨j + 1, by omega, by go_num, allN_step HAll.out HPj.out, trivial⟩
        case measure => simp [intOf]; omega
    obtain rfl : np = j := by omega
    have HD1 := HAll
    clear HAll hlt hj
    go_wp2_with fail
    go_loopw [4] (fun i wr => ∃ j : Nat, j ≤ nl ∧ i = .int .i64 j ∧ allN p2 j = true ∧ wr = w.alloc (.cells #[.int .i64 seed, .float .f64 fin, .slice ad nd cd, .slice ap np cp, .slice al nl cl, .slice ai ni ci] 28)) (fun i _ => nl - (intOf i).toNat)
    case atStart => exact ⟨0, by omega, rfl, rfl, rfl⟩
    case round =>
      obtain ⟨j, hj, rfl, hall, rfl⟩ := hrel
      have HAll := Lib.hid hall
      clear hall
      by_cases hlt : j < nl
      · obtain ⟨g, ⟨ao, cap, ee, _, _, h3'⟩, hg⟩ := HL.out
        cases ee
        obtain ⟨b, o, rfl, hA⟩ := h3' (by omega)
        obtain ⟨y0, y1⟩ := (hA.below HA.out).two j hlt
        dsimp only [gL] at y0 y1
        obtain ⟨aj, capj, ej, _, _, _⟩ := hg j hlt
        rw [ej] at y1
        have e := E2.out j
        clear hA h3' hg ej
        generalize wl j = n at y1 e
        have HE := Lib.hid e
        clear e
        by_cases q : 60 < n
        · have HPj : Hid (p2 j = false) := by show _ = _; rw [HE.out]; simp; omega
          go_wp2_with fail
          go_ret
          exact ⟨by rw [← HR.out, allN_false hlt HPj.out, Bool.and_false]; rfl, HA.out⟩
        · have HPj : Hid (p2 j = true) := by show _ = _; rw [HE.out]; simp; omega
          go_wp2_with fail
          go_roundw
          case rel => exact ⟨j + 1, by omega, by go_num, allN_step HAll.out HPj.out, trivial⟩
          case measure => simp [intOf]; omega
      obtain rfl : nl = j := by omega
      clear hlt hj
      go_wp2_with fail
      go_ret
      exact ⟨by rw [← HR.out, HD1.out, HAll.out]; rfl, HA.out⟩

set_option maxHeartbeats 800000 in
theorem light6_bad (seed : Int) (fin nd np nl ni cd cp cl ci : Nat) (ad ap al ai : Option Addr) (w : World) (h : 10 < np ∨ (np ≤ 10 ∧ 20 < nl) ∨ (np ≤ 10 ∧ nl ≤ 20 ∧ 60 < nd) ∨ (np ≤ 10 ∧ nl ≤ 20 ∧ nd ≤ 60 ∧ 60 < ni)) :
    Calls Try.prog 8 #[.agg #[.int .i64 seed, .float .f64 fin, .slice ad nd cd, .slice ap np cp, .slice al nl cl, .slice ai ni ci]] w fun e w' => e = .returned (.bool false) ∧ Below w.heap.size w w' := by
  have HA := Lib.hid (balloc w (.cells #[.int .i64 seed, .float .f64 fin, .slice ad nd cd, .slice ap np cp, .slice al nl cl, .slice ai ni ci] 28))
  go_enter Try.func8, Try.ntmps8
  rcases h with h | ⟨h1, h⟩ | ⟨h1, h2, h⟩ | ⟨h1, h2, h3, h⟩
  all_goals
    go_wp2_with fail
    go_ret
    exact ⟨rfl, HA.out⟩

theorem light6_any (m : Mdl) (vd vp vl vi : Value) (w : World) (h : MdlAt m vd vp vl vi w) :
    Calls Try.prog 8 #[mval m vd vp vl vi] w fun e w' => e = .returned (.bool (light6B m)) ∧ Below w.heap.size w w' := by
  obtain ⟨hd, hp, hl, hi⟩ := h
  have hp0 := hp
  have hl0 := hl
  obtain ⟨ad, cd, rfl, _, _, _⟩ := id hd
  obtain ⟨gp, hp1, _⟩ := hp0
  obtain ⟨ap, cp, rfl, _, _, _⟩ := hp1
  obtain ⟨gl, hl1, _⟩ := hl0
  obtain ⟨al, cl, rfl, _, _, _⟩ := hl1
  obtain ⟨ai, ci, rfl, _, _, _⟩ := id hi
  unfold mval light6B
  by_cases c : (decide (m.np ≤ 10) && decide (m.nl ≤ 20) && decide (m.nd ≤ 60) && decide (m.ni ≤ 60)) = true
  · rw [c, Bool.true_and]
    simp only [Bool.and_eq_true, decide_eq_true_eq] at c
    exact light6_core _ _ _ _ _ _ _ _ _ _ _ _ _ _ m.pl m.pr m.lp m.wl m.wd w hp hl c.1.1.1 c.1.1.2 c.1.2 c.2
  · rw [show (decide (m.np ≤ 10) && decide (m.nl ≤ 20) && decide (m.nd ≤ 60) && decide (m.ni ≤ 60)) = false by simpa using c, Bool.false_and]
    simp only [Bool.and_eq_true, decide_eq_true_eq] at c
    exact light6_bad _ _ _ _ _ _ _ _ _ _ _ _ _ _ w (by omega)

end Go.Proofs.Ytemhbcjpgapjkaa
