/- The contracts of the document's own program and Check. The contract of the document's own Check, whole. -/
import Derived.Test.YthkfaeplmmlnlaaGreatRZ6
import Derived.Test.YthkfaeplmmlnlaaGreatRZ0
import Derived.Test.YthkfaeplmmlnlaaGreatRZ3
import Derived.Test.YthkfaeplmmlnlaaGreatRZ14
namespace Go.Proofs.YthkfaeplmmlnlaaGreat
open Go.RowKit
set_option linter.unusedVariables false

set_option maxHeartbeats 1600000 in
theorem refProgram_any (f : Nat → I4) (n : Nat) (v : Value) (w : World) (h : Sl 4 (gI f) n v w) :
    Calls Tryz.prog 26 #[v] w fun e w' => e = .returned (.bool (progB f n)) ∧ Below w.heap.size w w' := by
  obtain ⟨ao, cap, rfl, h1, h2, h3⟩ := h
  have H3 := Lib.hid h3
  clear h3
  have HC := Lib.hid (fun i w => refIns_any (f i) n w)
  have EP : Hid (progB f n = (from1 48 n && allN (fun i => insB (f i) n) n)) := rfl
  have EF : Hid (from1 48 n = (decide (1 ≤ n) && decide (n ≤ 48))) := rfl
  generalize progB f n = s at *
  generalize from1 48 n = t at *
  generalize hp : (fun i => insB (f i) n) = p at *
  have hp2 : ∀ i, insB (f i) n = p i := fun i => congrFun hp i
  simp only [hp2] at HC
  clear hp hp2
  go_enter Tryz.func26, Tryz.ntmps26
  go_wp2_with fail
  go_loopw [3] (fun i wr => ∃ j : Nat, j ≤ n ∧ i = .int .i64 j ∧ allN p j = true ∧ Below w.heap.size w wr) (fun i _ => n - (intOf i).toNat)
  case atStart => exact ⟨0, by omega, rfl, rfl, Below.refl _ _⟩
  case round =>
    obtain ⟨j, hj, rfl, hall, hl⟩ := hrel
    have HL := Lib.hid hl
    have HAll := Lib.hid hall
    clear hall
    by_cases hlt : j < n
    · obtain ⟨b, o, rfl, hA⟩ := H3.out (by omega)
      obtain ⟨_, x0, x1, x2, x3⟩ := (hA.below hl).box4 j hlt
      have HC2 := Lib.hid (HC.out j)
      generalize f j = s at x0 x1 x2 x3 HC2
      obtain ⟨a0, a1, a2, a3⟩ := s
      dsimp only at x0 x1 x2 x3 HC2
      generalize hpj : p j = r at *
      have HP := Lib.hid hpj
      clear hpj hl hA
      cases r
      · go_wp2_with (go_at_call 58; refine (HC2.out _).mono ?_; rintro e w2 ⟨rfl, hb2⟩)
        go_ret
        exact ⟨by rw [EP.out, allN_false hlt HP.out, Bool.and_false]; rfl, bthen HL.out hb2⟩
      · go_wp2_with (go_at_call 58; refine (HC2.out _).mono ?_; rintro e w2 ⟨rfl, hb2⟩)
        go_roundw
        case rel => exact ⟨j + 1, by omega, by go_num, allN_step HAll.out HP.out, bthen HL.out hb2⟩
        case measure => simp [intOf]; omega
    · obtain rfl : j = n := by omega
      clear hl
      go_wp2_with fail
      all_goals
        go_ret
        refine ⟨?_, HL.out⟩
        rw [EP.out, HAll.out, EF.out]
        simp
        first
          | done
          | omega
          | (rw [Bool.eq_iff_iff]; simp; omega)

set_option maxHeartbeats 800000 in
theorem refCheck_b0 (seed : Int) (fin nd np nl ni cd cp cl ci : Nat) (ad ap al ai : Option Addr)  (hz : nl < 1) (w : World) :
    Calls Tryz.prog 8 #[.agg #[.int .i64 seed, .float .f64 fin, .slice ad nd cd, .slice ap np cp, .slice al nl cl, .slice ai ni ci]] w fun e w' => e = .returned (.int .i64 15) ∧ Below w.heap.size w w' := by
  have HB := Lib.hid (balloc w (.cells #[.int .i64 seed, .float .f64 fin, .slice ad nd cd, .slice ap np cp, .slice al nl cl, .slice ai ni ci] 28))
  go_enter Tryz.func8, Tryz.ntmps8
  go_wp2_with fail
  go_ret
  exact ⟨rfl, HB.out⟩

set_option maxHeartbeats 800000 in
theorem refCheck_b1 (seed : Int) (fin nd np nl ni cd cp cl ci : Nat) (ad ap al ai : Option Addr) (h1 : 1 ≤ nl) (hz : 6 < nl) (w : World) :
    Calls Tryz.prog 8 #[.agg #[.int .i64 seed, .float .f64 fin, .slice ad nd cd, .slice ap np cp, .slice al nl cl, .slice ai ni ci]] w fun e w' => e = .returned (.int .i64 15) ∧ Below w.heap.size w w' := by
  have HB := Lib.hid (balloc w (.cells #[.int .i64 seed, .float .f64 fin, .slice ad nd cd, .slice ap np cp, .slice al nl cl, .slice ai ni ci] 28))
  go_enter Tryz.func8, Tryz.ntmps8
  go_wp2_with fail
  go_ret
  exact ⟨rfl, HB.out⟩

set_option maxHeartbeats 800000 in
theorem refCheck_b2 (seed : Int) (fin nd np nl ni cd cp cl ci : Nat) (ad ap al ai : Option Addr) (h1 : 1 ≤ nl) (h2 : nl ≤ 6) (hz : np < 1) (w : World) :
    Calls Tryz.prog 8 #[.agg #[.int .i64 seed, .float .f64 fin, .slice ad nd cd, .slice ap np cp, .slice al nl cl, .slice ai ni ci]] w fun e w' => e = .returned (.int .i64 15) ∧ Below w.heap.size w w' := by
  have HB := Lib.hid (balloc w (.cells #[.int .i64 seed, .float .f64 fin, .slice ad nd cd, .slice ap np cp, .slice al nl cl, .slice ai ni ci] 28))
  go_enter Tryz.func8, Tryz.ntmps8
  go_wp2_with fail
  go_ret
  exact ⟨rfl, HB.out⟩

set_option maxHeartbeats 800000 in
theorem refCheck_b3 (seed : Int) (fin nd np nl ni cd cp cl ci : Nat) (ad ap al ai : Option Addr) (h1 : 1 ≤ nl) (h2 : nl ≤ 6) (h3 : 1 ≤ np) (hz : 4 < np) (w : World) :
    Calls Tryz.prog 8 #[.agg #[.int .i64 seed, .float .f64 fin, .slice ad nd cd, .slice ap np cp, .slice al nl cl, .slice ai ni ci]] w fun e w' => e = .returned (.int .i64 15) ∧ Below w.heap.size w w' := by
  have HB := Lib.hid (balloc w (.cells #[.int .i64 seed, .float .f64 fin, .slice ad nd cd, .slice ap np cp, .slice al nl cl, .slice ai ni ci] 28))
  go_enter Tryz.func8, Tryz.ntmps8
  go_wp2_with fail
  go_ret
  exact ⟨rfl, HB.out⟩

set_option maxHeartbeats 800000 in
theorem refCheck_b4 (seed : Int) (fin nd np nl ni cd cp cl ci : Nat) (ad ap al ai : Option Addr) (h1 : 1 ≤ nl) (h2 : nl ≤ 6) (h3 : 1 ≤ np) (h4 : np ≤ 4) (hz : nd < 1) (w : World) :
    Calls Tryz.prog 8 #[.agg #[.int .i64 seed, .float .f64 fin, .slice ad nd cd, .slice ap np cp, .slice al nl cl, .slice ai ni ci]] w fun e w' => e = .returned (.int .i64 15) ∧ Below w.heap.size w w' := by
  have HB := Lib.hid (balloc w (.cells #[.int .i64 seed, .float .f64 fin, .slice ad nd cd, .slice ap np cp, .slice al nl cl, .slice ai ni ci] 28))
  go_enter Tryz.func8, Tryz.ntmps8
  go_wp2_with fail
  go_ret
  exact ⟨rfl, HB.out⟩

set_option maxHeartbeats 800000 in
theorem refCheck_b5 (seed : Int) (fin nd np nl ni cd cp cl ci : Nat) (ad ap al ai : Option Addr) (h1 : 1 ≤ nl) (h2 : nl ≤ 6) (h3 : 1 ≤ np) (h4 : np ≤ 4) (h5 : 1 ≤ nd) (hz : 8 < nd) (w : World) :
    Calls Tryz.prog 8 #[.agg #[.int .i64 seed, .float .f64 fin, .slice ad nd cd, .slice ap np cp, .slice al nl cl, .slice ai ni ci]] w fun e w' => e = .returned (.int .i64 15) ∧ Below w.heap.size w w' := by
  have HB := Lib.hid (balloc w (.cells #[.int .i64 seed, .float .f64 fin, .slice ad nd cd, .slice ap np cp, .slice al nl cl, .slice ai ni ci] 28))
  go_enter Tryz.func8, Tryz.ntmps8
  go_wp2_with fail
  go_ret
  exact ⟨rfl, HB.out⟩

set_option maxHeartbeats 800000 in
theorem refCheck_b6 (seed : Int) (fin nd np nl ni cd cp cl ci : Nat) (ad ap al ai : Option Addr) (h1 : 1 ≤ nl) (h2 : nl ≤ 6) (h3 : 1 ≤ np) (h4 : np ≤ 4) (h5 : 1 ≤ nd) (h6 : nd ≤ 8) (hz : 16 < ni) (w : World) :
    Calls Tryz.prog 8 #[.agg #[.int .i64 seed, .float .f64 fin, .slice ad nd cd, .slice ap np cp, .slice al nl cl, .slice ai ni ci]] w fun e w' => e = .returned (.int .i64 15) ∧ Below w.heap.size w w' := by
  have HB := Lib.hid (balloc w (.cells #[.int .i64 seed, .float .f64 fin, .slice ad nd cd, .slice ap np cp, .slice al nl cl, .slice ai ni ci] 28))
  go_enter Tryz.func8, Tryz.ntmps8
  go_wp2_with fail
  go_ret
  exact ⟨rfl, HB.out⟩

set_option maxHeartbeats 800000 in
theorem refCheck_b7 (seed : Int) (fin nd np nl ni cd cp cl ci : Nat) (ad ap al ai : Option Addr) (h1 : 1 ≤ nl) (h2 : nl ≤ 6) (h3 : 1 ≤ np) (h4 : np ≤ 4) (h5 : 1 ≤ nd) (h6 : nd ≤ 8) (h7 : ni ≤ 16) (hz : (FloatKind.f64.format.order fin fin != some Ordering.eq) = true) (w : World) :
    Calls Tryz.prog 8 #[.agg #[.int .i64 seed, .float .f64 fin, .slice ad nd cd, .slice ap np cp, .slice al nl cl, .slice ai ni ci]] w fun e w' => e = .returned (.int .i64 15) ∧ Below w.heap.size w w' := by
  have HB := Lib.hid (balloc w (.cells #[.int .i64 seed, .float .f64 fin, .slice ad nd cd, .slice ap np cp, .slice al nl cl, .slice ai ni ci] 28))
  go_enter Tryz.func8, Tryz.ntmps8
  go_wp2_with fail
  go_ret
  exact ⟨rfl, HB.out⟩

/-- the rest of the document's Check, behind the counts -/
def restB (m : Mdl) : Bool := allN (fun i => posF (m.d i)) m.nd && (allN (fun i => progB (m.pr i) (m.pl i)) m.np && (allN (fun i => lpB m.np (m.lp i) (m.wl i)) m.nl && allN (fun i => evB m.nl (m.ev i)) m.ni))

set_option maxRecDepth 100000 in
set_option maxHeartbeats 6400000 in
theorem refCheck_good (seed : Int) (fin nd np nl ni cd cp cl ci : Nat) (ad ap al ai : Option Addr) (h1 : 1 ≤ nl) (h2 : nl ≤ 6) (h3 : 1 ≤ np) (h4 : np ≤ 4) (h5 : 1 ≤ nd) (h6 : nd ≤ 8) (h7 : ni ≤ 16) (h8 : (FloatKind.f64.format.order fin fin != some Ordering.eq) = false)
    (d : Nat → Nat) (pl : Nat → Nat) (pr : Nat → Nat → I4) (lp : Nat → Int) (wl : Nat → Nat) (wd : Nat → Nat → Int) (ev : Nat → Ev) (w : World)
    (HD : Hid (Sl 1 (gF d) nd (.slice ad nd cd) w)) (HP : Hid (Pgs np pl pr (.slice ap np cp) w)) (HL : Hid (Lps nl lp wl wd (.slice al nl cl) w)) (HI : Hid (Sl 3 (gE ev) ni (.slice ai ni ci) w)) :
    Calls Tryz.prog 8 #[.agg #[.int .i64 seed, .float .f64 fin, .slice ad nd cd, .slice ap np cp, .slice al nl cl, .slice ai ni ci]] w fun e w' => e = .returned (.int .i64 (if (allN (fun i => posF (d i)) nd && (allN (fun i => progB (pr i) (pl i)) np && (allN (fun i => lpB np (lp i) (wl i)) nl && allN (fun i => evB nl (ev i)) ni))) = true then 0 else 15)) ∧ Below w.heap.size w w' := by
  have HX := Lib.hid (Box6.new (.int .i64 seed) (.float .f64 fin) (.slice ad nd cd) (.slice ap np cp) (.slice al nl cl) (.slice ai ni ci) 28 w)
  have HA := Lib.hid (balloc w (.cells #[.int .i64 seed, .float .f64 fin, .slice ad nd cd, .slice ap np cp, .slice al nl cl, .slice ai ni ci] 28))
  have HC := Lib.hid (fun i v w h => refProgram_any (pr i) (pl i) v w h)
  have E1 : Hid (∀ i, posF (d i) = (FloatKind.f64.format.order (d i) 0 == some .gt)) := fun i => by have := ord_gt (d i) 0; rw [this]; simp [posF, isNum_zero, ford_zero]
  have E3 : Hid (∀ i, lpB np (lp i) (wl i) = (decide (0 ≤ lp i) && decide (lp i < np) && decide (wl i ≤ 8))) := fun i => rfl
  have E4 : Hid (∀ i, evB nl (ev i) = (!(FloatKind.f64.format.order (ev i).t (ev i).t != some .eq) && (decide (0 ≤ (ev i).dst) && decide ((ev i).dst < nl)))) := fun i => by have := ord_eq (ev i).t (ev i).t; simp only [bne, this]; simp [evB, numF, oneOf]
  generalize hp1 : (fun i => posF (d i)) = p1 at *
  have e1 : ∀ i, posF (d i) = p1 i := fun i => congrFun hp1 i
  simp only [e1] at E1
  clear hp1 e1
  generalize hp2 : (fun i => progB (pr i) (pl i)) = p2 at *
  have e2 : ∀ i, progB (pr i) (pl i) = p2 i := fun i => congrFun hp2 i
  simp only [e2] at HC
  clear hp2 e2
  generalize hp3 : (fun i => lpB np (lp i) (wl i)) = p3 at *
  have e3 : ∀ i, lpB np (lp i) (wl i) = p3 i := fun i => congrFun hp3 i
  simp only [e3] at E3
  clear hp3 e3
  generalize hp4 : (fun i => evB nl (ev i)) = p4 at *
  have e4 : ∀ i, evB nl (ev i) = p4 i := fun i => congrFun hp4 i
  simp only [e4] at E4
  clear hp4 e4
  have ER : Hid (∀ r, (allN p1 nd && (allN p2 np && (allN p3 nl && allN p4 ni))) = r → (if (allN p1 nd && (allN p2 np && (allN p3 nl && allN p4 ni))) = true then (0 : Int) else 15) = if r = true then 0 else 15) := fun r h => by rw [h]
  generalize (if (allN p1 nd && (allN p2 np && (allN p3 nl && allN p4 ni))) = true then (0 : Int) else 15) = R at *
  obtain ⟨_, x0, x1, x2, x3, x4, x5⟩ := HX.out
  go_enter Tryz.func8, Tryz.ntmps8
  go_wp2_with fail
  go_loopw [3] (fun i wr => ∃ j : Nat, j ≤ nd ∧ i = .int .i64 j ∧ allN p1 j = true ∧ Cls (w.alloc (.cells #[.int .i64 seed, .float .f64 fin, .slice ad nd cd, .slice ap np cp, .slice al nl cl, .slice ai ni ci] 28)) wr) (fun i _ => nd - (intOf i).toNat)
  case atStart => exact ⟨0, by omega, rfl, rfl, Below.refl _ _⟩
  case round =>
    clear x0 x1 x2 x3 x4 x5
    obtain ⟨j, hj, rfl, hall, hl⟩ := hrel
    have HAll := Lib.hid hall
    have HW := Lib.hid hl
    obtain ⟨_, x0, x1, x2, x3, x4, x5⟩ := HX.out.below hl.out
    clear hall
    by_cases hlt : j < nd
    · obtain ⟨ao, cap, ee, _, _, h3⟩ := HD.out
      cases ee
      obtain ⟨b, o, rfl, hA⟩ := h3 (by omega)
      have c0 := (hA.below (bthen HA.out hl.out)).one j hlt
      dsimp only [gF] at c0
      have e := E1.out j
      clear hl hA h3
      generalize hpj : p1 j = r at *
      have HPj := Lib.hid hpj
      clear hpj
      have e2 := e.symm
      clear e
      cases r
      · go_wp2_with fail
        go_ret
        exact ⟨by rw [ER.out false (by rw [allN_false hlt HPj.out]; rfl)]; rfl, bthen HA.out HW.out⟩
      · go_wp2_with fail
        go_roundw
        case rel => exact ⟨j + 1, by omega, by go_num, allN_step HAll.out HPj.out, HW.out⟩
        case measure => simp [intOf]; omega
    obtain rfl : nd = j := by omega
    have HD1 := HAll
    clear hl HAll hlt hj
    go_wp2_with fail
    clear x0 x1 x2 x3 x4 x5
    go_loopw [4] (fun i wr => ∃ j : Nat, j ≤ np ∧ i = .int .i64 j ∧ allN p2 j = true ∧ Cls (w.alloc (.cells #[.int .i64 seed, .float .f64 fin, .slice ad nd cd, .slice ap np cp, .slice al nl cl, .slice ai ni ci] 28)) wr) (fun i _ => np - (intOf i).toNat)
    case atStart => exact ⟨0, by omega, rfl, rfl, HW.out⟩
    case round =>
      clear HW
      obtain ⟨j, hj, rfl, hall, hl⟩ := hrel
      have HAll := Lib.hid hall
      have HW := Lib.hid hl
      obtain ⟨_, x0, x1, x2, x3, x4, x5⟩ := HX.out.below hl.out
      clear hall
      by_cases hlt : j < np
      · obtain ⟨g, ⟨ao, cap, ee, _, _, h3⟩, hg⟩ := HP.out
        cases ee
        obtain ⟨b, o, rfl, hA⟩ := h3 (by omega)
        have c0 := (hA.below (bthen HA.out hl.out)).one j hlt
        dsimp only [gV] at c0
        have hs := (hg j hlt).below (bthen HA.out hl.out)
        have HS := Lib.hid hs
        obtain ⟨aj, capj, ej, _, _, _⟩ := hs
        rw [ej] at c0 HS
        have HC2 := Lib.hid (HC.out j)
        clear ej hl hA h3 hg
        generalize hpj : p2 j = r at *
        have HPj := Lib.hid hpj
        clear hpj
        cases r
        · go_wp2_with (go_at_call 26; refine (HC2.out _ _ HS.out).mono ?_; rintro e w2 ⟨rfl, hb2⟩)
          go_ret
          exact ⟨by rw [ER.out false (by rw [allN_false hlt HPj.out]; simp)]; rfl, bthen HA.out (HW.out.on hb2).out⟩
        · go_wp2_with (go_at_call 26; refine (HC2.out _ _ HS.out).mono ?_; rintro e w2 ⟨rfl, hb2⟩)
          go_roundw
          case rel => exact ⟨j + 1, by omega, by go_num, allN_step HAll.out HPj.out, HW.out.on hb2⟩
          case measure => simp [intOf]; omega
      obtain rfl : np = j := by omega
      have HD2 := HAll
      clear hl HAll hlt hj
      go_wp2_with fail
      clear x0 x1 x2 x3 x4 x5
      go_loopw [5] (fun i wr => ∃ k : Nat, k ≤ nl ∧ i = .int .i64 k ∧ allN p3 k = true ∧ Cls (w.alloc (.cells #[.int .i64 seed, .float .f64 fin, .slice ad nd cd, .slice ap np cp, .slice al nl cl, .slice ai ni ci] 28)) wr) (fun i _ => nl - (intOf i).toNat)
      case atStart => exact ⟨0, by omega, rfl, rfl, HW.out⟩
      case round =>
        clear HW
        obtain ⟨j, hj, rfl, hall, hl⟩ := hrel
        have HAll := Lib.hid hall
        have HW := Lib.hid hl
        obtain ⟨_, x0, x1, x2, x3, x4, x5⟩ := HX.out.below hl.out
        clear hall
        by_cases hlt : j < nl
        · obtain ⟨g, ⟨ao, cap, ee, _, _, h3'⟩, hg⟩ := HL.out
          cases ee
          obtain ⟨b, o, rfl, hA⟩ := h3' (by omega)
          obtain ⟨y0, y1⟩ := (hA.below (bthen HA.out hl.out)).two j hlt
          dsimp only [gL] at y0 y1
          obtain ⟨aj, capj, ej, _, _, _⟩ := hg j hlt
          rw [ej] at y1
          have e := E3.out j
          clear hl hA h3' hg ej
          generalize lp j = x at y0 e
          generalize wl j = n at y1 e
          have HE := Lib.hid e
          clear e
          have hj2 : (j : Int) < (nl : Int) := by omega
          have hj0 : (0 : Int) ≤ (j : Int) := by omega
          by_cases q1 : x < 0
          · have d1 : decide (x < 0) = true := by simpa using q1
            have HPj : Hid (p3 j = false) := by show _ = _; rw [HE.out]; simp; omega
            clear q1
            go_wp2_with fail
            refine wp_region_held_drew (S := (fun w' => (w'.cell? ⟨w.heap.size, 3, none⟩ = some (.slice ap np cp) ∧ w'.cell? ⟨w.heap.size, 4, none⟩ = some (.slice (some ⟨b, o, none⟩) nl cl)) ∧ w'.cell? ⟨b, o + j * 2, none⟩ = some (.int .i64 x) ∧ w'.cell? ⟨b, o + j * 2 + 1, none⟩ = some (.slice aj n capj))) (by kernel_rfl) ?_ (fun hHeld => ?_)
            · exact ⟨⟨x3, x4⟩, y0, y1⟩
            first | refine tq0 0 rfl ?_ | refine tq1 0 rfl ?_
            try go_frame
            first | refine tq0 1 rfl ?_ | refine tq1 1 rfl ?_
            try go_frame
            first | refine tq0 2 rfl ?_ | refine tq1 2 rfl ?_
            try go_frame
            first | refine tq0 3 rfl ?_ | refine tq1 3 rfl ?_
            try go_frame
            first | refine tq0 4 rfl ?_ | refine tq1 4 rfl ?_
            try go_frame
            first | refine tq0 5 rfl ?_ | refine tq1 5 rfl ?_
            try go_frame
            first | refine tq0 6 rfl ?_ | refine tq1 6 rfl ?_
            try go_frame
            first | refine tq0 7 rfl ?_ | refine tq1 7 rfl ?_
            try go_frame
            first | refine tq0 8 rfl ?_ | refine tq1 8 rfl ?_
            try go_frame
            first | refine tq0 9 rfl ?_ | refine tq1 9 rfl ?_
            try go_frame
            first | refine tq0 10 rfl ?_ | refine tq1 10 rfl ?_
            try go_frame
            first | refine tq0 11 rfl ?_ | refine tq1 11 rfl ?_
            try go_frame
            first | refine tq0 12 rfl ?_ | refine tq1 12 rfl ?_
            try go_frame
            first | refine tq0 13 rfl ?_ | refine tq1 13 rfl ?_
            try go_frame
            first | refine tq0 14 rfl ?_ | refine tq1 14 rfl ?_
            try go_frame
            first | refine tq0 15 rfl ?_ | refine tq1 15 rfl ?_
            try go_frame
            first | refine tq0 16 rfl ?_ | refine tq1 16 rfl ?_
            try go_frame
            first | refine tq0 17 rfl ?_ | refine tq1 17 rfl ?_
            try go_frame
            first | refine tq0 18 rfl ?_ | refine tq1 18 rfl ?_
            try go_frame
            first | refine tq0 19 rfl ?_ | refine tq1 19 rfl ?_
            try go_frame
            first | refine tq0 20 rfl ?_ | refine tq1 20 rfl ?_
            try go_frame
            first | refine tq0 21 rfl ?_ | refine tq1 21 rfl ?_
            try go_frame
            first | refine tq0 22 rfl ?_ | refine tq1 22 rfl ?_
            try go_frame
            first | refine tq0 23 rfl ?_ | refine tq1 23 rfl ?_
            try go_frame
            first | refine tq0 24 rfl ?_ | refine tq1 24 rfl ?_
            try go_frame
            first | refine tq0 25 rfl ?_ | refine tq1 25 rfl ?_
            try go_frame
            first | refine tq0 26 rfl ?_ | refine tq1 26 rfl ?_
            try go_frame
            first | refine tq0 27 rfl ?_ | refine tq1 27 rfl ?_
            try go_frame
            first | refine tq0 28 rfl ?_ | refine tq1 28 rfl ?_
            try go_frame
            refine wpAnyH_done (by kernel_rfl) ?_ _
            go_wp2_with fail
            go_ret
            exact ⟨by rw [ER.out false (by rw [allN_false hlt HPj.out]; simp)]; rfl, bthen HA.out (HW.out.on (bdrew _)).out⟩
          have d1 : decide (x < 0) = false := by simpa using q1
          by_cases q2 : (np : Int) ≤ x
          · have d2 : decide ((np : Int) ≤ x) = true := by simpa using q2
            have HPj : Hid (p3 j = false) := by show _ = _; rw [HE.out]; simp; omega
            clear q1 q2
            go_wp2_with fail
            refine wp_region_held_drew (S := (fun w' => (w'.cell? ⟨w.heap.size, 3, none⟩ = some (.slice ap np cp) ∧ w'.cell? ⟨w.heap.size, 4, none⟩ = some (.slice (some ⟨b, o, none⟩) nl cl)) ∧ w'.cell? ⟨b, o + j * 2, none⟩ = some (.int .i64 x) ∧ w'.cell? ⟨b, o + j * 2 + 1, none⟩ = some (.slice aj n capj))) (by kernel_rfl) ?_ (fun hHeld => ?_)
            · exact ⟨⟨x3, x4⟩, y0, y1⟩
            first | refine tq0 0 rfl ?_ | refine tq1 0 rfl ?_
            try go_frame
            first | refine tq0 1 rfl ?_ | refine tq1 1 rfl ?_
            try go_frame
            first | refine tq0 2 rfl ?_ | refine tq1 2 rfl ?_
            try go_frame
            first | refine tq0 3 rfl ?_ | refine tq1 3 rfl ?_
            try go_frame
            first | refine tq0 4 rfl ?_ | refine tq1 4 rfl ?_
            try go_frame
            first | refine tq0 5 rfl ?_ | refine tq1 5 rfl ?_
            try go_frame
            first | refine tq0 6 rfl ?_ | refine tq1 6 rfl ?_
            try go_frame
            first | refine tq0 7 rfl ?_ | refine tq1 7 rfl ?_
            try go_frame
            first | refine tq0 8 rfl ?_ | refine tq1 8 rfl ?_
            try go_frame
            first | refine tq0 9 rfl ?_ | refine tq1 9 rfl ?_
            try go_frame
            first | refine tq0 10 rfl ?_ | refine tq1 10 rfl ?_
            try go_frame
            first | refine tq0 11 rfl ?_ | refine tq1 11 rfl ?_
            try go_frame
            first | refine tq0 12 rfl ?_ | refine tq1 12 rfl ?_
            try go_frame
            first | refine tq0 13 rfl ?_ | refine tq1 13 rfl ?_
            try go_frame
            first | refine tq0 14 rfl ?_ | refine tq1 14 rfl ?_
            try go_frame
            first | refine tq0 15 rfl ?_ | refine tq1 15 rfl ?_
            try go_frame
            first | refine tq0 16 rfl ?_ | refine tq1 16 rfl ?_
            try go_frame
            first | refine tq0 17 rfl ?_ | refine tq1 17 rfl ?_
            try go_frame
            first | refine tq0 18 rfl ?_ | refine tq1 18 rfl ?_
            try go_frame
            first | refine tq0 19 rfl ?_ | refine tq1 19 rfl ?_
            try go_frame
            first | refine tq0 20 rfl ?_ | refine tq1 20 rfl ?_
            try go_frame
            first | refine tq0 21 rfl ?_ | refine tq1 21 rfl ?_
            try go_frame
            first | refine tq0 22 rfl ?_ | refine tq1 22 rfl ?_
            try go_frame
            first | refine tq0 23 rfl ?_ | refine tq1 23 rfl ?_
            try go_frame
            first | refine tq0 24 rfl ?_ | refine tq1 24 rfl ?_
            try go_frame
            first | refine tq0 25 rfl ?_ | refine tq1 25 rfl ?_
            try go_frame
            first | refine tq0 26 rfl ?_ | refine tq1 26 rfl ?_
            try go_frame
            first | refine tq0 27 rfl ?_ | refine tq1 27 rfl ?_
            try go_frame
            first | refine tq0 28 rfl ?_ | refine tq1 28 rfl ?_
            try go_frame
            refine wpAnyH_done (by kernel_rfl) ?_ _
            go_wp2_with fail
            go_ret
            exact ⟨by rw [ER.out false (by rw [allN_false hlt HPj.out]; simp)]; rfl, bthen HA.out (HW.out.on (bdrew _)).out⟩
          have d2 : decide ((np : Int) ≤ x) = false := by simpa using q2
          by_cases q3 : 8 < n
          · have d3 : decide ((8 : Int) < (n : Int)) = true := by simp; omega
            have HPj : Hid (p3 j = false) := by show _ = _; rw [HE.out]; simp; omega
            clear q1 q2 q3
            go_wp2_with fail
            refine wp_region_held_drew (S := (fun w' => (w'.cell? ⟨w.heap.size, 3, none⟩ = some (.slice ap np cp) ∧ w'.cell? ⟨w.heap.size, 4, none⟩ = some (.slice (some ⟨b, o, none⟩) nl cl)) ∧ w'.cell? ⟨b, o + j * 2, none⟩ = some (.int .i64 x) ∧ w'.cell? ⟨b, o + j * 2 + 1, none⟩ = some (.slice aj n capj))) (by kernel_rfl) ?_ (fun hHeld => ?_)
            · exact ⟨⟨x3, x4⟩, y0, y1⟩
            first | refine tq0 0 rfl ?_ | refine tq1 0 rfl ?_
            try go_frame
            first | refine tq0 1 rfl ?_ | refine tq1 1 rfl ?_
            try go_frame
            first | refine tq0 2 rfl ?_ | refine tq1 2 rfl ?_
            try go_frame
            first | refine tq0 3 rfl ?_ | refine tq1 3 rfl ?_
            try go_frame
            first | refine tq0 4 rfl ?_ | refine tq1 4 rfl ?_
            try go_frame
            first | refine tq0 5 rfl ?_ | refine tq1 5 rfl ?_
            try go_frame
            first | refine tq0 6 rfl ?_ | refine tq1 6 rfl ?_
            try go_frame
            first | refine tq0 7 rfl ?_ | refine tq1 7 rfl ?_
            try go_frame
            first | refine tq0 8 rfl ?_ | refine tq1 8 rfl ?_
            try go_frame
            first | refine tq0 9 rfl ?_ | refine tq1 9 rfl ?_
            try go_frame
            first | refine tq0 10 rfl ?_ | refine tq1 10 rfl ?_
            try go_frame
            first | refine tq0 11 rfl ?_ | refine tq1 11 rfl ?_
            try go_frame
            first | refine tq0 12 rfl ?_ | refine tq1 12 rfl ?_
            try go_frame
            first | refine tq0 13 rfl ?_ | refine tq1 13 rfl ?_
            try go_frame
            first | refine tq0 14 rfl ?_ | refine tq1 14 rfl ?_
            try go_frame
            first | refine tq0 15 rfl ?_ | refine tq1 15 rfl ?_
            try go_frame
            first | refine tq0 16 rfl ?_ | refine tq1 16 rfl ?_
            try go_frame
            first | refine tq0 17 rfl ?_ | refine tq1 17 rfl ?_
            try go_frame
            first | refine tq0 18 rfl ?_ | refine tq1 18 rfl ?_
            try go_frame
            first | refine tq0 19 rfl ?_ | refine tq1 19 rfl ?_
            try go_frame
            first | refine tq0 20 rfl ?_ | refine tq1 20 rfl ?_
            try go_frame
            first | refine tq0 21 rfl ?_ | refine tq1 21 rfl ?_
            try go_frame
            first | refine tq0 22 rfl ?_ | refine tq1 22 rfl ?_
            try go_frame
            first | refine tq0 23 rfl ?_ | refine tq1 23 rfl ?_
            try go_frame
            first | refine tq0 24 rfl ?_ | refine tq1 24 rfl ?_
            try go_frame
            first | refine tq0 25 rfl ?_ | refine tq1 25 rfl ?_
            try go_frame
            first | refine tq0 26 rfl ?_ | refine tq1 26 rfl ?_
            try go_frame
            first | refine tq0 27 rfl ?_ | refine tq1 27 rfl ?_
            try go_frame
            first | refine tq0 28 rfl ?_ | refine tq1 28 rfl ?_
            try go_frame
            refine wpAnyH_done (by kernel_rfl) ?_ _
            go_wp2_with fail
            go_ret
            exact ⟨by rw [ER.out false (by rw [allN_false hlt HPj.out]; simp)]; rfl, bthen HA.out (HW.out.on (bdrew _)).out⟩
          · have d3 : decide ((8 : Int) < (n : Int)) = false := by simp; omega
            have HPj : Hid (p3 j = true) := by show _ = _; rw [HE.out]; simp; omega
            clear q1 q2 q3
            go_wp2_with fail
            refine wp_region_held_drew (S := (fun w' => (w'.cell? ⟨w.heap.size, 3, none⟩ = some (.slice ap np cp) ∧ w'.cell? ⟨w.heap.size, 4, none⟩ = some (.slice (some ⟨b, o, none⟩) nl cl)) ∧ w'.cell? ⟨b, o + j * 2, none⟩ = some (.int .i64 x) ∧ w'.cell? ⟨b, o + j * 2 + 1, none⟩ = some (.slice aj n capj))) (by kernel_rfl) ?_ (fun hHeld => ?_)
            · exact ⟨⟨x3, x4⟩, y0, y1⟩
            first | refine tq0 0 rfl ?_ | refine tq1 0 rfl ?_
            try go_frame
            first | refine tq0 1 rfl ?_ | refine tq1 1 rfl ?_
            try go_frame
            first | refine tq0 2 rfl ?_ | refine tq1 2 rfl ?_
            try go_frame
            first | refine tq0 3 rfl ?_ | refine tq1 3 rfl ?_
            try go_frame
            first | refine tq0 4 rfl ?_ | refine tq1 4 rfl ?_
            try go_frame
            first | refine tq0 5 rfl ?_ | refine tq1 5 rfl ?_
            try go_frame
            first | refine tq0 6 rfl ?_ | refine tq1 6 rfl ?_
            try go_frame
            first | refine tq0 7 rfl ?_ | refine tq1 7 rfl ?_
            try go_frame
            first | refine tq0 8 rfl ?_ | refine tq1 8 rfl ?_
            try go_frame
            first | refine tq0 9 rfl ?_ | refine tq1 9 rfl ?_
            try go_frame
            first | refine tq0 10 rfl ?_ | refine tq1 10 rfl ?_
            try go_frame
            first | refine tq0 11 rfl ?_ | refine tq1 11 rfl ?_
            try go_frame
            first | refine tq0 12 rfl ?_ | refine tq1 12 rfl ?_
            try go_frame
            first | refine tq0 13 rfl ?_ | refine tq1 13 rfl ?_
            try go_frame
            first | refine tq0 14 rfl ?_ | refine tq1 14 rfl ?_
            try go_frame
            first | refine tq0 15 rfl ?_ | refine tq1 15 rfl ?_
            try go_frame
            first | refine tq0 16 rfl ?_ | refine tq1 16 rfl ?_
            try go_frame
            first | refine tq0 17 rfl ?_ | refine tq1 17 rfl ?_
            try go_frame
            first | refine tq0 18 rfl ?_ | refine tq1 18 rfl ?_
            try go_frame
            first | refine tq0 19 rfl ?_ | refine tq1 19 rfl ?_
            try go_frame
            first | refine tq0 20 rfl ?_ | refine tq1 20 rfl ?_
            try go_frame
            first | refine tq0 21 rfl ?_ | refine tq1 21 rfl ?_
            try go_frame
            first | refine tq0 22 rfl ?_ | refine tq1 22 rfl ?_
            try go_frame
            first | refine tq0 23 rfl ?_ | refine tq1 23 rfl ?_
            try go_frame
            first | refine tq0 24 rfl ?_ | refine tq1 24 rfl ?_
            try go_frame
            first | refine tq0 25 rfl ?_ | refine tq1 25 rfl ?_
            try go_frame
            first | refine tq0 26 rfl ?_ | refine tq1 26 rfl ?_
            try go_frame
            first | refine tq0 27 rfl ?_ | refine tq1 27 rfl ?_
            try go_frame
            first | refine tq0 28 rfl ?_ | refine tq1 28 rfl ?_
            try go_frame
            refine wpAnyH_done (by kernel_rfl) ?_ _
            go_wp2_with fail
            go_roundw
            case rel => exact ⟨j + 1, by omega, by go_num, allN_step HAll.out HPj.out, HW.out.on (bdrew _)⟩
            case measure => simp [intOf]; omega
        obtain rfl : nl = j := by omega
        have HD3 := HAll
        clear hl HAll hlt hj
        go_wp2_with fail
        clear x0 x1 x2 x3 x4 x5
        go_loopw [6] (fun i wr => ∃ k : Nat, k ≤ ni ∧ i = .int .i64 k ∧ allN p4 k = true ∧ Cls (w.alloc (.cells #[.int .i64 seed, .float .f64 fin, .slice ad nd cd, .slice ap np cp, .slice al nl cl, .slice ai ni ci] 28)) wr) (fun i _ => ni - (intOf i).toNat)
        case atStart => exact ⟨0, by omega, rfl, rfl, HW.out⟩
        case round =>
          clear HW
          obtain ⟨j, hj, rfl, hall, hl⟩ := hrel
          have HAll := Lib.hid hall
          have HW := Lib.hid hl
          obtain ⟨_, x0, x1, x2, x3, x4, x5⟩ := HX.out.below hl.out
          clear hall
          by_cases hlt : j < ni
          · obtain ⟨ao, cap, ee, _, _, h3'⟩ := HI.out
            cases ee
            obtain ⟨b, o, rfl, hA⟩ := h3' (by omega)
            obtain ⟨y0, y1, y2⟩ := (hA.below (bthen HA.out hl.out)).three j hlt
            dsimp only [gE] at y0 y1 y2
            have e := E4.out j
            have HZ : Hid (w.heap.size < wr.heap.size) := Nat.lt_of_lt_of_le (HX.out).1 hl.out.size
            have z4 : ∀ ob, (wr.alloc ob).cell? ⟨w.heap.size, 4, none⟩ = some (.slice al nl cl) := fun ob => by rw [World.cell?_alloc_lt _ _ _ HZ.out]; exact x4
            clear hl hA h3'
            generalize ev j = s at y0 y1 y2 e
            obtain ⟨t, dst, pay⟩ := s
            dsimp only at y0 y1 y2 e
            have HE := Lib.hid e
            clear e
            have hsf := store_float
            generalize hbt : (FloatKind.f64.format.order t t != some Ordering.eq) = bt at *
            cases bt
            · by_cases q1 : dst < 0
              · have HPj : Hid (p4 j = false) := by show _ = _; rw [HE.out]; simp; omega
                go_wp2_with fail
                go_ret
                exact ⟨by rw [ER.out false (by rw [allN_false hlt HPj.out]; simp)]; rfl, bthen HA.out (HW.out.on (balloc _ _)).out⟩
              by_cases q2 : (nl : Int) ≤ dst
              · have HPj : Hid (p4 j = false) := by show _ = _; rw [HE.out]; simp; omega
                go_wp2_with fail
                go_ret
                exact ⟨by rw [ER.out false (by rw [allN_false hlt HPj.out]; simp)]; rfl, bthen HA.out (HW.out.on (balloc _ _)).out⟩
              · have HPj : Hid (p4 j = true) := by show _ = _; rw [HE.out]; simp; omega
                go_wp2_with fail
                go_roundw
                case rel => exact ⟨j + 1, by omega, by go_num, allN_step HAll.out HPj.out, HW.out.on (balloc _ _)⟩
                case measure => simp [intOf]; omega
            · have HPj : Hid (p4 j = false) := by show _ = _; rw [HE.out]; simp
              go_wp2_with fail
              go_ret
              exact ⟨by rw [ER.out false (by rw [allN_false hlt HPj.out]; simp)]; rfl, bthen HA.out (HW.out.on (balloc _ _)).out⟩
          obtain rfl : ni = j := by omega
          clear hl hlt hj
          go_wp2_with fail
          go_ret
          exact ⟨by rw [ER.out true (by rw [HD1.out, HD2.out, HD3.out, HAll.out]; rfl)]; rfl, bthen HA.out HW.out.out⟩

end Go.Proofs.YthkfaeplmmlnlaaGreat
namespace Go.Proofs.YthkfaeplmmlnlaaGreat
open Go.RowKit
set_option linter.unusedVariables false

theorem refCheck_any (m : Mdl) (vd vp vl vi : Value) (w : World) (h : MdlAt m vd vp vl vi w) :
    Calls Tryz.prog 8 #[mval m vd vp vl vi] w fun e w' => e = .returned (.int .i64 (chkN m)) ∧ Below w.heap.size w w' := by
  obtain ⟨hd, hp, hl, hi⟩ := h
  have hp0 := hp
  have hl0 := hl
  obtain ⟨ad, cd, rfl, _, _, _⟩ := id hd
  obtain ⟨gp, hp1, _⟩ := hp0
  obtain ⟨ap, cp, rfl, _, _, _⟩ := hp1
  obtain ⟨gl, hl1, _⟩ := hl0
  obtain ⟨al, cl, rfl, _, _, _⟩ := hl1
  obtain ⟨ai, ci, rfl, _, _, _⟩ := id hi
  unfold mval
  have bad : (countsB m && numF m.fin) = false → chkN m = 15 := fun h => by
    unfold chkN mayB
    rw [← Bool.and_assoc, h]
    rfl
  have hx : (FloatKind.f64.format.order m.fin m.fin != some .eq) = !numF m.fin := by have := ord_eq m.fin m.fin; simp only [bne, this]; simp [numF]
  by_cases g1 : m.nl < 1
  · rw [bad (by simp [countsB, from1]; omega)]; exact refCheck_b0 _ _ _ _ _ _ _ _ _ _ _ _ _ _ g1 w
  by_cases g2 : 6 < m.nl
  · rw [bad (by simp [countsB, from1]; omega)]; exact refCheck_b1 _ _ _ _ _ _ _ _ _ _ _ _ _ _ (by omega) g2 w
  by_cases g3 : m.np < 1
  · rw [bad (by simp [countsB, from1]; omega)]; exact refCheck_b2 _ _ _ _ _ _ _ _ _ _ _ _ _ _ (by omega) (by omega) g3 w
  by_cases g4 : 4 < m.np
  · rw [bad (by simp [countsB, from1]; omega)]; exact refCheck_b3 _ _ _ _ _ _ _ _ _ _ _ _ _ _ (by omega) (by omega) (by omega) g4 w
  by_cases g5 : m.nd < 1
  · rw [bad (by simp [countsB, from1]; omega)]; exact refCheck_b4 _ _ _ _ _ _ _ _ _ _ _ _ _ _ (by omega) (by omega) (by omega) (by omega) g5 w
  by_cases g6 : 8 < m.nd
  · rw [bad (by simp [countsB, from1]; omega)]; exact refCheck_b5 _ _ _ _ _ _ _ _ _ _ _ _ _ _ (by omega) (by omega) (by omega) (by omega) (by omega) g6 w
  by_cases g7 : 16 < m.ni
  · rw [bad (by simp [countsB, from1]; omega)]; exact refCheck_b6 _ _ _ _ _ _ _ _ _ _ _ _ _ _ (by omega) (by omega) (by omega) (by omega) (by omega) (by omega) g7 w
  by_cases g8 : numF m.fin = true
  · have hc : countsB m = true := by simp [countsB, from1]; omega
    have e : chkN m = if (allN (fun i => posF (m.d i)) m.nd && (allN (fun i => progB (m.pr i) (m.pl i)) m.np && (allN (fun i => lpB m.np (m.lp i) (m.wl i)) m.nl && allN (fun i => evB m.nl (m.ev i)) m.ni))) = true then 0 else 15 := by
      unfold chkN mayB
      rw [hc, g8]
      rfl
    rw [e]
    exact refCheck_good _ _ _ _ _ _ _ _ _ _ _ _ _ _ (by omega) (by omega) (by omega) (by omega) (by omega) (by omega) (by omega) (by rw [hx, g8]; rfl) m.d m.pl m.pr m.lp m.wl m.wd m.ev w hd hp hl hi
  · have g9 : numF m.fin = false := by simpa using g8
    rw [bad (by rw [g9, Bool.and_false])]
    exact refCheck_b7 _ _ _ _ _ _ _ _ _ _ _ _ _ _ (by omega) (by omega) (by omega) (by omega) (by omega) (by omega) (by omega) (by rw [hx, g9]; rfl) w

end Go.Proofs.YthkfaeplmmlnlaaGreat
