/- The contracts of model.all at its five element types, and of programMayBe. The contracts of countsMayBe and Check. -/
import Derived.Test.YthkfaeplmmlnlaaGreatRZ14
import Derived.Test.YthkfaeplmmlnlaaGreatRZ0
namespace Go.Proofs.YthkfaeplmmlnlaaGreat
open Go.RowKit
set_option linter.unusedVariables false

set_option maxHeartbeats 1600000 in
theorem allF_any (d : Nat → Nat) (n : Nat) (v : Value) (w : World) (h : Sl 1 (gF d) n v w) :
    Calls Tryz.prog 40 #[v, .func (.func 41) #[] #[]] w fun e w' => e = .returned (.bool (allN (fun i => posF (d i)) n)) ∧ Below w.heap.size w w' := by
  obtain ⟨ao, cap, rfl, h1, h2, h3⟩ := h
  have H3 := Lib.hid h3
  clear h3
  have HC := Lib.hid (fun i w => delayMayBe_any (d i) w)
  generalize hp : (fun i => posF (d i)) = p
  have hp2 : ∀ i, posF (d i) = p i := fun i => congrFun hp i
  simp only [hp2] at HC
  clear hp hp2
  go_enter Tryz.func40, Tryz.ntmps40
  go_wp2_with fail
  go_loopw [9] (fun i wr => ∃ j : Nat, j ≤ n ∧ i = .int .i64 j ∧ allN p j = true ∧ Below w.heap.size w wr) (fun i _ => n - (intOf i).toNat)
  case atStart => exact ⟨0, by omega, rfl, rfl, Below.refl _ _⟩
  case round =>
    obtain ⟨j, hj, rfl, hall, hl⟩ := hrel
    have HL := Lib.hid hl
    have HAll := Lib.hid hall
    clear hall
    by_cases hlt : j < n
    · obtain ⟨b, o, rfl, hA⟩ := H3.out (by omega)
      have c0 := (hA.below hl).one j hlt
      dsimp only [gF] at c0
      have HC2 := Lib.hid (HC.out j)
      generalize hpj : p j = r at *
      have HP := Lib.hid hpj
      clear hpj hl hA
      cases r
      · go_wp2_with (go_at_call 41; refine (HC2.out _).mono ?_; rintro e w2 ⟨rfl, rfl⟩)
        go_ret
        exact ⟨by rw [allN_false hlt HP.out]; rfl, HL.out⟩
      · go_wp2_with (go_at_call 41; refine (HC2.out _).mono ?_; rintro e w2 ⟨rfl, rfl⟩)
        go_roundw
        case rel => exact ⟨j + 1, by omega, by go_num, allN_step HAll.out HP.out, HL.out⟩
        case measure => simp [intOf]; omega
    · obtain rfl : j = n := by omega
      clear hl
      go_wp2_with fail
      go_ret
      exact ⟨by rw [HAll.out]; rfl, HL.out⟩

set_option maxHeartbeats 1600000 in
theorem allI_any (f : Nat → I4) (n : Nat) (len : Int) (q : Nat) (v : Value) (w : World) (h : Sl 4 (gI f) n v w) (hq : BoxI len q w) :
    Calls Tryz.prog 71 #[v, .func (.func 90) #[] #[.pointer (some ⟨q, 0, none⟩)]] w fun e w' => e = .returned (.bool (allN (fun i => insB (f i) len) n)) ∧ Below w.heap.size w w' := by
  obtain ⟨ao, cap, rfl, h1, h2, h3⟩ := h
  have H3 := Lib.hid h3
  clear h3
  have HQ := Lib.hid hq
  clear hq
  have HC := Lib.hid (fun i w (h : BoxI len q w) => mayI_any (f i) len q w h.1 h.2)
  generalize hp : (fun i => insB (f i) len) = p
  have hp2 : ∀ i, insB (f i) len = p i := fun i => congrFun hp i
  simp only [hp2] at HC
  clear hp hp2
  go_enter Tryz.func71, Tryz.ntmps71
  go_wp2_with fail
  go_loopw [9] (fun i wr => ∃ j : Nat, j ≤ n ∧ i = .int .i64 j ∧ allN p j = true ∧ Below w.heap.size w wr) (fun i _ => n - (intOf i).toNat)
  case atStart => exact ⟨0, by omega, rfl, rfl, Below.refl _ _⟩
  case round =>
    obtain ⟨j, hj, rfl, hall, hl⟩ := hrel
    have HL := Lib.hid hl
    have HAll := Lib.hid hall
    clear hall
    by_cases hlt : j < n
    · obtain ⟨b, o, rfl, hA⟩ := H3.out (by omega)
      obtain ⟨_, x0, x1, x2, x3⟩ := (hA.below hl).box4 j hlt
      have HC2 := Lib.hid (HC.out j)
      generalize f j = s at x0 x1 x2 x3 HC2
      obtain ⟨a0, a1, a2, a3⟩ := s
      dsimp only at x0 x1 x2 x3 HC2
      generalize hpj : p j = r at *
      have HP := Lib.hid hpj
      clear hpj hl hA
      cases r
      · go_wp2_with (go_at_call 90; refine (HC2.out _ (HQ.out.below (bthen HL.out (balloc _ _)))).mono ?_; rintro e w2 ⟨rfl, hb2⟩)
        go_ret
        exact ⟨by rw [allN_false hlt HP.out]; rfl, bthen (bthen HL.out (balloc _ _)) hb2⟩
      · go_wp2_with (go_at_call 90; refine (HC2.out _ (HQ.out.below (bthen HL.out (balloc _ _)))).mono ?_; rintro e w2 ⟨rfl, hb2⟩)
        go_roundw
        case rel => exact ⟨j + 1, by omega, by go_num, allN_step HAll.out HP.out, bthen (bthen HL.out (balloc _ _)) hb2⟩
        case measure => simp [intOf]; omega
    · obtain rfl : j = n := by omega
      clear hl
      go_wp2_with fail
      go_ret
      exact ⟨by rw [HAll.out]; rfl, HL.out⟩

set_option maxHeartbeats 1600000 in
theorem programMayBe_any (f : Nat → I4) (n : Nat) (v : Value) (w : World) (h : Sl 4 (gI f) n v w) :
    Calls Tryz.prog 43 #[v] w fun e w' => e = .returned (.bool (progB f n)) ∧ Below w.heap.size w w' := by
  have HS := Lib.hid h
  obtain ⟨ao, cap, rfl, h1, h2, _⟩ := h
  have HF := Lib.hid (isFrom1To_any 48 n)
  have HM := Lib.hid (mayBeIn_box n)
  have HA := Lib.hid (fun q w h hq => allI_any f n n q (.slice ao n cap) w h hq)
  have E : Hid (progB f n = (from1 48 n && allN (fun i => insB (f i) n) n)) := rfl
  generalize allN (fun i => insB (f i) n) n = r at *
  generalize from1 48 n = k at *
  generalize progB f n = s at *
  go_enter Tryz.func43, Tryz.ntmps43
  cases k
  · go_wp2_with (go_at_call 70; refine (HF.out _).mono ?_; rintro e w2 ⟨rfl, rfl⟩)
    go_ret
    exact ⟨by rw [E.out]; rfl, Below.refl _ _⟩
  · go_wp2_with (first
      | (go_at_call 70; refine (HF.out _).mono ?_; rintro e w2 ⟨rfl, rfl⟩)
      | (go_at_call 72; refine (HM.out _).mono ?_; rintro e w2 ⟨q, rfl, hq, hb2⟩; have HQ := Lib.hid hq; have HB := Lib.hid hb2; clear hq hb2)
      | (go_at_call 71; refine (HA.out _ _ (HS.out.below HB.out) HQ.out).mono ?_; rintro e w3 ⟨rfl, hb3⟩))
    go_ret
    exact ⟨by rw [E.out]; rfl, bthen HB.out hb3⟩

set_option maxHeartbeats 1600000 in
theorem allP_any (n : Nat) (pl : Nat → Nat) (pr : Nat → Nat → I4) (v : Value) (w : World) (h : Pgs n pl pr v w) :
    Calls Tryz.prog 42 #[v, .func (.func 43) #[] #[]] w fun e w' => e = .returned (.bool (allN (fun i => progB (pr i) (pl i)) n)) ∧ Below w.heap.size w w' := by
  obtain ⟨g, ⟨ao, cap, rfl, h1, h2, h3⟩, hg⟩ := h
  have H3 := Lib.hid h3
  have HG := Lib.hid hg
  clear h3 hg
  have HC := Lib.hid (fun i v w h => programMayBe_any (pr i) (pl i) v w h)
  generalize hp : (fun i => progB (pr i) (pl i)) = p
  have hp2 : ∀ i, progB (pr i) (pl i) = p i := fun i => congrFun hp i
  simp only [hp2] at HC
  clear hp hp2
  go_enter Tryz.func42, Tryz.ntmps42
  go_wp2_with fail
  go_loopw [9] (fun i wr => ∃ j : Nat, j ≤ n ∧ i = .int .i64 j ∧ allN p j = true ∧ Below w.heap.size w wr) (fun i _ => n - (intOf i).toNat)
  case atStart => exact ⟨0, by omega, rfl, rfl, Below.refl _ _⟩
  case round =>
    obtain ⟨j, hj, rfl, hall, hl⟩ := hrel
    have HL := Lib.hid hl
    have HAll := Lib.hid hall
    clear hall
    by_cases hlt : j < n
    · obtain ⟨b, o, rfl, hA⟩ := H3.out (by omega)
      have c0 := (hA.below hl).one j hlt
      dsimp only [gV] at c0
      have hs := (HG.out j hlt).below hl
      have HS := Lib.hid hs
      obtain ⟨aj, capj, ej, _, _, _⟩ := hs
      rw [ej] at c0 HS
      clear ej
      have HC2 := Lib.hid (HC.out j)
      generalize hpj : p j = r at *
      have HP := Lib.hid hpj
      clear hpj hl hA
      cases r
      · go_wp2_with (go_at_call 43; refine (HC2.out _ _ HS.out).mono ?_; rintro e w2 ⟨rfl, hb2⟩)
        go_ret
        exact ⟨by rw [allN_false hlt HP.out]; rfl, bthen (HL.out) hb2⟩
      · go_wp2_with (go_at_call 43; refine (HC2.out _ _ HS.out).mono ?_; rintro e w2 ⟨rfl, hb2⟩)
        go_roundw
        case rel => exact ⟨j + 1, by omega, by go_num, allN_step HAll.out HP.out, bthen (HL.out) hb2⟩
        case measure => simp [intOf]; omega
    · obtain rfl : j = n := by omega
      clear hl
      go_wp2_with fail
      go_ret
      exact ⟨by rw [HAll.out]; rfl, HL.out⟩

set_option maxHeartbeats 1600000 in
theorem allL_any (n np : Nat) (lp : Nat → Int) (wl : Nat → Nat) (wd : Nat → Nat → Int) (q : Nat) (v : Value) (w : World) (h : Lps n lp wl wd v w) (hq : BoxI np q w) :
    Calls Tryz.prog 44 #[v, .func (.func 73) #[] #[.pointer (some ⟨q, 0, none⟩)]] w fun e w' => e = .returned (.bool (allN (fun i => lpB np (lp i) (wl i)) n)) ∧ Below w.heap.size w w' := by
  obtain ⟨g, ⟨ao, cap, rfl, h1, h2, h3⟩, hg⟩ := h
  have H3 := Lib.hid h3
  have HG := Lib.hid hg
  have HQ := Lib.hid hq
  clear h3 hg hq
  have HC := Lib.hid (fun i a cap w h => processOne_any np (lp i) a (wl i) cap q w h)
  generalize hp : (fun i => lpB np (lp i) (wl i)) = p
  have hp2 : ∀ i, lpB np (lp i) (wl i) = p i := fun i => congrFun hp i
  simp only [hp2] at HC
  clear hp hp2
  go_enter Tryz.func44, Tryz.ntmps44
  go_wp2_with fail
  go_loopw [9] (fun i wr => ∃ j : Nat, j ≤ n ∧ i = .int .i64 j ∧ allN p j = true ∧ Below w.heap.size w wr) (fun i _ => n - (intOf i).toNat)
  case atStart => exact ⟨0, by omega, rfl, rfl, Below.refl _ _⟩
  case round =>
    obtain ⟨j, hj, rfl, hall, hl⟩ := hrel
    have HL := Lib.hid hl
    have HAll := Lib.hid hall
    clear hall
    by_cases hlt : j < n
    · obtain ⟨b, o, rfl, hA⟩ := H3.out (by omega)
      obtain ⟨x0, x1⟩ := (hA.below hl).two j hlt
      dsimp only [gL] at x0 x1
      obtain ⟨aj, capj, ej, _, _, _⟩ := HG.out j hlt
      rw [ej] at x1
      clear ej
      have HC2 := Lib.hid (HC.out j)
      generalize hpj : p j = r at *
      have HP := Lib.hid hpj
      clear hpj hl hA
      cases r
      · go_wp2_with (go_at_call 73; refine (HC2.out _ _ _ (HQ.out.below (bthen HL.out (balloc _ _)))).mono ?_; rintro e w2 ⟨rfl, hb2⟩)
        go_ret
        exact ⟨by rw [allN_false hlt HP.out]; rfl, bthen (bthen HL.out (balloc _ _)) hb2⟩
      · go_wp2_with (go_at_call 73; refine (HC2.out _ _ _ (HQ.out.below (bthen HL.out (balloc _ _)))).mono ?_; rintro e w2 ⟨rfl, hb2⟩)
        go_roundw
        case rel => exact ⟨j + 1, by omega, by go_num, allN_step HAll.out HP.out, bthen (bthen HL.out (balloc _ _)) hb2⟩
        case measure => simp [intOf]; omega
    · obtain rfl : j = n := by omega
      clear hl
      go_wp2_with fail
      go_ret
      exact ⟨by rw [HAll.out]; rfl, HL.out⟩

set_option maxHeartbeats 1600000 in
theorem allE_any (n nl : Nat) (f : Nat → Ev) (q : Nat) (v : Value) (w : World) (h : Sl 3 (gE f) n v w) (hq : BoxI nl q w) :
    Calls Tryz.prog 46 #[v, .func (.func 75) #[] #[.pointer (some ⟨q, 0, none⟩)]] w fun e w' => e = .returned (.bool (allN (fun i => evB nl (f i)) n)) ∧ Below w.heap.size w w' := by
  obtain ⟨ao, cap, rfl, h1, h2, h3⟩ := h
  have H3 := Lib.hid h3
  clear h3
  have HQ := Lib.hid hq
  clear hq
  have HC := Lib.hid (fun i w h => eventOne_any nl (f i) q w h)
  generalize hp : (fun i => evB nl (f i)) = p
  have hp2 : ∀ i, evB nl (f i) = p i := fun i => congrFun hp i
  simp only [hp2] at HC
  clear hp hp2
  have hsf := store_float
  go_enter Tryz.func46, Tryz.ntmps46
  go_wp2_with fail
  go_loopw [9] (fun i wr => ∃ j : Nat, j ≤ n ∧ i = .int .i64 j ∧ allN p j = true ∧ Below w.heap.size w wr) (fun i _ => n - (intOf i).toNat)
  case atStart => exact ⟨0, by omega, rfl, rfl, Below.refl _ _⟩
  case round =>
    obtain ⟨j, hj, rfl, hall, hl⟩ := hrel
    have HL := Lib.hid hl
    have HAll := Lib.hid hall
    clear hall
    by_cases hlt : j < n
    · obtain ⟨b, o, rfl, hA⟩ := H3.out (by omega)
      obtain ⟨x0, x1, x2⟩ := (hA.below hl).three j hlt
      dsimp only [gE] at x0 x1 x2
      have HC2 := Lib.hid (HC.out j)
      generalize f j = s at x0 x1 x2 HC2
      obtain ⟨a0, a1, a2⟩ := s
      dsimp only at x0 x1 x2 HC2
      generalize hpj : p j = r at *
      have HP := Lib.hid hpj
      clear hpj hl hA
      cases r
      · go_wp2_with (go_at_call 75; refine (HC2.out _ (HQ.out.below (bthen HL.out (balloc _ _)))).mono ?_; rintro e w2 ⟨rfl, hb2⟩)
        go_ret
        exact ⟨by rw [allN_false hlt HP.out]; rfl, bthen (bthen HL.out (balloc _ _)) hb2⟩
      · go_wp2_with (go_at_call 75; refine (HC2.out _ (HQ.out.below (bthen HL.out (balloc _ _)))).mono ?_; rintro e w2 ⟨rfl, hb2⟩)
        go_roundw
        case rel => exact ⟨j + 1, by omega, by go_num, allN_step HAll.out HP.out, bthen (bthen HL.out (balloc _ _)) hb2⟩
        case measure => simp [intOf]; omega
    · obtain rfl : j = n := by omega
      clear hl
      go_wp2_with fail
      go_ret
      exact ⟨by rw [HAll.out]; rfl, HL.out⟩

end Go.Proofs.YthkfaeplmmlnlaaGreat
namespace Go.Proofs.YthkfaeplmmlnlaaGreat
open Go.RowKit
set_option linter.unusedVariables false
set_option maxRecDepth 100000

set_option maxHeartbeats 1600000 in
theorem counts_any (seed : Int) (fin nd np nl ni cd cp cl ci : Nat) (ad ap al ai : Option Addr) (w : World) :
    Calls Tryz.prog 38 #[.agg #[.int .i64 seed, .float .f64 fin, .slice ad nd cd, .slice ap np cp, .slice al nl cl, .slice ai ni ci]] w fun e w' => e = .returned (.bool (from1 6 nl && (from1 4 np && (from1 8 nd && decide (ni ≤ 16))))) ∧ Below w.heap.size w w' := by
  have H6 : Hid (∀ w, Calls Tryz.prog 70 #[.int .i64 6, .int .i64 nl] w fun e w' => e = .returned (.bool (from1 6 nl)) ∧ w = w') := isFrom1To_any 6 nl
  have H4 : Hid (∀ w, Calls Tryz.prog 70 #[.int .i64 4, .int .i64 np] w fun e w' => e = .returned (.bool (from1 4 np)) ∧ w = w') := isFrom1To_any 4 np
  have H8 : Hid (∀ w, Calls Tryz.prog 70 #[.int .i64 8, .int .i64 nd] w fun e w' => e = .returned (.bool (from1 8 nd)) ∧ w = w') := isFrom1To_any 8 nd
  have HB := Lib.hid (balloc w (.cells #[.int .i64 seed, .float .f64 fin, .slice ad nd cd, .slice ap np cp, .slice al nl cl, .slice ai ni ci] 28))
  generalize from1 6 nl = r6 at *
  generalize from1 4 np = r4 at *
  generalize from1 8 nd = r8 at *
  go_enter Tryz.func38, Tryz.ntmps38
  go_wp2_with (first
    | (go_at_call 70; with_reducible refine (H6.out _).mono ?_; rintro e w' ⟨rfl, rfl⟩)
    | (go_at_call 70; with_reducible refine (H4.out _).mono ?_; rintro e w' ⟨rfl, rfl⟩)
    | (go_at_call 70; with_reducible refine (H8.out _).mono ?_; rintro e w' ⟨rfl, rfl⟩))
  all_goals
    go_ret
    refine ⟨?_, HB.out⟩
    simp_all
    try omega

set_option maxHeartbeats 3200000 in
theorem check_0 (seed : Int) (fin nd np nl ni cd cp cl ci : Nat) (ad ap al ai : Option Addr) (w : World) (b2 b3 b4 b5 b6 : Bool)
    (HC : Hid (∀ w, Calls Tryz.prog 38 #[.agg #[.int .i64 seed, .float .f64 fin, .slice ad nd cd, .slice ap np cp, .slice al nl cl, .slice ai ni ci]] w fun e w' => e = .returned (.bool false) ∧ Below w.heap.size w w'))
    (HN : Hid (∀ w, Calls Tryz.prog 39 #[.float .f64 fin] w fun e w' => e = .returned (.bool (!b2)) ∧ w = w'))
    (HF : Hid (∀ w2, Below w.heap.size w w2 → Calls Tryz.prog 40 #[.slice ad nd cd, .func (.func 41) #[] #[]] w2 fun e w' => e = .returned (.bool b3) ∧ Below w2.heap.size w2 w'))
    (HP : Hid (∀ w2, Below w.heap.size w w2 → Calls Tryz.prog 42 #[.slice ap np cp, .func (.func 43) #[] #[]] w2 fun e w' => e = .returned (.bool b4) ∧ Below w2.heap.size w2 w'))
    (HLB : Hid (∀ w, Calls Tryz.prog 45 #[.int .i64 np] w fun e w' => ∃ q, e = .returned (.func (.func 73) #[] #[.pointer (some ⟨q, 0, none⟩)]) ∧ BoxI np q w' ∧ Below w.heap.size w w'))
    (HL : Hid (∀ q w2, Below w.heap.size w w2 → BoxI np q w2 → Calls Tryz.prog 44 #[.slice al nl cl, .func (.func 73) #[] #[.pointer (some ⟨q, 0, none⟩)]] w2 fun e w' => e = .returned (.bool b5) ∧ Below w2.heap.size w2 w'))
    (HEB : Hid (∀ w, Calls Tryz.prog 47 #[.int .i64 nl] w fun e w' => ∃ q, e = .returned (.func (.func 75) #[] #[.pointer (some ⟨q, 0, none⟩)]) ∧ BoxI nl q w' ∧ Below w.heap.size w w'))
    (HE : Hid (∀ q w2, Below w.heap.size w w2 → BoxI nl q w2 → Calls Tryz.prog 46 #[.slice ai ni ci, .func (.func 75) #[] #[.pointer (some ⟨q, 0, none⟩)]] w2 fun e w' => e = .returned (.bool b6) ∧ Below w2.heap.size w2 w')) :
    Calls Tryz.prog 20 #[.agg #[.int .i64 seed, .float .f64 fin, .slice ad nd cd, .slice ap np cp, .slice al nl cl, .slice ai ni ci]] w fun e w' => e = .returned (.int .i64 15) ∧ Below w.heap.size w w' := by
  have HX := Lib.hid (Box6.new (.int .i64 seed) (.float .f64 fin) (.slice ad nd cd) (.slice ap np cp) (.slice al nl cl) (.slice ai ni ci) 28 w)
  have HA := Lib.hid (balloc w (.cells #[.int .i64 seed, .float .f64 fin, .slice ad nd cd, .slice ap np cp, .slice al nl cl, .slice ai ni ci] 28))
  obtain ⟨_, x0, x1, x2, x3, x4, x5⟩ := HX.out
  go_enter Tryz.func20, Tryz.ntmps20
  go_wp2_with fail
  refine wp_region_quiet (C := Cls (w.alloc (.cells #[.int .i64 seed, .float .f64 fin, .slice ad nd cd, .slice ap np cp, .slice al nl cl, .slice ai ni ci] 28))) (by kernel_rfl) (by kernel_rfl) (Cls.drew _) ?_
  repeat (first
      | (refine BigFrame.wpQuiet_skip (by rfl) ?_
         try go_frame)
      | (refine BigFrame.wpQuiet_want (by rfl) (fun K hK => ?_)
         apply Exists.intro
         refine ⟨fun w' hC => ?_, hK _ ?_⟩
         · obtain ⟨_, p0, p1, p2, p3, p4, p5⟩ := HX.out.below hC.out
           go_simp
           first
             | rfl
             | (go_at_call 38; refine (HC.out _).mono ?_; rintro e w2 ⟨rfl, hb⟩; exact ⟨rfl, hC.on hb⟩)
             | (go_at_call 39; refine (HN.out _).mono ?_; rintro e w2 ⟨rfl, rfl⟩; exact ⟨rfl, hC⟩)
             | (go_at_call 40; refine (HF.out _ (bthen HA.out hC.out)).mono ?_; rintro e w2 ⟨rfl, hb⟩; exact ⟨rfl, hC.on hb⟩)
             | (go_at_call 42; refine (HP.out _ (bthen HA.out hC.out)).mono ?_; rintro e w2 ⟨rfl, hb⟩; exact ⟨rfl, hC.on hb⟩)
         clear hK K
         try go_frame))
  refine wpQuiet_nil ?_
  intro w9 hC9
  go_wp2_with fail
  go_ret
  exact ⟨rfl, bthen HA.out hC9.out⟩

set_option maxHeartbeats 3200000 in
theorem check_1 (seed : Int) (fin nd np nl ni cd cp cl ci : Nat) (ad ap al ai : Option Addr) (w : World) (b3 b4 b5 b6 : Bool)
    (HC : Hid (∀ w, Calls Tryz.prog 38 #[.agg #[.int .i64 seed, .float .f64 fin, .slice ad nd cd, .slice ap np cp, .slice al nl cl, .slice ai ni ci]] w fun e w' => e = .returned (.bool true) ∧ Below w.heap.size w w'))
    (HN : Hid (∀ w, Calls Tryz.prog 39 #[.float .f64 fin] w fun e w' => e = .returned (.bool (!false)) ∧ w = w'))
    (HF : Hid (∀ w2, Below w.heap.size w w2 → Calls Tryz.prog 40 #[.slice ad nd cd, .func (.func 41) #[] #[]] w2 fun e w' => e = .returned (.bool b3) ∧ Below w2.heap.size w2 w'))
    (HP : Hid (∀ w2, Below w.heap.size w w2 → Calls Tryz.prog 42 #[.slice ap np cp, .func (.func 43) #[] #[]] w2 fun e w' => e = .returned (.bool b4) ∧ Below w2.heap.size w2 w'))
    (HLB : Hid (∀ w, Calls Tryz.prog 45 #[.int .i64 np] w fun e w' => ∃ q, e = .returned (.func (.func 73) #[] #[.pointer (some ⟨q, 0, none⟩)]) ∧ BoxI np q w' ∧ Below w.heap.size w w'))
    (HL : Hid (∀ q w2, Below w.heap.size w w2 → BoxI np q w2 → Calls Tryz.prog 44 #[.slice al nl cl, .func (.func 73) #[] #[.pointer (some ⟨q, 0, none⟩)]] w2 fun e w' => e = .returned (.bool b5) ∧ Below w2.heap.size w2 w'))
    (HEB : Hid (∀ w, Calls Tryz.prog 47 #[.int .i64 nl] w fun e w' => ∃ q, e = .returned (.func (.func 75) #[] #[.pointer (some ⟨q, 0, none⟩)]) ∧ BoxI nl q w' ∧ Below w.heap.size w w'))
    (HE : Hid (∀ q w2, Below w.heap.size w w2 → BoxI nl q w2 → Calls Tryz.prog 46 #[.slice ai ni ci, .func (.func 75) #[] #[.pointer (some ⟨q, 0, none⟩)]] w2 fun e w' => e = .returned (.bool b6) ∧ Below w2.heap.size w2 w')) :
    Calls Tryz.prog 20 #[.agg #[.int .i64 seed, .float .f64 fin, .slice ad nd cd, .slice ap np cp, .slice al nl cl, .slice ai ni ci]] w fun e w' => e = .returned (.int .i64 15) ∧ Below w.heap.size w w' := by
  have HX := Lib.hid (Box6.new (.int .i64 seed) (.float .f64 fin) (.slice ad nd cd) (.slice ap np cp) (.slice al nl cl) (.slice ai ni ci) 28 w)
  have HA := Lib.hid (balloc w (.cells #[.int .i64 seed, .float .f64 fin, .slice ad nd cd, .slice ap np cp, .slice al nl cl, .slice ai ni ci] 28))
  obtain ⟨_, x0, x1, x2, x3, x4, x5⟩ := HX.out
  go_enter Tryz.func20, Tryz.ntmps20
  go_wp2_with fail
  refine wp_region_quiet (C := Cls (w.alloc (.cells #[.int .i64 seed, .float .f64 fin, .slice ad nd cd, .slice ap np cp, .slice al nl cl, .slice ai ni ci] 28))) (by kernel_rfl) (by kernel_rfl) (Cls.drew _) ?_
  repeat (first
      | (refine BigFrame.wpQuiet_skip (by rfl) ?_
         try go_frame)
      | (refine BigFrame.wpQuiet_want (by rfl) (fun K hK => ?_)
         apply Exists.intro
         refine ⟨fun w' hC => ?_, hK _ ?_⟩
         · obtain ⟨_, p0, p1, p2, p3, p4, p5⟩ := HX.out.below hC.out
           go_simp
           first
             | rfl
             | (go_at_call 38; refine (HC.out _).mono ?_; rintro e w2 ⟨rfl, hb⟩; exact ⟨rfl, hC.on hb⟩)
             | (go_at_call 39; refine (HN.out _).mono ?_; rintro e w2 ⟨rfl, rfl⟩; exact ⟨rfl, hC⟩)
             | (go_at_call 40; refine (HF.out _ (bthen HA.out hC.out)).mono ?_; rintro e w2 ⟨rfl, hb⟩; exact ⟨rfl, hC.on hb⟩)
             | (go_at_call 42; refine (HP.out _ (bthen HA.out hC.out)).mono ?_; rintro e w2 ⟨rfl, hb⟩; exact ⟨rfl, hC.on hb⟩)
         clear hK K
         try go_frame))
  refine wpQuiet_nil ?_
  intro w9 hC9
  go_wp2_with fail
  go_ret
  exact ⟨rfl, bthen HA.out hC9.out⟩

set_option maxHeartbeats 3200000 in
theorem check_2 (seed : Int) (fin nd np nl ni cd cp cl ci : Nat) (ad ap al ai : Option Addr) (w : World) (b4 b5 b6 : Bool)
    (HC : Hid (∀ w, Calls Tryz.prog 38 #[.agg #[.int .i64 seed, .float .f64 fin, .slice ad nd cd, .slice ap np cp, .slice al nl cl, .slice ai ni ci]] w fun e w' => e = .returned (.bool true) ∧ Below w.heap.size w w'))
    (HN : Hid (∀ w, Calls Tryz.prog 39 #[.float .f64 fin] w fun e w' => e = .returned (.bool (!true)) ∧ w = w'))
    (HF : Hid (∀ w2, Below w.heap.size w w2 → Calls Tryz.prog 40 #[.slice ad nd cd, .func (.func 41) #[] #[]] w2 fun e w' => e = .returned (.bool false) ∧ Below w2.heap.size w2 w'))
    (HP : Hid (∀ w2, Below w.heap.size w w2 → Calls Tryz.prog 42 #[.slice ap np cp, .func (.func 43) #[] #[]] w2 fun e w' => e = .returned (.bool b4) ∧ Below w2.heap.size w2 w'))
    (HLB : Hid (∀ w, Calls Tryz.prog 45 #[.int .i64 np] w fun e w' => ∃ q, e = .returned (.func (.func 73) #[] #[.pointer (some ⟨q, 0, none⟩)]) ∧ BoxI np q w' ∧ Below w.heap.size w w'))
    (HL : Hid (∀ q w2, Below w.heap.size w w2 → BoxI np q w2 → Calls Tryz.prog 44 #[.slice al nl cl, .func (.func 73) #[] #[.pointer (some ⟨q, 0, none⟩)]] w2 fun e w' => e = .returned (.bool b5) ∧ Below w2.heap.size w2 w'))
    (HEB : Hid (∀ w, Calls Tryz.prog 47 #[.int .i64 nl] w fun e w' => ∃ q, e = .returned (.func (.func 75) #[] #[.pointer (some ⟨q, 0, none⟩)]) ∧ BoxI nl q w' ∧ Below w.heap.size w w'))
    (HE : Hid (∀ q w2, Below w.heap.size w w2 → BoxI nl q w2 → Calls Tryz.prog 46 #[.slice ai ni ci, .func (.func 75) #[] #[.pointer (some ⟨q, 0, none⟩)]] w2 fun e w' => e = .returned (.bool b6) ∧ Below w2.heap.size w2 w')) :
    Calls Tryz.prog 20 #[.agg #[.int .i64 seed, .float .f64 fin, .slice ad nd cd, .slice ap np cp, .slice al nl cl, .slice ai ni ci]] w fun e w' => e = .returned (.int .i64 15) ∧ Below w.heap.size w w' := by
  have HX := Lib.hid (Box6.new (.int .i64 seed) (.float .f64 fin) (.slice ad nd cd) (.slice ap np cp) (.slice al nl cl) (.slice ai ni ci) 28 w)
  have HA := Lib.hid (balloc w (.cells #[.int .i64 seed, .float .f64 fin, .slice ad nd cd, .slice ap np cp, .slice al nl cl, .slice ai ni ci] 28))
  obtain ⟨_, x0, x1, x2, x3, x4, x5⟩ := HX.out
  go_enter Tryz.func20, Tryz.ntmps20
  go_wp2_with fail
  refine wp_region_quiet (C := Cls (w.alloc (.cells #[.int .i64 seed, .float .f64 fin, .slice ad nd cd, .slice ap np cp, .slice al nl cl, .slice ai ni ci] 28))) (by kernel_rfl) (by kernel_rfl) (Cls.drew _) ?_
  repeat (first
      | (refine BigFrame.wpQuiet_skip (by rfl) ?_
         try go_frame)
      | (refine BigFrame.wpQuiet_want (by rfl) (fun K hK => ?_)
         apply Exists.intro
         refine ⟨fun w' hC => ?_, hK _ ?_⟩
         · obtain ⟨_, p0, p1, p2, p3, p4, p5⟩ := HX.out.below hC.out
           go_simp
           first
             | rfl
             | (go_at_call 38; refine (HC.out _).mono ?_; rintro e w2 ⟨rfl, hb⟩; exact ⟨rfl, hC.on hb⟩)
             | (go_at_call 39; refine (HN.out _).mono ?_; rintro e w2 ⟨rfl, rfl⟩; exact ⟨rfl, hC⟩)
             | (go_at_call 40; refine (HF.out _ (bthen HA.out hC.out)).mono ?_; rintro e w2 ⟨rfl, hb⟩; exact ⟨rfl, hC.on hb⟩)
             | (go_at_call 42; refine (HP.out _ (bthen HA.out hC.out)).mono ?_; rintro e w2 ⟨rfl, hb⟩; exact ⟨rfl, hC.on hb⟩)
         clear hK K
         try go_frame))
  refine wpQuiet_nil ?_
  intro w9 hC9
  go_wp2_with fail
  go_ret
  exact ⟨rfl, bthen HA.out hC9.out⟩

set_option maxHeartbeats 3200000 in
theorem check_3 (seed : Int) (fin nd np nl ni cd cp cl ci : Nat) (ad ap al ai : Option Addr) (w : World) (b5 b6 : Bool)
    (HC : Hid (∀ w, Calls Tryz.prog 38 #[.agg #[.int .i64 seed, .float .f64 fin, .slice ad nd cd, .slice ap np cp, .slice al nl cl, .slice ai ni ci]] w fun e w' => e = .returned (.bool true) ∧ Below w.heap.size w w'))
    (HN : Hid (∀ w, Calls Tryz.prog 39 #[.float .f64 fin] w fun e w' => e = .returned (.bool (!true)) ∧ w = w'))
    (HF : Hid (∀ w2, Below w.heap.size w w2 → Calls Tryz.prog 40 #[.slice ad nd cd, .func (.func 41) #[] #[]] w2 fun e w' => e = .returned (.bool true) ∧ Below w2.heap.size w2 w'))
    (HP : Hid (∀ w2, Below w.heap.size w w2 → Calls Tryz.prog 42 #[.slice ap np cp, .func (.func 43) #[] #[]] w2 fun e w' => e = .returned (.bool false) ∧ Below w2.heap.size w2 w'))
    (HLB : Hid (∀ w, Calls Tryz.prog 45 #[.int .i64 np] w fun e w' => ∃ q, e = .returned (.func (.func 73) #[] #[.pointer (some ⟨q, 0, none⟩)]) ∧ BoxI np q w' ∧ Below w.heap.size w w'))
    (HL : Hid (∀ q w2, Below w.heap.size w w2 → BoxI np q w2 → Calls Tryz.prog 44 #[.slice al nl cl, .func (.func 73) #[] #[.pointer (some ⟨q, 0, none⟩)]] w2 fun e w' => e = .returned (.bool b5) ∧ Below w2.heap.size w2 w'))
    (HEB : Hid (∀ w, Calls Tryz.prog 47 #[.int .i64 nl] w fun e w' => ∃ q, e = .returned (.func (.func 75) #[] #[.pointer (some ⟨q, 0, none⟩)]) ∧ BoxI nl q w' ∧ Below w.heap.size w w'))
    (HE : Hid (∀ q w2, Below w.heap.size w w2 → BoxI nl q w2 → Calls Tryz.prog 46 #[.slice ai ni ci, .func (.func 75) #[] #[.pointer (some ⟨q, 0, none⟩)]] w2 fun e w' => e = .returned (.bool b6) ∧ Below w2.heap.size w2 w')) :
    Calls Tryz.prog 20 #[.agg #[.int .i64 seed, .float .f64 fin, .slice ad nd cd, .slice ap np cp, .slice al nl cl, .slice ai ni ci]] w fun e w' => e = .returned (.int .i64 15) ∧ Below w.heap.size w w' := by
  have HX := Lib.hid (Box6.new (.int .i64 seed) (.float .f64 fin) (.slice ad nd cd) (.slice ap np cp) (.slice al nl cl) (.slice ai ni ci) 28 w)
  have HA := Lib.hid (balloc w (.cells #[.int .i64 seed, .float .f64 fin, .slice ad nd cd, .slice ap np cp, .slice al nl cl, .slice ai ni ci] 28))
  obtain ⟨_, x0, x1, x2, x3, x4, x5⟩ := HX.out
  go_enter Tryz.func20, Tryz.ntmps20
  go_wp2_with fail
  refine wp_region_quiet (C := Cls (w.alloc (.cells #[.int .i64 seed, .float .f64 fin, .slice ad nd cd, .slice ap np cp, .slice al nl cl, .slice ai ni ci] 28))) (by kernel_rfl) (by kernel_rfl) (Cls.drew _) ?_
  repeat (first
      | (refine BigFrame.wpQuiet_skip (by rfl) ?_
         try go_frame)
      | (refine BigFrame.wpQuiet_want (by rfl) (fun K hK => ?_)
         apply Exists.intro
         refine ⟨fun w' hC => ?_, hK _ ?_⟩
         · obtain ⟨_, p0, p1, p2, p3, p4, p5⟩ := HX.out.below hC.out
           go_simp
           first
             | rfl
             | (go_at_call 38; refine (HC.out _).mono ?_; rintro e w2 ⟨rfl, hb⟩; exact ⟨rfl, hC.on hb⟩)
             | (go_at_call 39; refine (HN.out _).mono ?_; rintro e w2 ⟨rfl, rfl⟩; exact ⟨rfl, hC⟩)
             | (go_at_call 40; refine (HF.out _ (bthen HA.out hC.out)).mono ?_; rintro e w2 ⟨rfl, hb⟩; exact ⟨rfl, hC.on hb⟩)
             | (go_at_call 42; refine (HP.out _ (bthen HA.out hC.out)).mono ?_; rintro e w2 ⟨rfl, hb⟩; exact ⟨rfl, hC.on hb⟩)
         clear hK K
         try go_frame))
  refine wpQuiet_nil ?_
  intro w9 hC9
  go_wp2_with fail
  go_ret
  exact ⟨rfl, bthen HA.out hC9.out⟩

end Go.Proofs.YthkfaeplmmlnlaaGreat
