/- The contracts of model.all at its five element types, and of programMayBe. -/
import Derived.Test.YtemhbcjpgapjkaaModelSmall
import Derived.Test.YtemhbcjpgapjkaaModelIns2
namespace Go.Proofs.Ytemhbcjpgapjkaa
open Go.RowKit
set_option linter.unusedVariables false

set_option maxHeartbeats 1600000 in
theorem allF_any (d : Nat → Nat) (n : Nat) (v : Value) (w : World) (h : Sl 1 (gF d) n v w) :
    Calls Try.prog 41 #[v, .func (.func 42) #[] #[]] w fun e w' => e = .returned (.bool (allN (fun i => posF (d i)) n)) ∧ Below w.heap.size w w' := by
  obtain ⟨ao, cap, rfl, h1, h2, h3⟩ := h
  have H3 := Lib.hid h3
  clear h3
  have HC := Lib.hid (fun i w => delayMayBe_any (d i) w)
  generalize hp : (fun i => posF (d i)) = p
  have hp2 : ∀ i, posF (d i) = p i := fun i => congrFun hp i
  simp only [hp2] at HC
  clear hp hp2
  go_enter Try.func41, Try.ntmps41
  go_wp2_with fail
  go_loopw [9] (fun i wr => ∃ j : Nat, j ≤ n ∧ i = .int .i64 j ∧ allN p j = true ∧ Below w.heap.size w wr) (fun i _ => n - (intOf i).toNat)
  case atStart => exact ⟨0, by omega, rfl, rfl, Below.refl _ _⟩
  case round =>
    obtain ⟨j, hj, rfl, hall, hl⟩ := hrel
    have HL := Lib.hid hl
    have HAll := Lib.hid hall
    clear hall
    by_cases hlt : j < n
    · obtain ⟨b, o, rfl, hA⟩ := H3.out (by omega)
      have c0 := (hA.below hl).one j hlt
      dsimp only [gF] at c0
      have HC2 := Lib.hid (HC.out j)
      generalize hpj : p j = r at *
      have HP := Lib.hid hpj
      clear hpj hl hA
      cases r
      · go_wp2_with (go_at_call 42; refine (HC2.out _).mono ?_; rintro e w2 ⟨rfl, rfl⟩)
        go_ret
        exact ⟨by rw [allN_false hlt HP.out]; rfl, HL.out⟩
      · go_wp2_with (go_at_call 42; refine (HC2.out _).mono ?_; rintro e w2 ⟨rfl, rfl⟩)
        go_roundw
        case rel => exact ⟨j + 1, by omega, by go_num, allN_step HAll.out HP.out, HL.out⟩
        case measure => simp [intOf]; omega
    · obtain rfl : j = n := by omega
      clear hl
      go_wp2_with fail
      go_ret
      exact ⟨by rw [HAll.out]; rfl, HL.out⟩

set_option maxHeartbeats 1600000 in
theorem allI_any (f : Nat → I4) (n : Nat) (len : Int) (q : Nat) (v : Value) (w : World) (h : Sl 4 (gI f) n v w) (hq : BoxI len q w) :
    Calls Try.prog 73 #[v, .func (.func 96) #[] #[.pointer (some ⟨q, 0, none⟩)]] w fun e w' => e = .returned (.bool (allN (fun i => insB (f i) len) n)) ∧ Below w.heap.size w w' := by
  obtain ⟨ao, cap, rfl, h1, h2, h3⟩ := h
  have H3 := Lib.hid h3
  clear h3
  have HQ := Lib.hid hq
  clear hq
  have HC := Lib.hid (fun i w (h : BoxI len q w) => mayI_any (f i) len q w h.1 h.2)
  generalize hp : (fun i => insB (f i) len) = p
  have hp2 : ∀ i, insB (f i) len = p i := fun i => congrFun hp i
  simp only [hp2] at HC
  clear hp hp2
  go_enter Try.func73, Try.ntmps73
  go_wp2_with fail
  go_loopw [9] (fun i wr => ∃ j : Nat, j ≤ n ∧ i = .int .i64 j ∧ allN p j = true ∧ Below w.heap.size w wr) (fun i _ => n - (intOf i).toNat)
  case atStart => exact ⟨0, by omega, rfl, rfl, Below.refl _ _⟩
  case round =>
    obtain ⟨j, hj, rfl, hall, hl⟩ := hrel
    have HL := Lib.hid hl
    have HAll := Lib.hid hall
    clear hall
    by_cases hlt : j < n
    · obtain ⟨b, o, rfl, hA⟩ := H3.out (by omega)
      obtain ⟨_, x0, x1, x2, x3⟩ := (hA.below hl).box4 j hlt
      have HC2 := Lib.hid (HC.out j)
      generalize f j = s at x0 x1 x2 x3 HC2
      obtain ⟨a0, a1, a2, a3⟩ := s
      dsimp only at x0 x1 x2 x3 HC2
      generalize hpj : p j = r at *
      have HP := Lib.hid hpj
      clear hpj hl hA
      cases r
      · go_wp2_with (go_at_call 96; refine (HC2.out _ (HQ.out.below (bthen HL.out (balloc _ _)))).mono ?_; rintro e w2 ⟨rfl, hb2⟩)
        go_ret
        exact ⟨by rw [allN_false hlt HP.out]; rfl, bthen (bthen HL.out (balloc _ _)) hb2⟩
      · go_wp2_with (go_at_call 96; refine (HC2.out _ (HQ.out.below (bthen HL.out (balloc _ _)))).mono ?_; rintro e w2 ⟨rfl, hb2⟩)
        go_roundw
        case rel => exact ⟨j + 1, by omega, by go_num, allN_step HAll.out HP.out, bthen (bthen HL.out (balloc _ _)) hb2⟩
        case measure => simp [intOf]; omega
    · obtain rfl : j = n := by omega
      clear hl
      go_wp2_with fail
      go_ret
      exact ⟨by rw [HAll.out]; rfl, HL.out⟩

set_option maxHeartbeats 1600000 in
theorem programMayBe_any (f : Nat → I4) (n : Nat) (v : Value) (w : World) (h : Sl 4 (gI f) n v w) :
    Calls Try.prog 44 #[v] w fun e w' => e = .returned (.bool (progB f n)) ∧ Below w.heap.size w w' := by
  have HS := Lib.hid h
  obtain ⟨ao, cap, rfl, h1, h2, _⟩ := h
  have HF := Lib.hid (isFrom1To_any 48 n)
  have HM := Lib.hid (mayBeIn_box n)
  have HA := Lib.hid (fun q w h hq => allI_any f n n q (.slice ao n cap) w h hq)
  have E : Hid (progB f n = (from1 48 n && allN (fun i => insB (f i) n) n)) := rfl
  generalize allN (fun i => insB (f i) n) n = r at *
  generalize from1 48 n = k at *
  generalize progB f n = s at *
  go_enter Try.func44, Try.ntmps44
  cases k
  · go_wp2_with (go_at_call 72; refine (HF.out _).mono ?_; rintro e w2 ⟨rfl, rfl⟩)
    go_ret
    exact ⟨by rw [E.out]; rfl, Below.refl _ _⟩
  · go_wp2_with (first
      | (go_at_call 72; refine (HF.out _).mono ?_; rintro e w2 ⟨rfl, rfl⟩)
      | (go_at_call 74; refine (HM.out _).mono ?_; rintro e w2 ⟨q, rfl, hq, hb2⟩; have HQ := Lib.hid hq; have HB := Lib.hid hb2; clear hq hb2)
      | (go_at_call 73; refine (HA.out _ _ (HS.out.below HB.out) HQ.out).mono ?_; rintro e w3 ⟨rfl, hb3⟩))
    go_ret
    exact ⟨by rw [E.out]; rfl, bthen HB.out hb3⟩

set_option maxHeartbeats 1600000 in
theorem allP_any (n : Nat) (pl : Nat → Nat) (pr : Nat → Nat → I4) (v : Value) (w : World) (h : Pgs n pl pr v w) :
    Calls Try.prog 43 #[v, .func (.func 44) #[] #[]] w fun e w' => e = .returned (.bool (allN (fun i => progB (pr i) (pl i)) n)) ∧ Below w.heap.size w w' := by
  obtain ⟨g, ⟨ao, cap, rfl, h1, h2, h3⟩, hg⟩ := h
  have H3 := Lib.hid h3
  have HG := Lib.hid hg
  clear h3 hg
  have HC := Lib.hid (fun i v w h => programMayBe_any (pr i) (pl i) v w h)
  generalize hp : (fun i => progB (pr i) (pl i)) = p
  have hp2 : ∀ i, progB (pr i) (pl i) = p i := fun i => congrFun hp i
  simp only [hp2] at HC
  clear hp hp2
  go_enter Try.func43, Try.ntmps43
  go_wp2_with fail
  go_loopw [9] (fun i wr => ∃ j : Nat, j ≤ n ∧ i = .int .i64 j ∧ allN p j = true ∧ Below w.heap.size w wr) (fun i _ => n - (intOf i).toNat)
  case atStart => exact ⟨0, by omega, rfl, rfl, Below.refl _ _⟩
  case round =>
    obtain ⟨j, hj, rfl, hall, hl⟩ := hrel
    have HL := Lib.hid hl
    have HAll := Lib.hid hall
    clear hall
    by_cases hlt : j < n
    · obtain ⟨b, o, rfl, hA⟩ := H3.out (by omega)
      have c0 := (hA.below hl).one j hlt
      dsimp only [gV] at c0
      have hs := (HG.out j hlt).below hl
      have HS := Lib.hid hs
      obtain ⟨aj, capj, ej, _, _, _⟩ := hs
      rw [ej] at c0 HS
      clear ej
      have HC2 := Lib.hid (HC.out j)
      generalize hpj : p j = r at *
      have HP := Lib.hid hpj
      clear hpj hl hA
      cases r
      · go_wp2_with (go_at_call 44; refine (HC2.out _ _ HS.out).mono ?_; rintro e w2 ⟨rfl, hb2⟩)
        go_ret
        exact ⟨by rw [allN_false hlt HP.out]; rfl, bthen (HL.out) hb2⟩
      · go_wp2_with (go_at_call 44; refine (HC2.out _ _ HS.out).mono ?_; rintro e w2 ⟨rfl, hb2⟩)
        go_roundw
        case rel => exact ⟨j + 1, by omega, by go_num, allN_step HAll.out HP.out, bthen (HL.out) hb2⟩
        case measure => simp [intOf]; omega
    · obtain rfl : j = n := by omega
      clear hl
      go_wp2_with fail
      go_ret
      exact ⟨by rw [HAll.out]; rfl, HL.out⟩

set_option maxHeartbeats 1600000 in
theorem allL_any (n np : Nat) (lp : Nat → Int) (wl : Nat → Nat) (wd : Nat → Nat → Int) (q : Nat) (v : Value) (w : World) (h : Lps n lp wl wd v w) (hq : BoxI np q w) :
    Calls Try.prog 45 #[v, .func (.func 75) #[] #[.pointer (some ⟨q, 0, none⟩)]] w fun e w' => e = .returned (.bool (allN (fun i => lpB np (lp i) (wl i)) n)) ∧ Below w.heap.size w w' := by
  obtain ⟨g, ⟨ao, cap, rfl, h1, h2, h3⟩, hg⟩ := h
  have H3 := Lib.hid h3
  have HG := Lib.hid hg
  have HQ := Lib.hid hq
  clear h3 hg hq
  have HC := Lib.hid (fun i a cap w h => processOne_any np (lp i) a (wl i) cap q w h)
  generalize hp : (fun i => lpB np (lp i) (wl i)) = p
  have hp2 : ∀ i, lpB np (lp i) (wl i) = p i := fun i => congrFun hp i
  simp only [hp2] at HC
  clear hp hp2
  go_enter Try.func45, Try.ntmps45
  go_wp2_with fail
  go_loopw [9] (fun i wr => ∃ j : Nat, j ≤ n ∧ i = .int .i64 j ∧ allN p j = true ∧ Below w.heap.size w wr) (fun i _ => n - (intOf i).toNat)
  case atStart => exact ⟨0, by omega, rfl, rfl, Below.refl _ _⟩
  case round =>
    obtain ⟨j, hj, rfl, hall, hl⟩ := hrel
    have HL := Lib.hid hl
    have HAll := Lib.hid hall
    clear hall
    by_cases hlt : j < n
    · obtain ⟨b, o, rfl, hA⟩ := H3.out (by omega)
      obtain ⟨x0, x1⟩ := (hA.below hl).two j hlt
      dsimp only [gL] at x0 x1
      obtain ⟨aj, capj, ej, _, _, _⟩ := HG.out j hlt
      rw [ej] at x1
      clear ej
      have HC2 := Lib.hid (HC.out j)
      generalize hpj : p j = r at *
      have HP := Lib.hid hpj
      clear hpj hl hA
      cases r
      · go_wp2_with (go_at_call 75; refine (HC2.out _ _ _ (HQ.out.below (bthen HL.out (balloc _ _)))).mono ?_; rintro e w2 ⟨rfl, hb2⟩)
        go_ret
        exact ⟨by rw [allN_false hlt HP.out]; rfl, bthen (bthen HL.out (balloc _ _)) hb2⟩
      · go_wp2_with (go_at_call 75; refine (HC2.out _ _ _ (HQ.out.below (bthen HL.out (balloc _ _)))).mono ?_; rintro e w2 ⟨rfl, hb2⟩)
        go_roundw
        case rel => exact ⟨j + 1, by omega, by go_num, allN_step HAll.out HP.out, bthen (bthen HL.out (balloc _ _)) hb2⟩
        case measure => simp [intOf]; omega
    · obtain rfl : j = n := by omega
      clear hl
      go_wp2_with fail
      go_ret
      exact ⟨by rw [HAll.out]; rfl, HL.out⟩

set_option maxHeartbeats 1600000 in
theorem allE_any (n nl : Nat) (f : Nat → Ev) (q : Nat) (v : Value) (w : World) (h : Sl 3 (gE f) n v w) (hq : BoxI nl q w) :
    Calls Try.prog 47 #[v, .func (.func 77) #[] #[.pointer (some ⟨q, 0, none⟩)]] w fun e w' => e = .returned (.bool (allN (fun i => evB nl (f i)) n)) ∧ Below w.heap.size w w' := by
  obtain ⟨ao, cap, rfl, h1, h2, h3⟩ := h
  have H3 := Lib.hid h3
  clear h3
  have HQ := Lib.hid hq
  clear hq
  have HC := Lib.hid (fun i w h => eventOne_any nl (f i) q w h)
  generalize hp : (fun i => evB nl (f i)) = p
  have hp2 : ∀ i, evB nl (f i) = p i := fun i => congrFun hp i
  simp only [hp2] at HC
  clear hp hp2
  have hsf := store_float
  go_enter Try.func47, Try.ntmps47
  go_wp2_with fail
  go_loopw [9] (fun i wr => ∃ j : Nat, j ≤ n ∧ i = .int .i64 j ∧ allN p j = true ∧ Below w.heap.size w wr) (fun i _ => n - (intOf i).toNat)
  case atStart => exact ⟨0, by omega, rfl, rfl, Below.refl _ _⟩
  case round =>
    obtain ⟨j, hj, rfl, hall, hl⟩ := hrel
    have HL := Lib.hid hl
    have HAll := Lib.hid hall
    clear hall
    by_cases hlt : j < n
    · obtain ⟨b, o, rfl, hA⟩ := H3.out (by omega)
      obtain ⟨x0, x1, x2⟩ := (hA.below hl).three j hlt
      dsimp only [gE] at x0 x1 x2
      have HC2 := Lib.hid (HC.out j)
      generalize f j = s at x0 x1 x2 HC2
      obtain ⟨a0, a1, a2⟩ := s
      dsimp only at x0 x1 x2 HC2
      generalize hpj : p j = r at *
      have HP := Lib.hid hpj
      clear hpj hl hA
      cases r
      · go_wp2_with (go_at_call 77; refine (HC2.out _ (HQ.out.below (bthen HL.out (balloc _ _)))).mono ?_; rintro e w2 ⟨rfl, hb2⟩)
        go_ret
        exact ⟨by rw [allN_false hlt HP.out]; rfl, bthen (bthen HL.out (balloc _ _)) hb2⟩
      · go_wp2_with (go_at_call 77; refine (HC2.out _ (HQ.out.below (bthen HL.out (balloc _ _)))).mono ?_; rintro e w2 ⟨rfl, hb2⟩)
        go_roundw
        case rel => exact ⟨j + 1, by omega, by go_num, allN_step HAll.out HP.out, bthen (bthen HL.out (balloc _ _)) hb2⟩
        case measure => simp [intOf]; omega
    · obtain rfl : j = n := by omega
      clear hl
      go_wp2_with fail
      go_ret
      exact ⟨by rw [HAll.out]; rfl, HL.out⟩

end Go.Proofs.Ytemhbcjpgapjkaa
