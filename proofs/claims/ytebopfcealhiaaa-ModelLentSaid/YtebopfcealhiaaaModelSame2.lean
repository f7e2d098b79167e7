/- The contracts of slices.EqualFunc at its four types. -/
import Derived.Test.YtebopfcealhiaaaModelSame1
namespace Go.Proofs.Ytebopfcealhiaaa
open Go.RowKit
set_option linter.unusedVariables false

set_option maxHeartbeats 1600000 in
theorem eqfF_any (d1 d2 : Nat → Nat) (n m : Nat) (v1 v2 : Value) (w : World) (h1 : Sl 1 (gF d1) n v1 w) (h2 : Sl 1 (gF d2) m v2 w) :
    Calls Try.prog 39 #[v1, v2, .func (.func 38) #[] #[]] w fun e w' => e = .returned (.bool (sameL n m fun i => sameF (d1 i) (d2 i))) ∧ Below w.heap.size w w' := by
  obtain ⟨a1, c1, rfl, l1, m1, k1⟩ := h1
  obtain ⟨a2, c2, rfl, l2, m2, k2⟩ := h2
  have K1 := Lib.hid k1
  have K2 := Lib.hid k2
  clear k1 k2
  have HC := Lib.hid (fun i w => sameFloat_any (d1 i) (d2 i) w)
  have E : Hid ((sameL n m fun i => sameF (d1 i) (d2 i)) = (decide (n = m) && allN (fun i => sameF (d1 i) (d2 i)) n)) := rfl
  generalize (sameL n m fun i => sameF (d1 i) (d2 i)) = s at *
  generalize hp : (fun i => sameF (d1 i) (d2 i)) = p at *
  have hp2 : ∀ i, sameF (d1 i) (d2 i) = p i := fun i => congrFun hp i
  simp only [hp2] at HC
  clear hp hp2
  go_enter Try.func39, Try.ntmps39
  by_cases hnm : n = m
  · subst hnm
    have E2 : Hid (s = allN p n) := by show _ = _; rw [E.out]; simp
    clear E
    go_wp2_with fail
    go_loopw [17] (fun i wr => ∃ j : Nat, j ≤ n ∧ i = .int .i64 j ∧ allN p j = true ∧ Below w.heap.size w wr) (fun i _ => n - (intOf i).toNat)
    case atStart => exact ⟨0, by omega, rfl, rfl, Below.refl _ _⟩
    case round =>
      obtain ⟨j, hj, rfl, hall, hl⟩ := hrel
      have HL := Lib.hid hl
      have HAll := Lib.hid hall
      clear hall
      by_cases hlt : j < n
      · obtain ⟨b1, o1, rfl, hA1⟩ := K1.out (by omega)
        obtain ⟨b2, o2, rfl, hA2⟩ := K2.out (by omega)
        have y1 := (hA1.below hl).one j hlt
        have y2 := (hA2.below hl).one j hlt
        dsimp only [gF] at y1 y2
        have HC2 := Lib.hid (HC.out j)
        generalize hpj : p j = r at *
        have HP := Lib.hid hpj
        clear hpj hl hA1 hA2
        cases r
        · go_wp2_with (go_at_call 38; refine (HC2.out _).mono ?_; rintro e w2 ⟨rfl, rfl⟩)
          go_ret
          exact ⟨by rw [E2.out, allN_false hlt HP.out]; rfl, HL.out⟩
        · go_wp2_with (go_at_call 38; refine (HC2.out _).mono ?_; rintro e w2 ⟨rfl, rfl⟩)
          go_roundw
          case rel => exact ⟨j + 1, by omega, by go_num, allN_step HAll.out HP.out, HL.out⟩
          case measure => simp [intOf]; omega
      · obtain rfl : n = j := by omega
        clear hl
        go_wp2_with fail
        go_ret
        exact ⟨by rw [E2.out, HAll.out]; rfl, HL.out⟩
  · have hz : ((n : Int) != (m : Int)) = true := by simp; omega
    have E2 : Hid (s = false) := by show _ = _; rw [E.out]; simp [hnm]
    clear E hnm
    go_wp2_with fail
    go_ret
    exact ⟨by rw [E2.out]; rfl, Below.refl _ _⟩

set_option maxHeartbeats 1600000 in
theorem eqfP_any (pl1 pl2 : Nat → Nat) (pr1 pr2 : Nat → Nat → I4) (n m : Nat) (v1 v2 : Value) (w : World) (h1 : Pgs n pl1 pr1 v1 w) (h2 : Pgs m pl2 pr2 v2 w) :
    Calls Try.prog 40 #[v1, v2, .func (.func 41) #[] #[]] w fun e w' => e = .returned (.bool (sameL n m fun i => sameP (pr1 i) (pr2 i) (pl1 i) (pl2 i))) ∧ Below w.heap.size w w' := by
  obtain ⟨g1, ⟨a1, c1, rfl, l1, m1, k1⟩, G1⟩ := h1
  obtain ⟨g2, ⟨a2, c2, rfl, l2, m2, k2⟩, G2⟩ := h2
  have K1 := Lib.hid k1
  have K2 := Lib.hid k2
  have HG1 := Lib.hid G1
  have HG2 := Lib.hid G2
  clear k1 k2 G1 G2
  have HC := Lib.hid (fun i v1 v2 w h1 h2 => sameProgram_any (pr1 i) (pr2 i) (pl1 i) (pl2 i) v1 v2 w h1 h2)
  have E : Hid ((sameL n m fun i => sameP (pr1 i) (pr2 i) (pl1 i) (pl2 i)) = (decide (n = m) && allN (fun i => sameP (pr1 i) (pr2 i) (pl1 i) (pl2 i)) n)) := rfl
  generalize (sameL n m fun i => sameP (pr1 i) (pr2 i) (pl1 i) (pl2 i)) = s at *
  generalize hp : (fun i => sameP (pr1 i) (pr2 i) (pl1 i) (pl2 i)) = p at *
  have hp2 : ∀ i, sameP (pr1 i) (pr2 i) (pl1 i) (pl2 i) = p i := fun i => congrFun hp i
  simp only [hp2] at HC
  clear hp hp2
  go_enter Try.func40, Try.ntmps40
  by_cases hnm : n = m
  · subst hnm
    have E2 : Hid (s = allN p n) := by show _ = _; rw [E.out]; simp
    clear E
    go_wp2_with fail
    go_loopw [17] (fun i wr => ∃ j : Nat, j ≤ n ∧ i = .int .i64 j ∧ allN p j = true ∧ Below w.heap.size w wr) (fun i _ => n - (intOf i).toNat)
    case atStart => exact ⟨0, by omega, rfl, rfl, Below.refl _ _⟩
    case round =>
      obtain ⟨j, hj, rfl, hall, hl⟩ := hrel
      have HL := Lib.hid hl
      have HAll := Lib.hid hall
      clear hall
      by_cases hlt : j < n
      · obtain ⟨b1, o1, rfl, hA1⟩ := K1.out (by omega)
        obtain ⟨b2, o2, rfl, hA2⟩ := K2.out (by omega)
        have y1 := (hA1.below hl).one j hlt
        have y2 := (hA2.below hl).one j hlt
        dsimp only [gV] at y1 y2
        have s1 := (HG1.out j hlt).below hl
        have s2 := (HG2.out j hlt).below hl
        have HS1 := Lib.hid s1
        have HS2 := Lib.hid s2
        obtain ⟨aj1, cj1, ej1, _, _, _⟩ := s1
        obtain ⟨aj2, cj2, ej2, _, _, _⟩ := s2
        rw [ej1] at y1 HS1
        rw [ej2] at y2 HS2
        clear ej1 ej2
        have HC2 := Lib.hid (HC.out j)
        generalize hpj : p j = r at *
        have HP := Lib.hid hpj
        clear hpj hl hA1 hA2
        cases r
        · go_wp2_with (go_at_call 41; refine (HC2.out _ _ _ HS1.out HS2.out).mono ?_; rintro e w2 ⟨rfl, hb2⟩)
          go_ret
          exact ⟨by rw [E2.out, allN_false hlt HP.out]; rfl, bthen (HL.out) hb2⟩
        · go_wp2_with (go_at_call 41; refine (HC2.out _ _ _ HS1.out HS2.out).mono ?_; rintro e w2 ⟨rfl, hb2⟩)
          go_roundw
          case rel => exact ⟨j + 1, by omega, by go_num, allN_step HAll.out HP.out, bthen (HL.out) hb2⟩
          case measure => simp [intOf]; omega
      · obtain rfl : n = j := by omega
        clear hl
        go_wp2_with fail
        go_ret
        exact ⟨by rw [E2.out, HAll.out]; rfl, HL.out⟩
  · have hz : ((n : Int) != (m : Int)) = true := by simp; omega
    have E2 : Hid (s = false) := by show _ = _; rw [E.out]; simp [hnm]
    clear E hnm
    go_wp2_with fail
    go_ret
    exact ⟨by rw [E2.out]; rfl, Below.refl _ _⟩

set_option maxHeartbeats 1600000 in
theorem eqfL_any (p1 p2 : Nat → Int) (wl1 wl2 : Nat → Nat) (wd1 wd2 : Nat → Nat → Int) (n m : Nat) (v1 v2 : Value) (w : World) (h1 : Lps n p1 wl1 wd1 v1 w) (h2 : Lps m p2 wl2 wd2 v2 w) :
    Calls Try.prog 42 #[v1, v2, .func (.func 43) #[] #[]] w fun e w' => e = .returned (.bool (sameL n m fun i => sameLp (p1 i) (p2 i) (wd1 i) (wd2 i) (wl1 i) (wl2 i))) ∧ Below w.heap.size w w' := by
  obtain ⟨g1, ⟨a1, c1, rfl, l1, m1, k1⟩, G1⟩ := h1
  obtain ⟨g2, ⟨a2, c2, rfl, l2, m2, k2⟩, G2⟩ := h2
  have K1 := Lib.hid k1
  have K2 := Lib.hid k2
  have HG1 := Lib.hid G1
  have HG2 := Lib.hid G2
  clear k1 k2 G1 G2
  have HC := Lib.hid (fun i a1 a2 c1 c2 w h1 h2 => sameProcess_any (p1 i) (p2 i) (wd1 i) (wd2 i) (wl1 i) (wl2 i) a1 a2 c1 c2 w h1 h2)
  have E : Hid ((sameL n m fun i => sameLp (p1 i) (p2 i) (wd1 i) (wd2 i) (wl1 i) (wl2 i)) = (decide (n = m) && allN (fun i => sameLp (p1 i) (p2 i) (wd1 i) (wd2 i) (wl1 i) (wl2 i)) n)) := rfl
  generalize (sameL n m fun i => sameLp (p1 i) (p2 i) (wd1 i) (wd2 i) (wl1 i) (wl2 i)) = s at *
  generalize hp : (fun i => sameLp (p1 i) (p2 i) (wd1 i) (wd2 i) (wl1 i) (wl2 i)) = p at *
  have hp2 : ∀ i, sameLp (p1 i) (p2 i) (wd1 i) (wd2 i) (wl1 i) (wl2 i) = p i := fun i => congrFun hp i
  simp only [hp2] at HC
  clear hp hp2
  go_enter Try.func42, Try.ntmps42
  by_cases hnm : n = m
  · subst hnm
    have E2 : Hid (s = allN p n) := by show _ = _; rw [E.out]; simp
    clear E
    go_wp2_with fail
    go_loopw [17] (fun i wr => ∃ j : Nat, j ≤ n ∧ i = .int .i64 j ∧ allN p j = true ∧ Below w.heap.size w wr) (fun i _ => n - (intOf i).toNat)
    case atStart => exact ⟨0, by omega, rfl, rfl, Below.refl _ _⟩
    case round =>
      obtain ⟨j, hj, rfl, hall, hl⟩ := hrel
      have HL := Lib.hid hl
      have HAll := Lib.hid hall
      clear hall
      by_cases hlt : j < n
      · obtain ⟨b1, o1, rfl, hA1⟩ := K1.out (by omega)
        obtain ⟨b2, o2, rfl, hA2⟩ := K2.out (by omega)
        obtain ⟨y0, y1⟩ := (hA1.below hl).two j hlt
        obtain ⟨z0, z1⟩ := (hA2.below hl).two j hlt
        dsimp only [gL] at y0 y1 z0 z1
        have s1 := (HG1.out j hlt).below hl
        have s2 := (HG2.out j hlt).below hl
        have HS1 := Lib.hid s1
        have HS2 := Lib.hid s2
        obtain ⟨aj1, cj1, ej1, _, _, _⟩ := s1
        obtain ⟨aj2, cj2, ej2, _, _, _⟩ := s2
        rw [ej1] at y1 HS1
        rw [ej2] at z1 HS2
        clear ej1 ej2
        have HC2 := Lib.hid (HC.out j)
        have w2 : b2 < wr.heap.size := (hA2.below hl).1
        have z0' : ∀ ob, (wr.alloc ob).cell? ⟨b2, o2 + j * 2, none⟩ = some (.int .i64 (p2 j)) := fun ob => by rw [World.cell?_alloc_lt _ _ _ w2]; exact z0
        have z1' : ∀ ob, (wr.alloc ob).cell? ⟨b2, o2 + j * 2 + 1, none⟩ = some (.slice aj2 (wl2 j) cj2) := fun ob => by rw [World.cell?_alloc_lt _ _ _ w2]; exact z1
        generalize hpj : p j = r at *
        have HP := Lib.hid hpj
        clear hpj hl hA1 hA2
        cases r
        · go_wp2_with (go_at_call 43; refine (HC2.out _ _ _ _ _ (HS1.out.below (bthen (balloc _ _) (balloc _ _))) (HS2.out.below (bthen (balloc _ _) (balloc _ _)))).mono ?_; rintro e w2 ⟨rfl, hb2⟩)
          go_ret
          exact ⟨by rw [E2.out, allN_false hlt HP.out]; rfl, bthen (bthen HL.out (bthen (balloc _ _) (balloc _ _))) hb2⟩
        · go_wp2_with (go_at_call 43; refine (HC2.out _ _ _ _ _ (HS1.out.below (bthen (balloc _ _) (balloc _ _))) (HS2.out.below (bthen (balloc _ _) (balloc _ _)))).mono ?_; rintro e w2 ⟨rfl, hb2⟩)
          go_roundw
          case rel => exact ⟨j + 1, by omega, by go_num, allN_step HAll.out HP.out, bthen (bthen HL.out (bthen (balloc _ _) (balloc _ _))) hb2⟩
          case measure => simp [intOf]; omega
      · obtain rfl : n = j := by omega
        clear hl
        go_wp2_with fail
        go_ret
        exact ⟨by rw [E2.out, HAll.out]; rfl, HL.out⟩
  · have hz : ((n : Int) != (m : Int)) = true := by simp; omega
    have E2 : Hid (s = false) := by show _ = _; rw [E.out]; simp [hnm]
    clear E hnm
    go_wp2_with fail
    go_ret
    exact ⟨by rw [E2.out]; rfl, Below.refl _ _⟩

set_option maxHeartbeats 1600000 in
theorem eqfE_any (f g : Nat → Ev) (n m : Nat) (v1 v2 : Value) (w : World) (h1 : Sl 3 (gE f) n v1 w) (h2 : Sl 3 (gE g) m v2 w) :
    Calls Try.prog 44 #[v1, v2, .func (.func 45) #[] #[]] w fun e w' => e = .returned (.bool (sameL n m fun i => sameE (f i) (g i))) ∧ Below w.heap.size w w' := by
  obtain ⟨a1, c1, rfl, l1, m1, k1⟩ := h1
  obtain ⟨a2, c2, rfl, l2, m2, k2⟩ := h2
  have K1 := Lib.hid k1
  have K2 := Lib.hid k2
  clear k1 k2
  have HC := Lib.hid (fun i w => sameEvent_any (f i) (g i) w)
  have hsf := store_float
  have E : Hid ((sameL n m fun i => sameE (f i) (g i)) = (decide (n = m) && allN (fun i => sameE (f i) (g i)) n)) := rfl
  generalize (sameL n m fun i => sameE (f i) (g i)) = s at *
  generalize hp : (fun i => sameE (f i) (g i)) = p at *
  have hp2 : ∀ i, sameE (f i) (g i) = p i := fun i => congrFun hp i
  simp only [hp2] at HC
  clear hp hp2
  go_enter Try.func44, Try.ntmps44
  by_cases hnm : n = m
  · subst hnm
    have E2 : Hid (s = allN p n) := by show _ = _; rw [E.out]; simp
    clear E
    go_wp2_with fail
    go_loopw [17] (fun i wr => ∃ j : Nat, j ≤ n ∧ i = .int .i64 j ∧ allN p j = true ∧ Below w.heap.size w wr) (fun i _ => n - (intOf i).toNat)
    case atStart => exact ⟨0, by omega, rfl, rfl, Below.refl _ _⟩
    case round =>
      obtain ⟨j, hj, rfl, hall, hl⟩ := hrel
      have HL := Lib.hid hl
      have HAll := Lib.hid hall
      clear hall
      by_cases hlt : j < n
      · obtain ⟨b1, o1, rfl, hA1⟩ := K1.out (by omega)
        obtain ⟨b2, o2, rfl, hA2⟩ := K2.out (by omega)
        obtain ⟨y0, y1, y2⟩ := (hA1.below hl).three j hlt
        obtain ⟨z0, z1, z2⟩ := (hA2.below hl).three j hlt
        dsimp only [gE] at y0 y1 y2 z0 z1 z2
        have HC2 := Lib.hid (HC.out j)
        generalize f j = x at y0 y1 y2 HC2
        generalize g j = y at z0 z1 z2 HC2
        obtain ⟨x0, x1, x2⟩ := x
        obtain ⟨q0, q1, q2⟩ := y
        dsimp only at y0 y1 y2 z0 z1 z2 HC2
        have w2 : b2 < wr.heap.size := (hA2.below hl).1
        have z0' : ∀ ob, (wr.alloc ob).cell? ⟨b2, o2 + j * 3, none⟩ = some (.float .f64 q0) := fun ob => by rw [World.cell?_alloc_lt _ _ _ w2]; exact z0
        have z1' : ∀ ob, (wr.alloc ob).cell? ⟨b2, o2 + j * 3 + 1, none⟩ = some (.int .i64 q1) := fun ob => by rw [World.cell?_alloc_lt _ _ _ w2]; exact z1
        have z2' : ∀ ob, (wr.alloc ob).cell? ⟨b2, o2 + j * 3 + 2, none⟩ = some (.int .i64 q2) := fun ob => by rw [World.cell?_alloc_lt _ _ _ w2]; exact z2
        generalize hpj : p j = r at *
        have HP := Lib.hid hpj
        clear hpj hl hA1 hA2
        cases r
        · go_wp2_with (go_at_call 45; refine (HC2.out _).mono ?_; rintro e w2 ⟨rfl, hb2⟩)
          go_ret
          exact ⟨by rw [E2.out, allN_false hlt HP.out]; rfl, bthen (bthen HL.out (bthen (balloc _ _) (balloc _ _))) hb2⟩
        · go_wp2_with (go_at_call 45; refine (HC2.out _).mono ?_; rintro e w2 ⟨rfl, hb2⟩)
          go_roundw
          case rel => exact ⟨j + 1, by omega, by go_num, allN_step HAll.out HP.out, bthen (bthen HL.out (bthen (balloc _ _) (balloc _ _))) hb2⟩
          case measure => simp [intOf]; omega
      · obtain rfl : n = j := by omega
        clear hl
        go_wp2_with fail
        go_ret
        exact ⟨by rw [E2.out, HAll.out]; rfl, HL.out⟩
  · have hz : ((n : Int) != (m : Int)) = true := by simp; omega
    have E2 : Hid (s = false) := by show _ = _; rw [E.out]; simp [hnm]
    clear E hnm
    go_wp2_with fail
    go_ret
    exact ⟨by rw [E2.out]; rfl, Below.refl _ _⟩

end Go.Proofs.Ytebopfcealhiaaa
