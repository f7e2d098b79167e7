/- The contract of stamp.First, and the walk of the law StampFirst. -/
import Derived.Test.YtlcfibmgegjklaaStampLaws2
import Derived.Test.YtlcfibmgegjklaaFrameAid
namespace Go.Proofs.Ytlcfibmgegjklaa
open Go.RowKit

/-- stamps in a row of memory: stamp i at cell o + 3 * i -/
def StpsAt (f : Nat → Stp) (n b o : Nat) (w : World) : Prop :=
  b < w.heap.size ∧ ∀ i, i < n → w.cell? ⟨b, o + i * 3, none⟩ = some (.float .f64 (f i).t) ∧ w.cell? ⟨b, o + i * 3 + 1, none⟩ = some (.int .i64 (f i).src) ∧ w.cell? ⟨b, o + i * 3 + 2, none⟩ = some (.int .i64 (f i).n)
theorem stpsAt_below {f : Nat → Stp} {n b o : Nat} {w w2 : World} (h : StpsAt f n b o w) (k : Below w.heap.size w w2) : StpsAt f n b o w2 := by
  obtain ⟨h0, h1⟩ := h
  have e : ∀ o : Nat, w2.cell? ⟨b, o, none⟩ = w.cell? ⟨b, o, none⟩ := fun o => k.cell h0
  exact ⟨Nat.lt_of_lt_of_le h0 k.size, fun i hi => by rw [e, e, e]; exact h1 i hi⟩
theorem stpsAt_drew {f : Nat → Stp} {n b o : Nat} {w : World} (h : StpsAt f n b o w) : StpsAt f n b o w.drew := stpsAt_below h (Below.refl _ _).drew

/-- a stamp lies in block b from cell o on -/
def BoxO (s : Stp) (b o : Nat) (w : World) : Prop := b < w.heap.size ∧ w.cell? ⟨b, o, none⟩ = some (.float .f64 s.t) ∧ w.cell? ⟨b, o + 1, none⟩ = some (.int .i64 s.src) ∧ w.cell? ⟨b, o + 2, none⟩ = some (.int .i64 s.n)
theorem boxO_below {s : Stp} {b o : Nat} {w w2 : World} (h : BoxO s b o w) (k : Below w.heap.size w w2) : BoxO s b o w2 := by
  obtain ⟨h0, h1, h2, h3⟩ := h
  have e : ∀ o : Nat, w2.cell? ⟨b, o, none⟩ = w.cell? ⟨b, o, none⟩ := fun o => k.cell h0
  exact ⟨Nat.lt_of_lt_of_le h0 k.size, by rw [e]; exact h1, by rw [e]; exact h2, by rw [e]; exact h3⟩
theorem boxO_drew {s : Stp} {b o : Nat} {w : World} (h : BoxO s b o w) : BoxO s b o w.drew := boxO_below h (Below.refl _ _).drew
theorem stpsAt_box {f : Nat → Stp} {n b o : Nat} {w : World} (h : StpsAt f n b o w) (i : Nat) (hi : i < n) : BoxO (f i) b (o + i * 3) w := ⟨h.1, h.2 i hi⟩

/-- the first of the least ones of the first k -/
def firstN (f : Nat → Stp) : Nat → Nat
  | 0 => 0
  | k + 1 => if cmpS (f k) (f (firstN f k)) < 0 then k else firstN f k
theorem firstN_le (f : Nat → Stp) (k : Nat) : firstN f k ≤ k := by
  induction k with
  | zero => exact Nat.le_refl _
  | succ k ih => unfold firstN; split <;> omega
theorem cmpS_self (a : Stp) : cmpS a a = 0 := by rcases cmpS_spec a a with ⟨_, h⟩ | ⟨h, _⟩ | ⟨_, h⟩; omega; exact h; omega
theorem firstN_one (f : Nat → Stp) : firstN f 1 = 0 := by
  unfold firstN firstN; rw [cmpS_self]; rfl
theorem firstN_lt (f : Nat → Stp) (k : Nat) (h : 0 < k) : firstN f k < k := by
  induction k with
  | zero => omega
  | succ k ih =>
    by_cases c : k = 0
    · subst c; rw [firstN_one]; omega
    · unfold firstN; have := ih (by omega); split <;> omega
/-- it is the least, and the first of those -/
theorem firstN_least (f : Nat → Stp) (k i : Nat) (h : i < k) : 0 ≤ cmpS (f i) (f (firstN f k)) ∧ (cmpS (f i) (f (firstN f k)) = 0 → firstN f k ≤ i) := by
  induction k with
  | zero => omega
  | succ k ih =>
    by_cases c : cmpS (f k) (f (firstN f k)) < 0
    · have e : firstN f (k + 1) = k := by unfold firstN; rw [if_pos c]
      rw [e]
      by_cases hi : i = k
      · subst hi; rw [cmpS_self]; omega
      · obtain ⟨h1, h2⟩ := ih (by omega)
        have s1 := cmpS_spec (f k) (f (firstN f k))
        have s2 := cmpS_spec (f i) (f (firstN f k))
        have s3 := cmpS_spec (f i) (f k)
        omega
    · have e : firstN f (k + 1) = firstN f k := by unfold firstN; rw [if_neg c]; cases k <;> rfl
      rw [e]
      by_cases hi : i = k
      · subst hi
        have := firstN_le f i
        omega
      · exact ih (by omega)

set_option maxHeartbeats 1600000 in
theorem first_core (f : Nat → Stp) (n b o cap : Nat) (hn : n ≤ 60) (hc : n ≤ cap) (w : World) (hw : StpsAt f n b o w) (h0 : 0 < n)
    (HC : Hid (∀ a b w, Calls Try.prog 19 #[.agg #[.float .f64 (f a).t, .int .i64 (f a).src, .int .i64 (f a).n], .agg #[.float .f64 (f b).t, .int .i64 (f b).src, .int .i64 (f b).n]] w fun e w' => e = .returned (.int .i64 (cmpS (f a) (f b))) ∧ Below w.heap.size w w')) :
    Calls Try.prog 27 #[.slice (some ⟨b, o, none⟩) n cap] w fun e w' => e = .returned (.int .i64 (firstN f n)) ∧ Below w.heap.size w w' := by
  have HW := Lib.hid hw
  clear hw
  go_enter Try.func27, Try.ntmps27
  go_wp2_with fail
  go_loopw [3, 7] (fun m i wr => ∃ j : Nat, j ≤ n ∧ i = .int .i64 j ∧ (m = .int .i64 (if j = 0 then -1 else (firstN f j : Int))) ∧ Below w.heap.size w wr) (fun _ i _ => n - (intOf i).toNat)
  case atStart => exact ⟨0, by omega, rfl, rfl, Below.refl _ _⟩
  case round =>
    obtain ⟨j, hj, rfl, rfl, hl⟩ := hrel
    have HL := Lib.hid hl
    by_cases hlt : j < n
    · by_cases hz : j = 0
      · subst hz
        have hd : decide ((-1 : Int) < 0) = true := by decide
        clear hl
        go_wp2_with fail
        go_quiet (fail)
        go_wp2_with fail
        go_roundw
        case rel => exact ⟨1, by omega, by go_num, by rw [if_neg (by omega), firstN_one], bdrewN HL.out _⟩
        case measure => simp [intOf]; omega
      · have e : (if j = 0 then (-1 : Int) else (firstN f j : Int)) = firstN f j := by rw [if_neg (by omega)]
        rw [e]
        have hm := firstN_lt f j (by omega)
        have HS : Hid ((firstN f (j + 1)) = if cmpS (f j) (f (firstN f j)) < 0 then j else firstN f j) := by
          show _ = _
          obtain ⟨q, rfl⟩ : ∃ q, j = q + 1 := ⟨j - 1, by omega⟩
          rfl
        have HX := Lib.hid (stpsAt_box (stpsAt_below HW.out hl) j hlt)
        have HY := Lib.hid (stpsAt_box (stpsAt_below HW.out hl) (firstN f j) (by omega))
        have HC2 := Lib.hid (HC.out j (firstN f j))
        generalize cmpS (f j) (f (firstN f j)) = c at HS HC2
        generalize firstN f j = m at *
        generalize f j = sa at HX HC2
        generalize f m = sb at HY HC2
        obtain ⟨a0, a1, a2⟩ := sa
        obtain ⟨b0, b1, b2⟩ := sb
        have hd : decide ((m : Int) < 0) = false := by simp
        obtain ⟨_, x0, x1, x2⟩ := HX.out
        obtain ⟨_, y0, y1, y2⟩ := HY.out
        dsimp only at x0 x1 x2 y0 y1 y2 HC2
        have hmn : m < n := by omega
        have hm2 : (m : Int) < (n : Int) := by omega
        clear e hl
        by_cases hc0 : c < 0
        · have HS2 : Hid (firstN f (j + 1) = j) := by have := HS.out; rw [if_pos hc0] at this; exact this
          clear HS
          go_wp2_with fail
          go_region_held3 (fun w' => (w'.cell? ⟨b, o + j * 3, none⟩ = some (.float .f64 a0) ∧ w'.cell? ⟨b, o + j * 3 + 1, none⟩ = some (.int .i64 a1) ∧ w'.cell? ⟨b, o + j * 3 + 2, none⟩ = some (.int .i64 a2)) ∧ w'.cell? ⟨b, o + m * 3, none⟩ = some (.float .f64 b0) ∧ w'.cell? ⟨b, o + m * 3 + 1, none⟩ = some (.int .i64 b1) ∧ w'.cell? ⟨b, o + m * 3 + 2, none⟩ = some (.int .i64 b2)) (go_keep) (first
            | (go_at_call 19; refine (HC2.out _).mono ?_; rintro e w2 ⟨rfl, hb2⟩; have X1 := boxO_below (boxO_drew HX.out) hb2; have Y1 := boxO_below (boxO_drew HY.out) hb2; obtain ⟨_, p0, p1, p2⟩ := X1; obtain ⟨_, q0, q1, q2⟩ := Y1; dsimp only at p0 p1 p2 q0 q1 q2))
          go_wp2_with fail
          go_roundw
          case rel => exact ⟨j + 1, by omega, by go_num, by rw [if_neg (by omega), HS2.out], bthen HL.out.drew hb2⟩
          case measure => simp [intOf]; omega
        · have HS2 : Hid (firstN f (j + 1) = m) := by have := HS.out; rw [if_neg hc0] at this; exact this
          have hc1 : decide (c < 0) = false := by simpa using hc0
          clear HS hc0
          go_wp2_with fail
          go_region_held3 (fun w' => (w'.cell? ⟨b, o + j * 3, none⟩ = some (.float .f64 a0) ∧ w'.cell? ⟨b, o + j * 3 + 1, none⟩ = some (.int .i64 a1) ∧ w'.cell? ⟨b, o + j * 3 + 2, none⟩ = some (.int .i64 a2)) ∧ w'.cell? ⟨b, o + m * 3, none⟩ = some (.float .f64 b0) ∧ w'.cell? ⟨b, o + m * 3 + 1, none⟩ = some (.int .i64 b1) ∧ w'.cell? ⟨b, o + m * 3 + 2, none⟩ = some (.int .i64 b2)) (go_keep) (first
            | (go_at_call 19; refine (HC2.out _).mono ?_; rintro e w2 ⟨rfl, hb2⟩; have X1 := boxO_below (boxO_drew HX.out) hb2; have Y1 := boxO_below (boxO_drew HY.out) hb2; obtain ⟨_, p0, p1, p2⟩ := X1; obtain ⟨_, q0, q1, q2⟩ := Y1; dsimp only at p0 p1 p2 q0 q1 q2))
          go_wp2_with fail
          go_roundw
          case rel => exact ⟨j + 1, by omega, by go_num, by rw [if_neg (by omega), HS2.out], bthen HL.out.drew hb2⟩
          case measure => simp [intOf]; omega
    · obtain rfl : j = n := by omega
      have e : (if j = 0 then (-1 : Int) else (firstN f j : Int)) = firstN f j := by rw [if_neg (by omega)]
      rw [e]
      clear e hl
      go_wp2_with fail
      go_ret
      exact ⟨rfl, HL.out⟩

theorem first_zero (ao : Option Addr) (cap : Nat) (w : World) :
    Calls Try.prog 27 #[.slice ao 0 cap] w fun e w' => e = .returned (.int .i64 (-1)) ∧ Below w.heap.size w w' := by
  go_enter Try.func27, Try.ntmps27
  go_wp2_with fail
  go_loopw [3, 7] (fun m i wr => i = .int .i64 0 ∧ m = .int .i64 (-1) ∧ Below w.heap.size w wr) (fun _ _ _ => 0)
  case atStart => exact ⟨rfl, rfl, Below.refl _ _⟩
  case round =>
    obtain ⟨rfl, rfl, hl⟩ := hrel
    have HL := Lib.hid hl
    clear hl
    go_wp2_with fail
    go_ret
    exact ⟨rfl, HL.out⟩

theorem stampFirst_zero (ao : Option Addr) (cap : Nat) (w : World) :
    Calls Try.prog 10 #[.slice ao 0 cap] w fun e w' => e = .returned (.bool true) ∧ Below w.heap.size w w' := by
  go_enter Try.func10, Try.ntmps10
  go_wp2_with fail
  refine (first_zero _ _ _).mono ?_
  rintro e w1 ⟨rfl, hb1⟩
  go_wp2_with fail
  refine (awake2_any _).mono ?_
  rintro e w2 ⟨rfl, hb2⟩
  go_wp2_with fail
  go_ret
  exact ⟨rfl, bthen hb1 hb2⟩

set_option maxHeartbeats 1600000 in
theorem stampFirst_short (f : Nat → Stp) (n b o cap k : Nat) (hn : n ≤ 60) (hc : n ≤ cap) (hcm : cap ≤ 9223372036854775807) (w : World) (hw : StpsAt f n b o w) (h0 : 0 < n) (hk : k < n)
    (HF : Hid (∀ w, StpsAt f n b o w → Calls Try.prog 27 #[.slice (some ⟨b, o, none⟩) n cap] w fun e w' => e = .returned (.int .i64 k) ∧ Below w.heap.size w w'))
    (HC : Hid (∀ a b w, Calls Try.prog 20 #[.agg #[.float .f64 (f a).t, .int .i64 (f a).src, .int .i64 (f a).n], .agg #[.float .f64 (f b).t, .int .i64 (f b).src, .int .i64 (f b).n]] w fun e w' => e = .returned (.int .i64 (cmpS (f a) (f b))) ∧ Below w.heap.size w w'))
    (HK : Hid (∀ i, i < n → 0 ≤ cmpS (f i) (f k) ∧ (cmpS (f i) (f k) = 0 → k ≤ i))) :
    Calls Try.prog 10 #[.slice (some ⟨b, o, none⟩) n cap] w fun e w' => e = .returned (.bool true) ∧ Below w.heap.size w w' := by
  have HW := Lib.hid hw
  clear hw
  have hd : decide ((60 : Int) < (n : Int)) = false := by simp; omega
  have hz : ((n : Int) == 0) = false := by simp; omega
  have hk2 : (k : Int) < (n : Int) := by omega
  have hk3 : decide ((k : Int) < 0) = false := by simp
  have hk4 : decide ((n : Int) ≤ (k : Int)) = false := by simp; omega
  have hk5 : decide (n ≤ k) = false := by simp; omega
  go_enter Try.func10, Try.ntmps10
  go_wp2_with fail
  refine (HF.out _ HW.out).mono ?_
  rintro e w1 ⟨rfl, hb1⟩
  have HB := Lib.hid hb1
  clear hb1
  go_wp2_with fail
  go_loopw [4] (fun i wr => ∃ j : Nat, j ≤ n ∧ i = .int .i64 j ∧ Below w.heap.size w wr) (fun i _ => n - (intOf i).toNat)
  case atStart => exact ⟨0, by omega, rfl, HB.out⟩
  case round =>
    obtain ⟨j, hj, rfl, hl⟩ := hrel
    have HL := Lib.hid hl
    by_cases hlt : j < n
    · have HX := Lib.hid (stpsAt_box (stpsAt_below HW.out hl) j hlt)
      have HY := Lib.hid (stpsAt_box (stpsAt_below HW.out hl) k (by omega))
      have HC2 := Lib.hid (HC.out j k)
      obtain ⟨hc0, hc1⟩ := HK.out j hlt
      generalize cmpS (f j) (f k) = c at hc0 hc1 HC2
      generalize f j = sa at HX HC2
      generalize f k = sb at HY HC2
      obtain ⟨a0, a1, a2⟩ := sa
      obtain ⟨b0, b1, b2⟩ := sb
      obtain ⟨_, x0, x1, x2⟩ := HX.out
      obtain ⟨_, y0, y1, y2⟩ := HY.out
      dsimp only at x0 x1 x2 y0 y1 y2 HC2
      have hd0 : decide (c < 0) = false := by simp; omega
      have hd1 : (c == 0 && decide ((j : Int) < (k : Int))) = false := by
        rw [Bool.eq_false_iff]; intro h; simp at h; have := hc1 h.1; omega
      have hc2 : (c == 0) = true ∧ decide (j < k) = false ∨ (c == 0) = false := by
        by_cases e : c = 0
        · exact .inl ⟨by simp [e], by simp; exact hc1 e⟩
        · exact .inr (by simp [e])
      clear hl hc1 hd1
      go_wp2_with fail
      go_region_held3 (fun w' => (w'.cell? ⟨b, o + j * 3, none⟩ = some (.float .f64 a0) ∧ w'.cell? ⟨b, o + j * 3 + 1, none⟩ = some (.int .i64 a1) ∧ w'.cell? ⟨b, o + j * 3 + 2, none⟩ = some (.int .i64 a2)) ∧ w'.cell? ⟨b, o + k * 3, none⟩ = some (.float .f64 b0) ∧ w'.cell? ⟨b, o + k * 3 + 1, none⟩ = some (.int .i64 b1) ∧ w'.cell? ⟨b, o + k * 3 + 2, none⟩ = some (.int .i64 b2)) (go_keep) (first
        | (go_at_call 20; refine (HC2.out _).mono ?_; rintro e w2 ⟨rfl, hb2⟩; have X1 := boxO_below (boxO_drew HX.out) hb2; have Y1 := boxO_below (boxO_drew HY.out) hb2; obtain ⟨_, p0, p1, p2⟩ := X1; obtain ⟨_, q0, q1, q2⟩ := Y1; dsimp only at p0 p1 p2 q0 q1 q2))
      rcases hc2 with ⟨g1, g2⟩ | g1
      all_goals
        go_wp2_with fail
        go_roundw
        case rel => exact ⟨j + 1, by omega, by go_num, bthen HL.out.drew hb2⟩
        case measure => simp [intOf]; omega
    · obtain rfl : j = n := by omega
      clear hl
      go_wp2_with fail
      refine (awake2_any _).mono ?_
      rintro e w2 ⟨rfl, hb2⟩
      go_wp2_with fail
      go_ret
      exact ⟨rfl, bthen HL.out hb2⟩

set_option maxHeartbeats 1600000 in
theorem stampFirst_long (f : Nat → Stp) (n0 n b o cap k : Nat) (hn0 : 60 < n0) (hm0 : n0 ≤ 9223372036854775807) (hn : n = 60) (hc : n0 ≤ cap) (hcm : cap ≤ 9223372036854775807) (w : World) (hw : StpsAt f n b o w) (h0 : 0 < n) (hk : k < n)
    (HF : Hid (∀ w, StpsAt f n b o w → Calls Try.prog 27 #[.slice (some ⟨b, o, none⟩) 60 cap] w fun e w' => e = .returned (.int .i64 k) ∧ Below w.heap.size w w'))
    (HC : Hid (∀ a b w, Calls Try.prog 20 #[.agg #[.float .f64 (f a).t, .int .i64 (f a).src, .int .i64 (f a).n], .agg #[.float .f64 (f b).t, .int .i64 (f b).src, .int .i64 (f b).n]] w fun e w' => e = .returned (.int .i64 (cmpS (f a) (f b))) ∧ Below w.heap.size w w'))
    (HK : Hid (∀ i, i < n → 0 ≤ cmpS (f i) (f k) ∧ (cmpS (f i) (f k) = 0 → k ≤ i))) :
    Calls Try.prog 10 #[.slice (some ⟨b, o, none⟩) n0 cap] w fun e w' => e = .returned (.bool true) ∧ Below w.heap.size w w' := by
  have HW := Lib.hid hw
  clear hw
  have hd : decide ((60 : Int) < (n0 : Int)) = true := by simp; omega
  have hz : ((n : Int) == 0) = false := by simp; omega
  have hk2 : (k : Int) < (n : Int) := by omega
  have hk3 : decide ((k : Int) < 0) = false := by simp
  have hk4 : decide ((n : Int) ≤ (k : Int)) = false := by simp; omega
  have hk5 : decide (n ≤ k) = false := by simp; omega
  subst hn
  go_enter Try.func10, Try.ntmps10
  go_wp2_with fail
  refine (HF.out _ HW.out).mono ?_
  rintro e w1 ⟨rfl, hb1⟩
  have HB := Lib.hid hb1
  clear hb1
  go_wp2_with fail
  go_loopw [4] (fun i wr => ∃ j : Nat, j ≤ 60 ∧ i = .int .i64 j ∧ Below w.heap.size w wr) (fun i _ => 60 - (intOf i).toNat)
  case atStart => exact ⟨0, by omega, rfl, HB.out⟩
  case round =>
    obtain ⟨j, hj, rfl, hl⟩ := hrel
    have HL := Lib.hid hl
    by_cases hlt : j < 60
    · have HX := Lib.hid (stpsAt_box (stpsAt_below HW.out hl) j hlt)
      have HY := Lib.hid (stpsAt_box (stpsAt_below HW.out hl) k (by omega))
      have HC2 := Lib.hid (HC.out j k)
      obtain ⟨hc0, hc1⟩ := HK.out j hlt
      generalize cmpS (f j) (f k) = c at hc0 hc1 HC2
      generalize f j = sa at HX HC2
      generalize f k = sb at HY HC2
      obtain ⟨a0, a1, a2⟩ := sa
      obtain ⟨b0, b1, b2⟩ := sb
      obtain ⟨_, x0, x1, x2⟩ := HX.out
      obtain ⟨_, y0, y1, y2⟩ := HY.out
      dsimp only at x0 x1 x2 y0 y1 y2 HC2
      have hd0 : decide (c < 0) = false := by simp; omega
      have hd1 : (c == 0 && decide ((j : Int) < (k : Int))) = false := by
        rw [Bool.eq_false_iff]; intro h; simp at h; have := hc1 h.1; omega
      have hc2 : (c == 0) = true ∧ decide (j < k) = false ∨ (c == 0) = false := by
        by_cases e : c = 0
        · exact .inl ⟨by simp [e], by simp; exact hc1 e⟩
        · exact .inr (by simp [e])
      clear hl hc1 hd1
      go_wp2_with fail
      go_region_held3 (fun w' => (w'.cell? ⟨b, o + j * 3, none⟩ = some (.float .f64 a0) ∧ w'.cell? ⟨b, o + j * 3 + 1, none⟩ = some (.int .i64 a1) ∧ w'.cell? ⟨b, o + j * 3 + 2, none⟩ = some (.int .i64 a2)) ∧ w'.cell? ⟨b, o + k * 3, none⟩ = some (.float .f64 b0) ∧ w'.cell? ⟨b, o + k * 3 + 1, none⟩ = some (.int .i64 b1) ∧ w'.cell? ⟨b, o + k * 3 + 2, none⟩ = some (.int .i64 b2)) (go_keep) (first
        | (go_at_call 20; refine (HC2.out _).mono ?_; rintro e w2 ⟨rfl, hb2⟩; have X1 := boxO_below (boxO_drew HX.out) hb2; have Y1 := boxO_below (boxO_drew HY.out) hb2; obtain ⟨_, p0, p1, p2⟩ := X1; obtain ⟨_, q0, q1, q2⟩ := Y1; dsimp only at p0 p1 p2 q0 q1 q2))
      rcases hc2 with ⟨g1, g2⟩ | g1
      all_goals
        go_wp2_with fail
        go_roundw
        case rel => exact ⟨j + 1, by omega, by go_num, bthen HL.out.drew hb2⟩
        case measure => simp [intOf]; omega
    · obtain rfl : j = 60 := by omega
      clear hl
      go_wp2_with fail
      refine (awake2_any _).mono ?_
      rintro e w2 ⟨rfl, hb2⟩
      go_wp2_with fail
      go_ret
      exact ⟨rfl, bthen HL.out hb2⟩

theorem addr_plain0 {w : World} {x : Addr} {u : Value} (h : w.cell? (x.add 0) = some u) : x = ⟨x.block, x.off, none⟩ := by
  obtain ⟨b, off, spot⟩ := x
  have hspot : spot = none := by simpa [Addr.add] using World.cell?_spot h
  subst hspot
  rfl
theorem add_plain0 (b o i : Nat) : (⟨b, o, none⟩ : Addr).add i = ⟨b, o + i, none⟩ := by unfold Addr.add; split <;> simp_all
theorem cell_lt0 {w : World} {b o : Nat} {u : Value} (h : w.cell? ⟨b, o, none⟩ = some u) : b < w.heap.size := by
  rcases Nat.lt_or_ge b w.heap.size with h' | h'
  · exact h'
  · simp [World.cell?, Array.getElem?_eq_none h'] at h

theorem stampFirst_walk (a : Option Addr) (len cap : Nat) (w : World)
    (hr : CellRows 3 (fun cs : List Value => ∃ (x0 : Nat) (x1 : Int) (x2 : Int), cs = [.float .f64 x0, .int .i64 x1, .int .i64 x2] ∧ (Lit.float .f64 x0).wf = true ∧ (Lit.int .i64 x1).wf = true ∧ (Lit.int .i64 x2).wf = true) w a len cap) :
    Calls Try.prog 10 #[.slice a len cap] w fun e w' => e = .returned (.bool true) ∧ Below w.heap.size w w' := by
  by_cases hz : len = 0
  · subst hz; exact stampFirst_zero a cap w
  rcases hr with ⟨_, h0, _⟩ | ⟨x, rfl, hl, hm, hc⟩
  · exact absurd h0 hz
  have hm' : cap ≤ 9223372036854775807 := hm
  have hex : ∀ i, ∃ s : Stp, i < len → w.cell? (x.add (i * 3 + 0)) = some (.float .f64 s.t) ∧ w.cell? (x.add (i * 3 + 1)) = some (.int .i64 s.src) ∧ w.cell? (x.add (i * 3 + 2)) = some (.int .i64 s.n) := by
    intro i
    by_cases hi : i < len
    · obtain ⟨cs, _, ⟨x0, x1, x2, rfl, _⟩, hj⟩ := hc i hi
      exact ⟨⟨x0, x1, x2⟩, fun _ => ⟨hj 0 (by omega), hj 1 (by omega), hj 2 (by omega)⟩⟩
    · exact ⟨⟨0, 0, 0⟩, fun h => absurd h hi⟩
  have hx := addr_plain0 ((Classical.choose_spec (hex 0)) (by omega)).1
  generalize x.block = b at hx
  generalize x.off = o at hx
  subst hx
  obtain ⟨f, hf⟩ : ∃ f : Nat → Stp, ∀ i, i < len → w.cell? ((⟨b, o, none⟩ : Addr).add (i * 3 + 0)) = some (.float .f64 (f i).t) ∧ w.cell? ((⟨b, o, none⟩ : Addr).add (i * 3 + 1)) = some (.int .i64 (f i).src) ∧ w.cell? ((⟨b, o, none⟩ : Addr).add (i * 3 + 2)) = some (.int .i64 (f i).n) :=
    ⟨fun i => Classical.choose (hex i), fun i => Classical.choose_spec (hex i)⟩
  have hs : StpsAt f len b o w := by
    refine ⟨?_, fun i hi => ?_⟩
    · have := (hf 0 (by omega)).1; rw [add_plain0] at this; exact cell_lt0 this
    · have := hf i hi
      rw [add_plain0, add_plain0, add_plain0] at this
      exact this
  by_cases h60 : len ≤ 60
  · exact stampFirst_short f len b o cap (firstN f len) h60 hl hm' w hs (by omega) (firstN_lt f len (by omega))
      (fun w hw => first_core f len b o cap h60 hl w hw (by omega) (fun a b w => compare_any (f a) (f b) w)) (fun a b w => refCompare_any (f a) (f b) w) (fun i hi => firstN_least f len i hi)
  · have hs2 : StpsAt f 60 b o w := ⟨hs.1, fun i hi => hs.2 i (by omega)⟩
    exact stampFirst_long f len 60 b o cap (firstN f 60) (by omega) (by omega) rfl hl hm' w hs2 (by omega) (firstN_lt f 60 (by omega))
      (fun w hw => first_core f 60 b o cap (by omega) (by omega) w hw (by omega) (fun a b w => compare_any (f a) (f b) w)) (fun a b w => refCompare_any (f a) (f b) w) (fun i hi => firstN_least f 60 i hi)

end Go.Proofs.Ytlcfibmgegjklaa
