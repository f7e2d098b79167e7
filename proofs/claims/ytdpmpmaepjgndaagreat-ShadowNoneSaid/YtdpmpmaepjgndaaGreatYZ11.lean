/- The contract of the document's Ints, at any two lists. Whether a store has just these logical pages; whether both say the same. Stores of logical pages: acts in memory, limits, how both begin, and what must come at any rate (awake), whatever the program's store is made of. -/
import Derived.Test.YtdpmpmaepjgndaaGreatYZ2
import Derived.Test.YtdpmpmaepjgndaaGreatYZ4
import Derived.Test.YtdpmpmaepjgndaaGreatYZ10
import Derived.Test.YtdpmpmaepjgndaaGreatYZ6
namespace Go.Proofs.YtdpmpmaepjgndaaGreat
open Go.RowKit
set_option linter.unusedVariables false

set_option maxHeartbeats 1600000 in
theorem ints5_any (f g : Nat → Int) (n m : Nat) (v1 v2 : Value) (w : World) (h1 : Sl 1 (gW f) n v1 w) (h2 : Sl 1 (gW g) m v2 w) :
    Calls Tryz.prog 89 #[v1, v2] w fun e w' => e = .returned (.bool (sameW f g n m)) ∧ Below w.heap.size w w' := by
  obtain ⟨a1, c1, rfl, l1, m1, k1⟩ := h1
  obtain ⟨a2, c2, rfl, l2, m2, k2⟩ := h2
  have K1 := Lib.hid k1
  have K2 := Lib.hid k2
  clear k1 k2
  have E : Hid (sameW f g n m = (decide (n = m) && allN (fun i => decide (f i = g i)) n)) := rfl
  have EP : Hid (∀ i, (fun i => decide (f i = g i)) i = decide (f i = g i)) := fun i => rfl
  generalize sameW f g n m = s at *
  generalize (fun i => decide (f i = g i)) = p at *
  go_enter Tryz.func89, Tryz.ntmps89
  by_cases hnm : n = m
  · subst hnm
    have E2 : Hid (s = allN p n) := by show _ = _; rw [E.out]; simp
    clear E
    go_wp2_with fail
    go_loopw [5] (fun i wr => ∃ j : Nat, j ≤ n ∧ i = .int .i64 j ∧ allN p j = true ∧ Below w.heap.size w wr) (fun i _ => n - (intOf i).toNat)
    case atStart => exact ⟨0, by omega, rfl, rfl, Below.refl _ _⟩
    case round =>
      obtain ⟨j, hj, rfl, hall, hl⟩ := hrel
      have HL := Lib.hid hl
      have HAll := Lib.hid hall
      clear hall
      by_cases hlt : j < n
      · obtain ⟨b1, o1, rfl, hA1⟩ := K1.out (by omega)
        obtain ⟨b2, o2, rfl, hA2⟩ := K2.out (by omega)
        have hj2 : (j : Int) < (n : Int) := by omega
        have hj0 : (0 : Int) ≤ (j : Int) := by omega
        have y1 := (hA1.below hl).one j hlt
        have y2 := (hA2.below hl).one j hlt
        dsimp only [gW] at y1 y2
        have e := EP.out j
        generalize f j = x at y1 e
        generalize g j = y at y2 e
        clear hl hA1 hA2
        by_cases hxy : x = y
        · have hz : (x != y) = false := by simpa using hxy
          have HP : Hid (p j = true) := by show _ = _; rw [e]; simp [hxy]
          clear e hxy
          go_wp2_with fail
          refine wp_region_held_drew (S := (fun w' => w'.cell? ⟨b1, o1 + j, none⟩ = some (.int .i64 x) ∧ w'.cell? ⟨b2, o2 + j, none⟩ = some (.int .i64 y))) (by kernel_rfl) ?_ (fun hHeld => ?_)
          · exact ⟨y1, y2⟩
          first
            | refine tk0 0 (oi := ⟨_, _, _, _, _, _⟩) rfl ?_
            | refine tk1 0 (oi := ⟨_, _, _, _, _, _⟩) (v := ?_) rfl ?_ ?_; rotate_left; · (intro w5 hSw; (try dsimp only at hSw); go_simp; (try with_reducible rfl))
          try simp only [Act.put, List.setIfInBounds_toArray, List.set_cons_zero, List.set_cons_succ]
          first
            | refine tk0 1 (oi := ⟨_, _, _, _, _, _⟩) rfl ?_
            | refine tk1 1 (oi := ⟨_, _, _, _, _, _⟩) (v := ?_) rfl ?_ ?_; rotate_left; · (intro w5 hSw; (try dsimp only at hSw); go_simp; (try with_reducible rfl))
          try simp only [Act.put, List.setIfInBounds_toArray, List.set_cons_zero, List.set_cons_succ]
          first
            | refine tk0 2 (oi := ⟨_, _, _, _, _, _⟩) rfl ?_
            | refine tk1 2 (oi := ⟨_, _, _, _, _, _⟩) (v := ?_) rfl ?_ ?_; rotate_left; · (intro w5 hSw; (try dsimp only at hSw); go_simp; (try with_reducible rfl))
          try simp only [Act.put, List.setIfInBounds_toArray, List.set_cons_zero, List.set_cons_succ]
          first
            | refine tk0 3 (oi := ⟨_, _, _, _, _, _⟩) rfl ?_
            | refine tk1 3 (oi := ⟨_, _, _, _, _, _⟩) (v := ?_) rfl ?_ ?_; rotate_left; · (intro w5 hSw; (try dsimp only at hSw); go_simp; (try with_reducible rfl))
          try simp only [Act.put, List.setIfInBounds_toArray, List.set_cons_zero, List.set_cons_succ]
          first
            | refine tk0 4 (oi := ⟨_, _, _, _, _, _⟩) rfl ?_
            | refine tk1 4 (oi := ⟨_, _, _, _, _, _⟩) (v := ?_) rfl ?_ ?_; rotate_left; · (intro w5 hSw; (try dsimp only at hSw); go_simp; (try with_reducible rfl))
          try simp only [Act.put, List.setIfInBounds_toArray, List.set_cons_zero, List.set_cons_succ]
          first
            | refine tk0 5 (oi := ⟨_, _, _, _, _, _⟩) rfl ?_
            | refine tk1 5 (oi := ⟨_, _, _, _, _, _⟩) (v := ?_) rfl ?_ ?_; rotate_left; · (intro w5 hSw; (try dsimp only at hSw); go_simp; (try with_reducible rfl))
          try simp only [Act.put, List.setIfInBounds_toArray, List.set_cons_zero, List.set_cons_succ]
          first
            | refine tk0 6 (oi := ⟨_, _, _, _, _, _⟩) rfl ?_
            | refine tk1 6 (oi := ⟨_, _, _, _, _, _⟩) (v := ?_) rfl ?_ ?_; rotate_left; · (intro w5 hSw; (try dsimp only at hSw); go_simp; (try with_reducible rfl))
          try simp only [Act.put, List.setIfInBounds_toArray, List.set_cons_zero, List.set_cons_succ]
          first
            | refine tk0 7 (oi := ⟨_, _, _, _, _, _⟩) rfl ?_
            | refine tk1 7 (oi := ⟨_, _, _, _, _, _⟩) (v := ?_) rfl ?_ ?_; rotate_left; · (intro w5 hSw; (try dsimp only at hSw); go_simp; (try with_reducible rfl))
          try simp only [Act.put, List.setIfInBounds_toArray, List.set_cons_zero, List.set_cons_succ]
          first
            | refine tk0 8 (oi := ⟨_, _, _, _, _, _⟩) rfl ?_
            | refine tk1 8 (oi := ⟨_, _, _, _, _, _⟩) (v := ?_) rfl ?_ ?_; rotate_left; · (intro w5 hSw; (try dsimp only at hSw); go_simp; (try with_reducible rfl))
          try simp only [Act.put, List.setIfInBounds_toArray, List.set_cons_zero, List.set_cons_succ]
          refine wpAnyH_done (by kernel_rfl) ?_ _
          go_wp2_with fail
          go_roundw
          case rel => exact ⟨j + 1, by omega, by go_num, allN_step HAll.out HP.out, bthen HL.out (bdrew _)⟩
          case measure => simp [intOf]; omega
        · have hz : (x != y) = true := by simpa using hxy
          have HP : Hid (p j = false) := by show _ = _; rw [e]; simp [hxy]
          clear e hxy
          go_wp2_with fail
          refine wp_region_held_drew (S := (fun w' => w'.cell? ⟨b1, o1 + j, none⟩ = some (.int .i64 x) ∧ w'.cell? ⟨b2, o2 + j, none⟩ = some (.int .i64 y))) (by kernel_rfl) ?_ (fun hHeld => ?_)
          · exact ⟨y1, y2⟩
          first
            | refine tk0 0 (oi := ⟨_, _, _, _, _, _⟩) rfl ?_
            | refine tk1 0 (oi := ⟨_, _, _, _, _, _⟩) (v := ?_) rfl ?_ ?_; rotate_left; · (intro w5 hSw; (try dsimp only at hSw); go_simp; (try with_reducible rfl))
          try simp only [Act.put, List.setIfInBounds_toArray, List.set_cons_zero, List.set_cons_succ]
          first
            | refine tk0 1 (oi := ⟨_, _, _, _, _, _⟩) rfl ?_
            | refine tk1 1 (oi := ⟨_, _, _, _, _, _⟩) (v := ?_) rfl ?_ ?_; rotate_left; · (intro w5 hSw; (try dsimp only at hSw); go_simp; (try with_reducible rfl))
          try simp only [Act.put, List.setIfInBounds_toArray, List.set_cons_zero, List.set_cons_succ]
          first
            | refine tk0 2 (oi := ⟨_, _, _, _, _, _⟩) rfl ?_
            | refine tk1 2 (oi := ⟨_, _, _, _, _, _⟩) (v := ?_) rfl ?_ ?_; rotate_left; · (intro w5 hSw; (try dsimp only at hSw); go_simp; (try with_reducible rfl))
          try simp only [Act.put, List.setIfInBounds_toArray, List.set_cons_zero, List.set_cons_succ]
          first
            | refine tk0 3 (oi := ⟨_, _, _, _, _, _⟩) rfl ?_
            | refine tk1 3 (oi := ⟨_, _, _, _, _, _⟩) (v := ?_) rfl ?_ ?_; rotate_left; · (intro w5 hSw; (try dsimp only at hSw); go_simp; (try with_reducible rfl))
          try simp only [Act.put, List.setIfInBounds_toArray, List.set_cons_zero, List.set_cons_succ]
          first
            | refine tk0 4 (oi := ⟨_, _, _, _, _, _⟩) rfl ?_
            | refine tk1 4 (oi := ⟨_, _, _, _, _, _⟩) (v := ?_) rfl ?_ ?_; rotate_left; · (intro w5 hSw; (try dsimp only at hSw); go_simp; (try with_reducible rfl))
          try simp only [Act.put, List.setIfInBounds_toArray, List.set_cons_zero, List.set_cons_succ]
          first
            | refine tk0 5 (oi := ⟨_, _, _, _, _, _⟩) rfl ?_
            | refine tk1 5 (oi := ⟨_, _, _, _, _, _⟩) (v := ?_) rfl ?_ ?_; rotate_left; · (intro w5 hSw; (try dsimp only at hSw); go_simp; (try with_reducible rfl))
          try simp only [Act.put, List.setIfInBounds_toArray, List.set_cons_zero, List.set_cons_succ]
          first
            | refine tk0 6 (oi := ⟨_, _, _, _, _, _⟩) rfl ?_
            | refine tk1 6 (oi := ⟨_, _, _, _, _, _⟩) (v := ?_) rfl ?_ ?_; rotate_left; · (intro w5 hSw; (try dsimp only at hSw); go_simp; (try with_reducible rfl))
          try simp only [Act.put, List.setIfInBounds_toArray, List.set_cons_zero, List.set_cons_succ]
          first
            | refine tk0 7 (oi := ⟨_, _, _, _, _, _⟩) rfl ?_
            | refine tk1 7 (oi := ⟨_, _, _, _, _, _⟩) (v := ?_) rfl ?_ ?_; rotate_left; · (intro w5 hSw; (try dsimp only at hSw); go_simp; (try with_reducible rfl))
          try simp only [Act.put, List.setIfInBounds_toArray, List.set_cons_zero, List.set_cons_succ]
          first
            | refine tk0 8 (oi := ⟨_, _, _, _, _, _⟩) rfl ?_
            | refine tk1 8 (oi := ⟨_, _, _, _, _, _⟩) (v := ?_) rfl ?_ ?_; rotate_left; · (intro w5 hSw; (try dsimp only at hSw); go_simp; (try with_reducible rfl))
          try simp only [Act.put, List.setIfInBounds_toArray, List.set_cons_zero, List.set_cons_succ]
          refine wpAnyH_done (by kernel_rfl) ?_ _
          go_wp2_with fail
          go_ret
          exact ⟨by rw [E2.out, allN_false hlt HP.out]; rfl, bthen HL.out (bdrew _)⟩
      · obtain rfl : n = j := by omega
        clear hl
        go_wp2_with fail
        go_ret
        exact ⟨by rw [E2.out, HAll.out]; rfl, HL.out⟩
  · have hz : ((n : Int) != (m : Int)) = true := by simp; omega
    have E2 : Hid (s = false) := by show _ = _; rw [E.out]; simp [hnm]
    clear E hnm
    go_wp2_with fail
    go_ret
    exact ⟨by rw [E2.out]; rfl, Below.refl _ _⟩

end Go.Proofs.YtdpmpmaepjgndaaGreat
namespace Go.Proofs.YtdpmpmaepjgndaaGreat
open Go.RowKit Go.Deep
set_option linter.unusedVariables false
set_option linter.unusedSimpArgs false
set_option maxRecDepth 100000

section
variable {PM : StM} {PF PC : FlM} {base D P Q a : Nat} {x : Stt} {S : Nat → Bool} {u : World}
theorem ints14_any (l : List Nat) {b1 b2 : Nat} {v1 v2 : Value} {w : World} (h1 : NewL b1 l v1 w) (h2 : NewL b2 l v2 w) : Calls Tryz.prog 89 #[v1, v2] w fun e w' => e = .returned (.bool true) ∧ Below w.heap.size w w' := by
  have h := ints5_any (fun i => ((l.getD i 0 : Nat) : Int)) (fun i => ((l.getD i 0 : Nat) : Int)) l.length l.length v1 v2 w h1.sl h2.sl
  rwa [sameW_refl] at h
set_option maxHeartbeats 3200000 in
theorem holds14_any (I : Sh14 PM PF PC) (h : PM base D P x a S u) (hok : OkX x) (hsz : base ≤ u.heap.size) {v : Value} (hv : SRow base x.now v u) : Calls Tryz.prog 42 #[.pointer (some ⟨P, 0, none⟩), v] u fun r u' => r = .returned (.bool true) ∧ Below u.heap.size u u' := by
  obtain ⟨av, cv, rfl⟩ := hv.form
  have HI := Lib.hid I
  have HP := Lib.hid h
  have HOK := Lib.hid hok
  have HSZ := Lib.hid hsz
  have HV := Lib.hid hv
  have HN := Lib.hid (I.pages h hok hsz)
  have HR := Lib.hid (fun w (k : Below u.heap.size u w) => rpages14_any (hv.below k) hok.now)
  have HRD := Lib.hid (fun (i : Int) w (k : Below u.heap.size u w) => I.read i (I.below h k) hok (Nat.le_trans hsz k.size))
  have hl := hok.now
  clear h hok hsz hv I
  go_enter Tryz.func42, Tryz.ntmps42
  go_wp2_with fail
  refine (HN.out).mono ?_
  rintro e w1 ⟨v1, rfl, n1, hb1⟩
  have N1 := Lib.hid n1
  have B1 := Lib.hid hb1
  clear n1 hb1
  go_wp2_with fail
  refine (HR.out _ B1.out).mono ?_
  rintro e w2 ⟨v2, rfl, n2, hb2⟩
  have N2 := Lib.hid n2
  have N1b := Lib.hid (N1.out.below hb2)
  have B2 := Lib.hid (bthen B1.out hb2)
  clear n2 hb2
  have HI2 := Lib.hid (ints14_any _ N1b.out N2.out)
  go_wp2_with fail
  refine (HI2.out).mono ?_
  rintro e w3 ⟨rfl, hb3⟩
  have B3 := Lib.hid (bthen B2.out hb3)
  clear hb3
  go_wp2_with fail
  go_loopw [5] (fun i wr => ∃ j : Nat, j ≤ x.now.length ∧ i = .int .i64 j ∧ Hid (Below u.heap.size u wr)) (fun i _ => x.now.length - (intOf i).toNat)
  case atStart => exact ⟨0, Nat.zero_le _, rfl, B3⟩
  case round =>
    obtain ⟨j, hj, rfl, HB⟩ := hrel
    by_cases hlt : j < x.now.length
    · have hj1 : (j : Int) < (x.now.length : Int) := by omega
      have hj2 : (0 : Int) ≤ (j : Int) := by omega
      have d1 : decide ((j : Int) < (x.now.length : Int)) = true := decide_eq_true hj1
      have HR1 := Lib.hid (HRD.out (j : Int) _ HB.out)
      by_cases hz : isS x.now j = true
      · have hin : inS x.now (j : Int) := ⟨by omega, by rw [Int.toNat_natCast]; exact hz⟩
        rw [if_pos hin, if_pos hin, Int.toNat_natCast] at HR1
        have HZ := Lib.hid hz
        clear hz hin
        go_wp2_with fail
        refine (HR1.out).mono ?_
        rintro e w4 ⟨rfl, hb4⟩
        have B4 := Lib.hid (bthen HB.out hb4)
        clear hb4
        obtain ⟨_, b, ha, _, y0, y1, y2⟩ := (HV.out.below B4.out).look hlt
        cases ha
        rw [show (slA x.now j).is = true from HZ.out] at y0
        generalize (slA x.now j).b = t at *
        clear y1
        go_wp2_with fail
        go_roundw
        case rel => exact ⟨j + 1, hlt, by go_num, B4⟩
        case measure => simp [intOf]; omega
      · have hin : ¬ inS x.now (j : Int) := fun h => by have := h.2; rw [Int.toNat_natCast] at this; exact hz this
        rw [if_neg hin, if_neg hin] at HR1
        have HZ := Lib.hid (show (slA x.now j).is = false by simpa [isS] using hz)
        clear hz hin
        go_wp2_with fail
        refine (HR1.out).mono ?_
        rintro e w4 ⟨rfl, hb4⟩
        have B4 := Lib.hid (bthen HB.out hb4)
        clear hb4
        obtain ⟨_, b, ha, _, y0, y1, y2⟩ := (HV.out.below B4.out).look hlt
        cases ha
        rw [HZ.out] at y0
        clear y1
        go_wp2_with fail
        go_roundw
        case rel => exact ⟨j + 1, hlt, by go_num, B4⟩
        case measure => simp [intOf]; omega
    · have d1 : decide ((j : Int) < (x.now.length : Int)) = false := decide_eq_false (by omega)
      go_wp2_with fail
      go_ret
      exact ⟨rfl, HB.out⟩
set_option maxHeartbeats 6400000 in
theorem same14_any (I : Sh14 PM PF PC) (h : Bs14 PM base D P Q x a S u) : Calls Tryz.prog 12 #[.pointer (some ⟨P, 0, none⟩), .pointer (some ⟨Q, 0, none⟩)] u fun r u' => r = .returned (.bool true) ∧ Below u.heap.size u u' := by
  have HC := Lib.hid (I.count h.p h.ok h.sz)
  have HH := Lib.hid (fun w (k : Below u.heap.size u w) {v : Value} (hv : SRow base x.now v u) => holds14_any I (I.below h.p k) h.ok (Nat.le_trans h.sz k.size) (hv.below k))
  have HE := Lib.hid (fun w (k : Below u.heap.size u w) => I.epoch (I.below h.p k) h.ok (Nat.le_trans h.sz k.size))
  have HF := Lib.hid (fun w (k : Below u.heap.size u w) => rfree14_any (h.r.below k) h.ok.now h.ok.old ⟨h.ok.many.1, by have := h.ok.many.2; omega⟩)
  have HFR := Lib.hid (fun w (k : Below u.heap.size u w) => rfresh14_any (h.r.below k) h.ok.now)
  have HK := Lib.hid (fun w (k : Below u.heap.size u w) => rkept14_any (h.r.below k) h.ok.old)
  have HL := Lib.hid (fun w (k : Below u.heap.size u w) => rleaving14_any (h.r.below k) h.ok.now h.ok.old)
  obtain ⟨a1, c1, a2, c2, x0, x1, x2, x3, h1, h2, _⟩ := h.r.cells
  have HV := Lib.hid h1
  have XN := Lib.hid x1
  have XE := Lib.hid x3
  have W : Hid (IntKind.i64.wrap (keptS x.old - (leavingS x.now x.old : Int) + (leavingS x.now x.old : Int)) = keptS x.old) := Lib.hid (by
    have h3 := cntB_le (isS x.old) x.old.length
    have h4 := need_le (n := (x.old.length : Int)) (by have := h.ok.old; omega)
    have h5 := h.ok.old
    rw [IntKind.wrap_i64]
    unfold keptS thereS
    omega)
  have W2 : Hid (IntKind.i64.wrap (keptS x.old) = keptS x.old) := Lib.hid (by
    have h3 := cntB_le (isS x.old) x.old.length
    have h4 := need_le (n := (x.old.length : Int)) (by have := h.ok.old; omega)
    have h5 := h.ok.old
    rw [IntKind.wrap_i64]
    unfold keptS thereS
    omega)
  clear h h1 h2 x0 x1 x2 x3 I
  have hw := W.out
  have hw2 := W2.out
  generalize freeS x.many x.now x.old = fq at *
  generalize freshS x.now = fs at *
  generalize leavingS x.now x.old = lv at *
  generalize keptS x.old = kp at *
  go_enter Tryz.func12, Tryz.ntmps12
  go_wp2_with fail
  refine (HC.out).mono ?_
  rintro e w1 ⟨rfl, hb1⟩
  have B1 := Lib.hid hb1
  clear hb1
  go_upto_region 2 with fail
  refine wp_region_held_drew (S := (fun w' => w'.cell? ⟨Q, 1, none⟩ = some (.slice a1 x.now.length c1) ∧ w'.cell? ⟨Q, 3, none⟩ = some (.int .i64 x.ep))) (by kernel_rfl) ⟨cell_stays B1.out XN.out, cell_stays B1.out XE.out⟩ (fun hHeld => ?_)
  change wpAnyH _ _ _ _ _ _ _ _ (World.drew w1)
  have B2 := Lib.hid (B1.out.trans ((bdrew w1).mono B1.out.size))
  change World.cell? (World.drew w1) _ = _ ∧ World.cell? (World.drew w1) _ = _ at hHeld
  generalize World.drew w1 = w2 at *
  first | refine tq0 0 rfl ?_ | refine tq1 0 rfl ?_
  try go_frame
  first | refine tq0 1 rfl ?_ | refine tq1 1 rfl ?_
  try go_frame
  first | refine tq0 2 rfl ?_ | refine tq1 2 rfl ?_
  try go_frame
  first | refine tq0 3 rfl ?_ | refine tq1 3 rfl ?_
  try go_frame
  first | refine tq0 4 rfl ?_ | refine tq1 4 rfl ?_
  try go_frame
  refine wpAnyH_ready (rs := [5]) (by kernel_rfl) (by simp) ?_
  refine AllReadyH.cons (o := ⟨_, _, _, _, _, _⟩) rfl (fun Kx hKx => ?_) AllReadyH.nil
  go_simp
  refine (HH.out _ B2.out HV.out).mono ?_
  rintro r w3 ⟨rfl, hb⟩
  have B3 := Lib.hid (bthen B2.out hb)
  clear hb hHeld
  refine hKx.out _ _ ⟨cell_stays B3.out XN.out, cell_stays B3.out XE.out⟩ (fun hHeld => ?_)
  clear hKx Kx
  try simp only [Act.put, List.setIfInBounds_toArray, List.set_cons_zero, List.set_cons_succ]
  first | refine tq0 6 rfl ?_ | refine tq1 6 rfl ?_
  try go_frame
  first | refine tq0 7 rfl ?_ | refine tq1 7 rfl ?_
  try go_frame
  first | refine tq0 9 rfl ?_ | refine tq1 9 rfl ?_
  try go_frame
  first | refine tq0 10 rfl ?_ | refine tq1 10 rfl ?_
  try go_frame
  first | refine tq0 11 rfl ?_ | refine tq1 11 rfl ?_
  try go_frame
  first | refine tq0 12 rfl ?_ | refine tq1 12 rfl ?_
  try go_frame
  refine wpAnyH_ready (rs := [8]) (by kernel_rfl) (by simp) ?_
  refine AllReadyH.cons (o := ⟨_, _, _, _, _, _⟩) rfl (fun Kx hKx => ?_) AllReadyH.nil
  go_simp
  refine (HE.out _ B3.out).mono ?_
  rintro r w4 ⟨rfl, hb⟩
  have B4 := Lib.hid (bthen B3.out hb)
  clear hb hHeld
  refine hKx.out _ _ ⟨cell_stays B4.out XN.out, cell_stays B4.out XE.out⟩ (fun hHeld => ?_)
  clear hKx Kx
  try simp only [Act.put, List.setIfInBounds_toArray, List.set_cons_zero, List.set_cons_succ]
  first | refine tq0 13 rfl ?_ | refine tq1 13 rfl ?_
  try go_frame
  first | refine tq0 14 rfl ?_ | refine tq1 14 rfl ?_
  try go_frame
  first | refine tq0 15 rfl ?_ | refine tq1 15 rfl ?_
  try go_frame
  first | refine tq0 16 rfl ?_ | refine tq1 16 rfl ?_
  try go_frame
  first | refine tq0 17 rfl ?_ | refine tq1 17 rfl ?_
  try go_frame
  refine wpAnyH_ready (rs := [18]) (by kernel_rfl) (by simp) ?_
  refine AllReadyH.cons (o := ⟨_, _, _, _, _, _⟩) rfl (fun Kx hKx => ?_) AllReadyH.nil
  go_simp
  refine (HF.out _ B4.out).mono ?_
  rintro r w5 ⟨rfl, hb⟩
  have B5 := Lib.hid (bthen B4.out hb)
  clear hb hHeld
  refine hKx.out _ _ ⟨cell_stays B5.out XN.out, cell_stays B5.out XE.out⟩ (fun hHeld => ?_)
  clear hKx Kx
  try simp only [Act.put, List.setIfInBounds_toArray, List.set_cons_zero, List.set_cons_succ]
  first | refine tq0 19 rfl ?_ | refine tq1 19 rfl ?_
  try go_frame
  first | refine tq0 20 rfl ?_ | refine tq1 20 rfl ?_
  try go_frame
  first | refine tq0 21 rfl ?_ | refine tq1 21 rfl ?_
  try go_frame
  first | refine tq0 22 rfl ?_ | refine tq1 22 rfl ?_
  try go_frame
  first | refine tq0 23 rfl ?_ | refine tq1 23 rfl ?_
  try go_frame
  refine wpAnyH_ready (rs := [24]) (by kernel_rfl) (by simp) ?_
  refine AllReadyH.cons (o := ⟨_, _, _, _, _, _⟩) rfl (fun Kx hKx => ?_) AllReadyH.nil
  go_simp
  refine (HFR.out _ B5.out).mono ?_
  rintro r wz ⟨rfl, hwz⟩
  rw [hwz]
  clear hwz wz
  clear hHeld
  refine hKx.out _ _ ⟨cell_stays B5.out XN.out, cell_stays B5.out XE.out⟩ (fun hHeld => ?_)
  clear hKx Kx
  try simp only [Act.put, List.setIfInBounds_toArray, List.set_cons_zero, List.set_cons_succ]
  first | refine tq0 25 rfl ?_ | refine tq1 25 rfl ?_
  try go_frame
  first | refine tq0 26 rfl ?_ | refine tq1 26 rfl ?_
  try go_frame
  first | refine tq0 27 rfl ?_ | refine tq1 27 rfl ?_
  try go_frame
  first | refine tq0 28 rfl ?_ | refine tq1 28 rfl ?_
  try go_frame
  first | refine tq0 29 rfl ?_ | refine tq1 29 rfl ?_
  try go_frame
  first | refine tq0 30 rfl ?_ | refine tq1 30 rfl ?_
  try go_frame
  try simp only [hw, hw2]
  first | refine tq0 31 rfl ?_ | refine tq1 31 rfl ?_
  try go_frame
  refine wpAnyH_ready (rs := [32]) (by kernel_rfl) (by simp) ?_
  refine AllReadyH.cons (o := ⟨_, _, _, _, _, _⟩) rfl (fun Kx hKx => ?_) AllReadyH.nil
  go_simp
  refine (HK.out _ B5.out).mono ?_
  rintro r w6 ⟨rfl, hb⟩
  have B6 := Lib.hid (bthen B5.out hb)
  clear hb hHeld
  refine hKx.out _ _ ⟨cell_stays B6.out XN.out, cell_stays B6.out XE.out⟩ (fun hHeld => ?_)
  clear hKx Kx
  try simp only [Act.put, List.setIfInBounds_toArray, List.set_cons_zero, List.set_cons_succ]
  first | refine tq0 33 rfl ?_ | refine tq1 33 rfl ?_
  try go_frame
  try simp only [hw, hw2, beq_self_eq_true]
  first | refine tq0 34 rfl ?_ | refine tq1 34 rfl ?_
  try go_frame
  first | refine tq0 35 rfl ?_ | refine tq1 35 rfl ?_
  try go_frame
  first | refine tq0 36 rfl ?_ | refine tq1 36 rfl ?_
  try go_frame
  first | refine tq0 37 rfl ?_ | refine tq1 37 rfl ?_
  try go_frame
  refine wpAnyH_ready (rs := [38]) (by kernel_rfl) (by simp) ?_
  refine AllReadyH.cons (o := ⟨_, _, _, _, _, _⟩) rfl (fun Kx hKx => ?_) AllReadyH.nil
  go_simp
  refine (HL.out _ B6.out).mono ?_
  rintro r wz ⟨rfl, hwz⟩
  rw [hwz]
  clear hwz wz
  clear hHeld
  refine hKx.out _ _ ⟨cell_stays B6.out XN.out, cell_stays B6.out XE.out⟩ (fun hHeld => ?_)
  clear hKx Kx
  try simp only [Act.put, List.setIfInBounds_toArray, List.set_cons_zero, List.set_cons_succ]
  first | refine tq0 39 rfl ?_ | refine tq1 39 rfl ?_
  try go_frame
  first | refine tq0 40 rfl ?_ | refine tq1 40 rfl ?_
  try go_frame
  first | refine tq0 41 rfl ?_ | refine tq1 41 rfl ?_
  try go_frame
  refine wpAnyH_done (by kernel_rfl) ?_ _
  clear hHeld
  go_wp2_with fail
  go_ret
  exact ⟨rfl, B6.out⟩
end

end Go.Proofs.YtdpmpmaepjgndaaGreat
namespace Go.Proofs.YtdpmpmaepjgndaaGreat
open Go.RowKit Go.Deep
set_option linter.unusedVariables false
set_option linter.unusedSimpArgs false
set_option maxRecDepth 100000

/-- a slice of acts that lies below base -/
structure SaAt (base n : Nat) (A : Nat → Int × Int × ByteArray) (ao : Option Addr) (cap : Nat) (u : World) : Prop where
  c : n ≤ cap ∧ cap ≤ 9223372036854775807
  x : 0 < n → ∃ B o, ao = some ⟨B, o, none⟩ ∧ B < base ∧ ∀ i, i < n → u.cell? ⟨B, o + i * 3, none⟩ = some (.int .i64 (A i).1) ∧ u.cell? ⟨B, o + i * 3 + 1, none⟩ = some (.int .i64 (A i).2.1) ∧ u.cell? ⟨B, o + i * 3 + 2, none⟩ = some (.string (A i).2.2)
theorem SaAt.below {base n : Nat} {A : Nat → Int × Int × ByteArray} {ao : Option Addr} {cap : Nat} {u u2 : World} (h : SaAt base n A ao cap u) (k : Below base u u2) : SaAt base n A ao cap u2 :=
  ⟨h.c, fun hn => by
    obtain ⟨B, o, e, hB, hc⟩ := h.x hn
    exact ⟨B, o, e, hB, fun i hi => ⟨(World.cell?_of_block (k.block B hB)).trans (hc i hi).1, (World.cell?_of_block (k.block B hB)).trans (hc i hi).2.1, (World.cell?_of_block (k.block B hB)).trans (hc i hi).2.2⟩⟩⟩
theorem OkX.set {x : Stt} (h : OkX x) {l c : Nat} (hl : l < 512) (hc : c ≤ 900000) (s : Slt) : OkX { x with now := setS x.now l s, cl := c } := ⟨by show (setS x.now l s).length ≤ 512; rw [setS_len]; have := h.now; omega, h.old, h.many, h.ep, hc⟩
theorem okx_do {x : Stt} (h : OkX x) {k : Int} (hL : Lim x k) (hk : k ≤ 10000) (kind l : Int) (s : ByteArray) : OkX (doX x kind l s) ∧ Lim (doX x kind l s) (k + 1) := by
  obtain ⟨he, hcl⟩ := hL
  have hc9 : x.cl + 64 ≤ 900000 := by omega
  have L0 : Lim x (k + 1) := ⟨by omega, by omega⟩
  have hin : ∀ i : Int, inS x.now i → i.toNat < 512 := fun i hi => by
    rcases Nat.lt_or_ge i.toNat x.now.length with c | c
    · have := h.now; omega
    · have := hi.2; rw [isS_out c] at this; cases this
  unfold doX
  split
  · unfold newX
    split
    · rename_i hz
      refine ⟨h.set ?_ hc9 _, ⟨by show x.ep ≤ k + 1; omega, by show ((x.cl + 64 : Nat) : Int) ≤ 64 * (k + 1); omega⟩⟩
      unfold newE at hz
      split at hz
      · exact absurd hz (by decide)
      · split at hz
        · exact absurd hz (by decide)
        · rename_i c; omega
    · exact ⟨h, L0⟩
  · split
    · unfold dropSX
      split
      · rename_i hi
        exact ⟨h.set (hin l hi) h.cl _, L0⟩
      · exact ⟨h, L0⟩
    · split
      · unfold comSX
        split
        · exact ⟨h, L0⟩
        · have hn : (nextS x.now).length ≤ 512 := by rw [nextS_len]; have := trimS_le x.now x.now.length; have := h.now; omega
          exact ⟨⟨hn, hn, h.many, ⟨by show 1 ≤ x.ep + 1; have := h.ep; omega, by show x.ep + 1 ≤ 1000000; omega⟩, hc9⟩, ⟨by show x.ep + 1 ≤ k + 1; omega, by show ((x.cl + 64 : Nat) : Int) ≤ 64 * (k + 1); omega⟩⟩
      · split
        · exact ⟨⟨h.old, h.old, h.many, h.ep, h.cl⟩, L0⟩
        · unfold putWX
          split
          · rename_i hz
            refine ⟨h.set ?_ hc9 _, ⟨by show x.ep ≤ k + 1; omega, by show ((x.cl + 64 : Nat) : Int) ≤ 64 * (k + 1); omega⟩⟩
            apply hin
            unfold putWE at hz
            split at hz
            · exact absurd hz (by decide)
            · split at hz
              · assumption
              · exact absurd hz (by decide)
          · exact ⟨h, L0⟩
section
variable {PM : StM} {PF PC : FlM} {base D P Q a : Nat} {x x2 : Stt} {S : Nat → Bool} {u u2 : World}
set_option maxHeartbeats 1600000 in
theorem begun14_any (I : Sh14 PM PF PC) (m : Nat) (hm : 1 ≤ m) (hm2 : m ≤ 100) (u : World) : Calls Tryz.prog 8 #[.int .i64 (m : Int)] u fun r u' => ∃ D P Q S, r = .returned (.tuple #[.pointer (some ⟨D, 0, none⟩), .pointer (some ⟨P, 0, none⟩), .pointer (some ⟨Q, 0, none⟩)]) ∧ Bs14 PM u.heap.size D P Q ⟨(m : Int), [], [], 1, 64⟩ 0 S u' ∧ Below u.heap.size u u' := by
  have W1 : IntKind.i64.wrap (4 * (m : Int)) = 4 * (m : Int) := by rw [IntKind.wrap_i64]; omega
  have W2 : IntKind.i64.wrap (2 + 4 * (m : Int)) = 2 + 4 * (m : Int) := by rw [IntKind.wrap_i64]; omega
  have HN : Hid (Calls Tryz.prog 35 #[.int .i64 (2 + 4 * (m : Int))] u fun r u' => ∃ P bS bm cS, r = .returned (.tuple #[.pointer (some ⟨P, 0, none⟩), .int .i64 0]) ∧ PDk u.heap.size P bS bm cS (newD (2 + 4 * m)) u' ∧ Below u.heap.size u u') := Lib.hid (by
    have h := pnew_any (2 + 4 * m) (by omega) (by omega) u
    rw [show ((2 + 4 * m : Nat) : Int) = 2 + 4 * (m : Int) by omega] at h
    exact h)
  have HI := Lib.hid I
  clear I
  go_enter Tryz.func8, Tryz.ntmps8
  go_wp2_with fail
  refine (HN.out).mono ?_
  rintro e w1 ⟨D, bS, bm, cS, rfl, hp, hb1⟩
  have PD := Lib.hid hp
  have B1 := Lib.hid hb1
  have HF := Lib.hid (HI.out.format hp hm (by omega) hb1.size)
  clear hp hb1
  go_wp2_with fail
  refine (HF.out).mono ?_
  rintro e w2 ⟨P, S2, rfl, hpm, n2, k2⟩
  have B2 := Lib.hid (B1.out.trans (PD.out.bot k2 B1.out.size))
  have X3 := Lib.hid (heap_alloc_new w2 (.cells #[.int .i64 (m : Int), .slice none 0 0, .slice none 0 0, .int .i64 1, .bool false] 58))
  have A3 := Lib.hid (balloc w2 (.cells #[.int .i64 (m : Int), .slice none 0 0, .slice none 0 0, .int .i64 1, .bool false] 58))
  have NIL : Hid (∀ w : World, SRow u.heap.size [] (.slice none 0 0) w) := Lib.hid (fun w => .inl ⟨rfl, none, 0, rfl, by omega, fun p hp => by cases hp⟩)
  have F : Hid (Bs14 PM u.heap.size D P w2.heap.size ⟨(m : Int), [], [], 1, 64⟩ 0 S2 (w2.alloc (.cells #[.int .i64 (m : Int), .slice none 0 0, .slice none 0 0, .int .i64 1, .bool false] 58)) ∧ Below u.heap.size u (w2.alloc (.cells #[.int .i64 (m : Int), .slice none 0 0, .slice none 0 0, .int .i64 1, .bool false] 58))) := Lib.hid (by
    refine ⟨⟨HI.out.below hpm A3.out, ⟨⟨_, _, X3.out, NIL.out _, NIL.out _, by simp [Value.ownBlock], by simp [Value.ownBlock]⟩, B2.out.size⟩, fun k hk => ?_, ⟨Nat.zero_le _, Nat.zero_le _, ⟨by show (0 : Int) ≤ (m : Int); omega, by show (m : Int) ≤ 1024; omega⟩, ⟨by show (1 : Int) ≤ 1; omega, by show (1 : Int) ≤ 1000000; omega⟩, by show 64 ≤ 900000; omega⟩, ?_⟩, B2.out.trans (A3.out.mono B2.out.size)⟩
    · rcases rs_of X3.out hk with rfl | hv | hv
      · cases c : S2 w2.heap.size with
        | false => rfl
        | true => have := (HI.out.lo hpm _ c).2; omega
      · cases hv
      · cases hv
    · have := B2.out.size; have := A3.out.size; omega)
  clear hpm n2 k2 HF HN
  go_wp2_with fail
  go_ret3
  exact ⟨_, _, _, _, rfl, F.out⟩
end

end Go.Proofs.YtdpmpmaepjgndaaGreat
