/- The contract of the document's Need. (Moved out of RtR1.) The contracts of the document's looks: there, at, Fresh, Kept, Free, Leaving, Pages. The contracts of the document's Kept, Free, Pages, Next, Abort. -/
import Derived.Deep.DeepCutAuto
import Derived.Test.YtdpmpmaepjgndaaGreatYZ1
import Derived.Test.YtdpmpmaepjgndaaGreatYZ3
import Derived.Test.YtdpmpmaepjgndaaGreatYZ2
import Derived.Test.YtdpmpmaepjgndaaGreatYZ6
namespace Go.Proofs.YtdpmpmaepjgndaaGreat
open Go.RowKit
set_option linter.unusedVariables false
set_option maxRecDepth 100000

theorem rneed_any (x : Int) (hx : -9223372036854775808 ≤ x ∧ x ≤ 9223372036854775807) (w : World) : Calls Tryz.prog 88 #[.int .i64 x] w fun e w' => e = .returned (.int .i64 (needR x)) ∧ w' = w := by
  by_cases h : x < 1
  · have E : Hid (needR x = 0) := Lib.hid (by unfold needR; rw [if_pos h])
    have d : decide (x < 1) = true := by simp [h]
    go_enter Tryz.func88, Tryz.ntmps88
    go_wp2_with fail
    go_ret
    exact ⟨by rw [E.out]; rfl, rfl⟩
  · obtain ⟨m, rfl⟩ : ∃ m : Nat, x = (m : Int) + 1 := ⟨(x - 1).toNat, by omega⟩
    have E : Hid (needR ((m : Int) + 1) = (m : Int) / 116 + 1) := Lib.hid (by unfold needR; rw [if_neg h]; congr 2; omega)
    have d : decide ((m : Int) + 1 < 1) = false := by simp; omega
    have e0 : (m : Int) + 1 - 1 = m := by omega
    clear h
    go_enter Tryz.func88, Tryz.ntmps88
    go_wp2_with fail
    go_ret
    exact ⟨by rw [E.out]; rfl, rfl⟩


end Go.Proofs.YtdpmpmaepjgndaaGreat
namespace Go.Proofs.YtdpmpmaepjgndaaGreat
open Go.RowKit Go.Deep
set_option linter.unusedVariables false
set_option linter.unusedSimpArgs false
set_option maxRecDepth 100000

section
variable {base Q : Nat} {x : Stt} {l : List Slt} {v : Value} {u : World}
set_option maxHeartbeats 1600000 in
theorem rthere_any (h : SRow base l v u) (hl : l.length ≤ 512) : Calls Tryz.prog 91 #[v] u fun r u' => r = .returned (.int .i64 (thereS l : Int)) ∧ u' = u := by
  obtain ⟨a, c, rfl⟩ := h.form
  have R := Lib.hid h
  clear h
  go_enter Tryz.func91, Tryz.ntmps91
  go_wp2_with fail
  go_loopw [3, 4] (fun m i wr => ∃ j : Nat, j ≤ l.length ∧ i = .int .i64 j ∧ m = .int .i64 (cntB (isS l) j : Int) ∧ wr = u) (fun _ i _ => l.length - (intOf i).toNat)
  case atStart => exact ⟨0, Nat.zero_le _, rfl, rfl, rfl⟩
  case round =>
    obtain ⟨j, hj, rfl, rfl, hw⟩ := hrel
    rw [hw]
    clear hw wr
    have hle := cntB_le (isS l) j
    by_cases hlt : j < l.length
    · have hj1 : (j : Int) < (l.length : Int) := by omega
      have hj2 : (0 : Int) ≤ (j : Int) := by omega
      have d1 : decide ((j : Int) < (l.length : Int)) = true := by simp [hlt]
      obtain ⟨_, b, ha, _, x1, _⟩ := R.out.look hlt
      subst ha
      by_cases hz : isS l j = true
      · have E : Hid (cntB (isS l) (j + 1) = cntB (isS l) j + 1) := Lib.hid (by simp only [cntB]; rw [if_pos hz])
        rw [show (slA l j).is = true from hz] at x1
        generalize cntB (isS l) j = m at *
        go_wp2_with fail
        go_roundw
        case rel => exact ⟨j + 1, hlt, by go_num, by rw [E.out]; go_num, trivial⟩
        case measure => simp [intOf]; omega
      · have E : Hid (cntB (isS l) (j + 1) = cntB (isS l) j) := Lib.hid (by simp only [cntB]; rw [if_neg hz]; rfl)
        rw [show (slA l j).is = false by simpa [isS] using hz] at x1
        generalize cntB (isS l) j = m at *
        go_wp2_with fail
        go_roundw
        case rel => exact ⟨j + 1, hlt, by go_num, by rw [E.out], trivial⟩
        case measure => simp [intOf]; omega
    · have hj9 : j = l.length := by omega
      have E : Hid (cntB (isS l) j = thereS l) := Lib.hid (by rw [hj9]; rfl)
      have d1 : decide ((j : Int) < (l.length : Int)) = false := decide_eq_false (by omega)
      clear hj9
      go_wp2_with fail
      go_ret
      exact ⟨by rw [E.out]; rfl, rfl⟩
theorem RSh.cells (h : RSh base Q x u) : ∃ a1 c1 a2 c2, u.cell? ⟨Q, 0, none⟩ = some (.int .i64 x.many) ∧ u.cell? ⟨Q, 1, none⟩ = some (.slice a1 x.now.length c1) ∧ u.cell? ⟨Q, 2, none⟩ = some (.slice a2 x.old.length c2) ∧ u.cell? ⟨Q, 3, none⟩ = some (.int .i64 x.ep) ∧ SRow base x.now (.slice a1 x.now.length c1) u ∧ SRow base x.old (.slice a2 x.old.length c2) u ∧ u.frozen? ⟨Q, 1, none⟩ = false ∧ u.frozen? ⟨Q, 2, none⟩ = false ∧ u.frozen? ⟨Q, 3, none⟩ = false ∧ u.heap[Q]? = some (.cells #[.int .i64 x.many, .slice a1 x.now.length c1, .slice a2 x.old.length c2, .int .i64 x.ep, .bool false] 58 (0, 0)) ∧ (Value.slice a1 x.now.length c1).ownBlock ≠ some Q ∧ (Value.slice a2 x.old.length c2).ownBlock ≠ some Q := by
  obtain ⟨v1, v2, e, h1, h2, n1, n2⟩ := h.box
  obtain ⟨a1, c1, rfl⟩ := h1.form
  obtain ⟨a2, c2, rfl⟩ := h2.form
  refine ⟨a1, c1, a2, c2, ?_, ?_, ?_, ?_, h1, h2, Lib.frozen_of_heap e 1, Lib.frozen_of_heap e 2, Lib.frozen_of_heap e 3, e, n1, n2⟩
  all_goals (rw [Lib.cell_of_heap e]; rfl)
set_option maxHeartbeats 1600000 in
theorem rat14_any (h : RSh base Q x u) (hl : x.now.length ≤ 512) (i : Int) : Calls Tryz.prog 86 #[.pointer (some ⟨Q, 0, none⟩), .int .i64 i] u fun r u' => r = .returned (.bool (decide (inS x.now i))) ∧ u' = u := by
  obtain ⟨a1, c1, a2, c2, x0, x1, x2, x3, h1, h2, _⟩ := h.cells
  have R := Lib.hid h1
  clear h h1 h2 x0 x2 x3
  go_enter Tryz.func86, Tryz.ntmps86
  by_cases i0 : 0 ≤ i
  · obtain ⟨k, rfl⟩ : ∃ k : Nat, i = (k : Int) := ⟨i.toNat, by omega⟩
    have d0 : decide ((0 : Int) ≤ (k : Int)) = true := by simp
    by_cases hk : k < x.now.length
    · have hk1 : (k : Int) < (x.now.length : Int) := by omega
      have d1 : decide ((k : Int) < (x.now.length : Int)) = true := by simp [hk]
      have E : Hid (decide (inS x.now (k : Int)) = (slA x.now k).is) := Lib.hid (by
        by_cases c : (slA x.now k).is = true
        · rw [c]; exact decide_eq_true ⟨by omega, by rw [Int.toNat_natCast]; exact c⟩
        · rw [show (slA x.now k).is = false by simpa using c]
          exact decide_eq_false (fun h => by have := h.2; rw [Int.toNat_natCast] at this; exact c this))
      obtain ⟨_, b, ha, _, y1, _⟩ := R.out.look hk
      subst ha
      go_wp2_with fail
      go_ret
      exact ⟨by rw [E.out]; rfl, rfl⟩
    · have d1 : decide ((k : Int) < (x.now.length : Int)) = false := decide_eq_false (by omega)
      have E : Hid (decide (inS x.now (k : Int)) = false) := Lib.hid (decide_eq_false (by
        unfold inS
        rw [Int.toNat_natCast, isS_out (by omega)]
        simp))
      go_wp2_with fail
      go_ret
      exact ⟨by rw [E.out]; rfl, rfl⟩
  · have d0 : decide ((0 : Int) ≤ i) = false := decide_eq_false i0
    have E : Hid (decide (inS x.now i) = false) := Lib.hid (decide_eq_false (fun h => i0 h.1))
    go_wp2_with fail
    go_ret
    exact ⟨by rw [E.out]; rfl, rfl⟩
set_option maxHeartbeats 1600000 in
theorem rfresh14_any (h : RSh base Q x u) (hl : x.now.length ≤ 512) : Calls Tryz.prog 44 #[.pointer (some ⟨Q, 0, none⟩)] u fun r u' => r = .returned (.int .i64 (freshS x.now : Int)) ∧ u' = u := by
  obtain ⟨a1, c1, a2, c2, x0, x1, x2, x3, h1, h2, _⟩ := h.cells
  have R := Lib.hid h1
  clear h h1 h2 x0 x2 x3
  go_enter Tryz.func44, Tryz.ntmps44
  go_wp2_with fail
  go_loopw [3, 4] (fun m i wr => ∃ j : Nat, j ≤ x.now.length ∧ i = .int .i64 j ∧ m = .int .i64 (cntB (newS x.now) j : Int) ∧ wr = u) (fun _ i _ => x.now.length - (intOf i).toNat)
  case atStart => exact ⟨0, Nat.zero_le _, rfl, rfl, rfl⟩
  case round =>
    obtain ⟨j, hj, rfl, rfl, hw⟩ := hrel
    rw [hw]
    clear hw wr
    have hle := cntB_le (newS x.now) j
    by_cases hlt : j < x.now.length
    · have hj1 : (j : Int) < (x.now.length : Int) := by omega
      have hj2 : (0 : Int) ≤ (j : Int) := by omega
      have d1 : decide ((j : Int) < (x.now.length : Int)) = true := by simp [hlt]
      obtain ⟨_, b, ha, _, y1, y2, _⟩ := R.out.look hlt
      subst ha
      have E0 : Hid (newS x.now j = ((slA x.now j).is && (slA x.now j).fr)) := Lib.hid rfl
      have E9 : Hid (cntB (newS x.now) (j + 1) = cntB (newS x.now) j + (if newS x.now j then 1 else 0)) := Lib.hid rfl
      generalize cntB (newS x.now) j = m at *
      generalize (slA x.now j).is = p at *
      generalize (slA x.now j).fr = q at *
      rcases p with _ | _
      · have E : Hid (cntB (newS x.now) (j + 1) = m) := Lib.hid (by rw [E9.out, E0.out]; rfl)
        go_wp2_with fail
        go_roundw
        case rel => exact ⟨j + 1, hlt, by go_num, by rw [E.out], trivial⟩
        case measure => simp [intOf]; omega
      · rcases q with _ | _
        · have E : Hid (cntB (newS x.now) (j + 1) = m) := Lib.hid (by rw [E9.out, E0.out]; rfl)
          go_wp2_with fail
          go_roundw
          case rel => exact ⟨j + 1, hlt, by go_num, by rw [E.out], trivial⟩
          case measure => simp [intOf]; omega
        · have E : Hid (cntB (newS x.now) (j + 1) = m + 1) := Lib.hid (by rw [E9.out, E0.out]; rfl)
          go_wp2_with fail
          go_roundw
          case rel => exact ⟨j + 1, hlt, by go_num, by rw [E.out]; go_num, trivial⟩
          case measure => simp [intOf]; omega
    · have hj9 : j = x.now.length := by omega
      have E : Hid (cntB (newS x.now) j = freshS x.now) := Lib.hid (by rw [hj9]; rfl)
      have d1 : decide ((j : Int) < (x.now.length : Int)) = false := decide_eq_false (by omega)
      clear hj9
      go_wp2_with fail
      go_ret
      exact ⟨by rw [E.out]; rfl, rfl⟩
set_option maxHeartbeats 3200000 in
theorem rleaving14_any (h : RSh base Q x u) (hl : x.now.length ≤ 512) (hl2 : x.old.length ≤ 512) : Calls Tryz.prog 46 #[.pointer (some ⟨Q, 0, none⟩)] u fun r u' => r = .returned (.int .i64 (leavingS x.now x.old : Int)) ∧ u' = u := by
  obtain ⟨a1, c1, a2, c2, x0, x1, x2, x3, h1, h2, _⟩ := h.cells
  have R1 := Lib.hid h1
  have R2 := Lib.hid h2
  clear h h1 h2 x0 x3
  go_enter Tryz.func46, Tryz.ntmps46
  go_wp2_with fail
  go_loopw [3, 4] (fun m i wr => ∃ j : Nat, j ≤ x.old.length ∧ i = .int .i64 j ∧ m = .int .i64 (cntB (leftS x.now x.old) j : Int) ∧ wr = u) (fun _ i _ => x.old.length - (intOf i).toNat)
  case atStart => exact ⟨0, Nat.zero_le _, rfl, rfl, rfl⟩
  case round =>
    obtain ⟨j, hj, rfl, rfl, hw⟩ := hrel
    rw [hw]
    clear hw wr
    have hle := cntB_le (leftS x.now x.old) j
    by_cases hlt : j < x.old.length
    · have hj1 : (j : Int) < (x.old.length : Int) := by omega
      have hj2 : (0 : Int) ≤ (j : Int) := by omega
      have d1 : decide ((j : Int) < (x.old.length : Int)) = true := by simp [hlt]
      obtain ⟨_, b, ha, _, y1, y2, _⟩ := R2.out.look hlt
      subst ha
      have E0 : Hid (leftS x.now x.old j = ((slA x.old j).is && (!(slA x.now j).is || (slA x.now j).fr))) := Lib.hid rfl
      have E9 : Hid (cntB (leftS x.now x.old) (j + 1) = cntB (leftS x.now x.old) j + (if leftS x.now x.old j then 1 else 0)) := Lib.hid rfl
      generalize cntB (leftS x.now x.old) j = m at *
      generalize (slA x.old j).is = p at *
      rcases p with _ | _
      · have E : Hid (cntB (leftS x.now x.old) (j + 1) = m) := Lib.hid (by rw [E9.out, E0.out]; rfl)
        go_wp2_with fail
        go_roundw
        case rel => exact ⟨j + 1, hlt, by go_num, by rw [E.out], trivial⟩
        case measure => simp [intOf]; omega
      · by_cases hn : j < x.now.length
        · have hn1 : (j : Int) < (x.now.length : Int) := by omega
          have d2 : decide ((x.now.length : Int) ≤ (j : Int)) = false := decide_eq_false (by omega)
          obtain ⟨_, bn, ha, _, z1, z2, _⟩ := R1.out.look hn
          subst ha
          generalize (slA x.now j).is = p at *
          generalize (slA x.now j).fr = q at *
          rcases p with _ | _
          · have E : Hid (cntB (leftS x.now x.old) (j + 1) = m + 1) := Lib.hid (by rw [E9.out, E0.out]; rfl)
            go_wp2_with fail
            go_roundw
            case rel => exact ⟨j + 1, hlt, by go_num, by rw [E.out]; go_num, trivial⟩
            case measure => simp [intOf]; omega
          · rcases q with _ | _
            · have E : Hid (cntB (leftS x.now x.old) (j + 1) = m) := Lib.hid (by rw [E9.out, E0.out]; rfl)
              go_wp2_with fail
              go_roundw
              case rel => exact ⟨j + 1, hlt, by go_num, by rw [E.out], trivial⟩
              case measure => simp [intOf]; omega
            · have E : Hid (cntB (leftS x.now x.old) (j + 1) = m + 1) := Lib.hid (by rw [E9.out, E0.out]; rfl)
              go_wp2_with fail
              go_roundw
              case rel => exact ⟨j + 1, hlt, by go_num, by rw [E.out]; go_num, trivial⟩
              case measure => simp [intOf]; omega
        · have d2 : decide ((x.now.length : Int) ≤ (j : Int)) = true := decide_eq_true (by omega)
          have hn2 : x.now.length ≤ j := by omega
          have E : Hid (cntB (leftS x.now x.old) (j + 1) = m + 1) := Lib.hid (by
            rw [E9.out, E0.out, slA_out (by omega)]; rfl)
          go_wp2_with fail
          go_roundw
          case rel => exact ⟨j + 1, hlt, by go_num, by rw [E.out]; go_num, trivial⟩
          case measure => simp [intOf]; omega
    · have hj9 : j = x.old.length := by omega
      have E : Hid (cntB (leftS x.now x.old) j = leavingS x.now x.old) := Lib.hid (by rw [hj9]; rfl)
      have d1 : decide ((j : Int) < (x.old.length : Int)) = false := decide_eq_false (by omega)
      clear hj9
      go_wp2_with fail
      go_ret
      exact ⟨by rw [E.out]; rfl, rfl⟩
end

end Go.Proofs.YtdpmpmaepjgndaaGreat
namespace Go.Proofs.YtdpmpmaepjgndaaGreat
open Go.RowKit Go.Deep
set_option linter.unusedVariables false
set_option linter.unusedSimpArgs false
set_option maxRecDepth 100000

theorem cell_stays {u u2 : World} (k : Below u.heap.size u u2) {a : Addr} {v : Value} (h : u.cell? a = some v) : u2.cell? a = some v := by
  obtain ⟨_, _, _, e⟩ := cell_block h
  exact (World.cell?_of_block (k.block _ (lt_of_block e))).trans h
section
variable {base Q : Nat} {x : Stt} {l : List Slt} {v : Value} {u : World}
set_option maxHeartbeats 1600000 in
theorem rkept14_any (h : RSh base Q x u) (hl2 : x.old.length ≤ 512) : Calls Tryz.prog 45 #[.pointer (some ⟨Q, 0, none⟩)] u fun r u' => r = .returned (.int .i64 (keptS x.old)) ∧ Below u.heap.size u u' := by
  obtain ⟨a1, c1, a2, c2, x0, x1, x2, x3, h1, h2, _⟩ := h.cells
  have HT := Lib.hid (fun w (k : Below u.heap.size u w) => rthere_any (h2.below k) hl2)
  have HN := Lib.hid (rneed_any (x.old.length : Int) ⟨by omega, by omega⟩)
  have HW : Hid (IntKind.i64.wrap ((thereS x.old : Int) + needR (x.old.length : Int)) = keptS x.old) := Lib.hid (by
    have h3 := cntB_le (isS x.old) x.old.length
    have h4 := need_le (n := (x.old.length : Int)) (by omega)
    unfold keptS
    rw [IntKind.wrap_i64]
    unfold thereS
    omega)
  clear h h1 h2 x0 x1 x3
  go_enter Tryz.func45, Tryz.ntmps45
  go_upto_region 1 with fail
  refine wp_region_held_drew (S := (fun w' => w'.cell? ⟨Q, 2, none⟩ = some (.slice a2 x.old.length c2))) (by kernel_rfl) x2 (fun hHeld => ?_)
  change wpAnyH _ _ _ _ _ _ _ _ (World.drew u)
  have B := Lib.hid (bdrew u)
  have X2 : (World.drew u).cell? ⟨Q, 2, none⟩ = some (.slice a2 x.old.length c2) := x2
  clear x2
  generalize World.drew u = w4 at *
  first | refine tq0 0 rfl ?_ | refine tq1 0 rfl ?_
  try go_frame
  first | refine tq0 1 rfl ?_ | refine tq1 1 rfl ?_
  try go_frame
  first | refine tq0 2 rfl ?_ | refine tq1 2 rfl ?_
  try go_frame
  first | refine tq0 3 rfl ?_ | refine tq1 3 rfl ?_
  try go_frame
  first | refine tq0 5 rfl ?_ | refine tq1 5 rfl ?_
  try go_frame
  first | refine tq0 6 rfl ?_ | refine tq1 6 rfl ?_
  try go_frame
  first | refine tq0 7 rfl ?_ | refine tq1 7 rfl ?_
  try go_frame
  first | refine tq0 8 rfl ?_ | refine tq1 8 rfl ?_
  try go_frame
  first | refine tq0 9 rfl ?_ | refine tq1 9 rfl ?_
  try go_frame
  refine wpAnyH_ready (rs := [4]) (by kernel_rfl) (by simp) ?_
  refine AllReadyH.cons (o := ⟨_, _, _, _, _, _⟩) rfl (fun Kx hKx => ?_) AllReadyH.nil
  go_simp
  refine (HT.out _ B.out).mono ?_
  rintro e w5 ⟨rfl, hw⟩
  rw [hw]
  clear hw w5
  refine hKx.out _ _ X2 (fun hHeld => ?_)
  clear hKx Kx
  try simp only [Act.put, List.setIfInBounds_toArray, List.set_cons_zero, List.set_cons_succ]
  refine wpAnyH_ready (rs := [10]) (by kernel_rfl) (by simp) ?_
  refine AllReadyH.cons (o := ⟨_, _, _, _, _, _⟩) rfl (fun Kx hKx => ?_) AllReadyH.nil
  go_simp
  refine (HN.out _).mono ?_
  rintro e w5 ⟨rfl, hw⟩
  rw [hw]
  clear hw w5
  refine hKx.out _ _ X2 (fun hHeld => ?_)
  clear hKx Kx
  try simp only [Act.put, List.setIfInBounds_toArray, List.set_cons_zero, List.set_cons_succ]
  first | refine tq0 11 rfl ?_ | refine tq1 11 rfl ?_
  try go_frame
  first | refine tq0 12 rfl ?_ | refine tq1 12 rfl ?_
  try go_frame
  refine wpAnyH_done (by kernel_rfl) ?_ _
  clear hHeld
  go_wp2_with fail
  go_ret
  exact ⟨by rw [← HW.out]; rfl, B.out⟩
set_option maxHeartbeats 1600000 in
theorem rfree14_any (h : RSh base Q x u) (hl : x.now.length ≤ 512) (hl2 : x.old.length ≤ 512) (hm : 0 ≤ x.many ∧ x.many ≤ 100000) : Calls Tryz.prog 43 #[.pointer (some ⟨Q, 0, none⟩)] u fun r u' => r = .returned (.int .i64 (freeS x.many x.now x.old)) ∧ Below u.heap.size u u' := by
  obtain ⟨a1, c1, a2, c2, x0, x1, x2, x3, h1, h2, _⟩ := h.cells
  have HK := Lib.hid (fun w (k : Below u.heap.size u w) => rkept14_any (h.below k) hl2)
  have HF := Lib.hid (fun w (k : Below u.heap.size u w) => rfresh14_any (h.below k) hl)
  have h3 := cntB_le (isS x.old) x.old.length
  have h4 := need_le (n := (x.old.length : Int)) (by omega)
  have h5 := cntB_le (newS x.now) x.now.length
  have hk : 0 ≤ keptS x.old ∧ keptS x.old ≤ 1000 := by unfold keptS thereS; omega
  have W1 : IntKind.i64.wrap (x.many - keptS x.old) = x.many - keptS x.old := by rw [IntKind.wrap_i64]; omega
  have W2 : IntKind.i64.wrap (x.many - keptS x.old - (freshS x.now : Int)) = freeS x.many x.now x.old := by
    unfold freeS
    rw [IntKind.wrap_i64]
    unfold freshS
    omega
  have HW1 := Lib.hid W1
  have HW2 := Lib.hid W2
  clear h h1 h2 h3 h4 h5 hk W1 W2 x1 x2 x3
  generalize keptS x.old = kp at *
  generalize freeS x.many x.now x.old = fq at *
  generalize freshS x.now = fs at *
  go_enter Tryz.func43, Tryz.ntmps43
  go_upto_region 1 with fail
  refine wp_region_held_drew (S := (fun w' => w'.cell? ⟨Q, 0, none⟩ = some (.int .i64 x.many))) (by kernel_rfl) x0 (fun hHeld => ?_)
  change wpAnyH _ _ _ _ _ _ _ _ (World.drew u)
  have B := Lib.hid (bdrew u)
  have X2 : (World.drew u).cell? ⟨Q, 0, none⟩ = some (.int .i64 x.many) := x0
  clear x0
  generalize World.drew u = w4 at *
  first | refine tq0 0 rfl ?_ | refine tq1 0 rfl ?_
  try go_frame
  first | refine tq0 1 rfl ?_ | refine tq1 1 rfl ?_
  try go_frame
  first | refine tq0 2 rfl ?_ | refine tq1 2 rfl ?_
  try go_frame
  first | refine tq0 3 rfl ?_ | refine tq1 3 rfl ?_
  try go_frame
  first | refine tq0 4 rfl ?_ | refine tq1 4 rfl ?_
  try go_frame
  first | refine tq0 7 rfl ?_ | refine tq1 7 rfl ?_
  try go_frame
  refine wpAnyH_ready (rs := [5]) (by kernel_rfl) (by simp) ?_
  refine AllReadyH.cons (o := ⟨_, _, _, _, _, _⟩) rfl (fun Kx hKx => ?_) AllReadyH.nil
  go_simp
  refine (HK.out _ B.out).mono ?_
  rintro e w5 ⟨rfl, hb⟩
  have X5 := cell_stays hb X2
  have B5 := Lib.hid (bthen B.out hb)
  clear hb X2
  refine hKx.out _ _ X5 (fun hHeld => ?_)
  clear hKx Kx
  try simp only [Act.put, List.setIfInBounds_toArray, List.set_cons_zero, List.set_cons_succ]
  first | refine tq0 6 rfl ?_ | refine tq1 6 rfl ?_
  try go_frame
  refine wpAnyH_ready (rs := [8]) (by kernel_rfl) (by simp) ?_
  refine AllReadyH.cons (o := ⟨_, _, _, _, _, _⟩) rfl (fun Kx hKx => ?_) AllReadyH.nil
  go_simp
  refine (HF.out _ B5.out).mono ?_
  rintro e w6 ⟨rfl, hw⟩
  rw [hw]
  clear hw w6
  refine hKx.out _ _ X5 (fun hHeld => ?_)
  clear hKx Kx
  try simp only [Act.put, List.setIfInBounds_toArray, List.set_cons_zero, List.set_cons_succ]
  first | refine tq0 9 rfl ?_ | refine tq1 9 rfl ?_
  try go_frame
  first | refine tq0 10 rfl ?_ | refine tq1 10 rfl ?_
  try go_frame
  refine wpAnyH_done (by kernel_rfl) ?_ _
  clear hHeld
  go_wp2_with fail
  go_ret
  refine ⟨?_, B5.out⟩
  have e9 : IntKind.i64.wrap (IntKind.i64.wrap (x.many - kp) - (fs : Int)) = fq := by rw [HW1.out]; exact HW2.out
  rw [← e9]
  rfl
set_option maxHeartbeats 1600000 in
theorem rpages14_any (h : SRow base l v u) (hl : l.length ≤ 512) : Calls Tryz.prog 90 #[v] u fun r u' => ∃ v, r = .returned v ∧ NewL u.heap.size (pagesS l) v u' ∧ Below u.heap.size u u' := by
  obtain ⟨i0, hi0, hz0, hz1, hz2⟩ := info_parts infoInt12
  obtain ⟨a, c, rfl⟩ := h.form
  have R := Lib.hid h
  clear h
  go_enter Tryz.func90, Tryz.ntmps90
  go_wp2_with fail
  go_loopw [3, 4] (fun v i wr => ∃ j : Nat, j ≤ l.length ∧ i = .int .i64 j ∧ Hid (wr.ownsRow u.heap.size 3 1 v (listS l j).length (natV (listS l j))) ∧ Hid ((listS l j).length ≤ j) ∧ Hid (Below u.heap.size u wr)) (fun _ i _ => l.length - (intOf i).toNat)
  case atStart => exact ⟨0, Nat.zero_le _, rfl, Lib.hid (World.ownsRow_nil _ _ _ _), Lib.hid (Nat.le_refl _), Lib.hid (Below.refl _ _)⟩
  case round =>
    obtain ⟨j, hj, rfl, HO, HL, HB⟩ := hrel
    by_cases hlt : j < l.length
    · have hj1 : (j : Int) < (l.length : Int) := by omega
      have hj2 : (0 : Int) ≤ (j : Int) := by omega
      have d1 : decide ((j : Int) < (l.length : Int)) = true := by simp [hlt]
      obtain ⟨_, b, ha, _, x1, _⟩ := (R.out.below HB.out).look hlt
      subst ha
      by_cases hz : isS l j = true
      · have EL : Hid (listS l (j + 1) = listS l j ++ [j]) := Lib.hid (by simp only [listS]; rw [if_pos hz])
        rw [show (slA l j).is = true from hz] at x1
        have hlen : (listS l j).length ≤ 512 := by have := HL.out; omega
        have L1 : Hid ((listS l (j + 1)).length ≤ j + 1) := Lib.hid (by rw [EL.out, List.length_append, List.length_singleton]; have := HL.out; omega)
        have B1 := balloc wr (.cells #[.int .i64 (j : Int)] 3)
        have O1 := Lib.hid (own_below HO.out B1)
        have W1 := Lib.hid (HB.out.trans (B1.mono HB.out.size))
        have SZ := Lib.hid (Nat.le_trans HB.out.size B1.size)
        clear hz B1
        go_wp2_with (at_builtin; refine wpList_append_own _ rfl _ _ 38 rfl u.heap.size 3 i0 (.int .i64 0) 1 8 Tryz.underlying38 hi0 hz0 hz1 hz2 rfl (by decide) _ (listS l j).length _ rfl O1.out ⟨wr.heap.size, 0, none⟩ 1 1 [.int .i64 (j : Int)] rfl rfl (lit_cells12 wr _) (by intro x hx; simp only [List.mem_cons, List.not_mem_nil, or_false] at hx; subst hx; rfl) (by unfold maxLen; omega) (by omega) SZ.out ?_)
        intro v4 w4 ho4 hg4 _
        have O4 : Hid (w4.ownsRow u.heap.size 3 1 v4 (listS l (j + 1)).length (natV (listS l (j + 1)))) := Lib.hid (by
          rw [EL.out, List.length_append, List.length_singleton]
          unfold natV at ho4 ⊢
          rw [List.map_append]
          exact ho4)
        have W4 := Lib.hid (W1.out.trans ((Below.refl _ _).grown hg4 SZ.out (fun g hg => (O1.out.lt g hg).1)))
        clear ho4 hg4 x1
        go_wp2_with fail
        go_roundw
        case rel => exact ⟨j + 1, hlt, by go_num, O4, L1, W4⟩
        case measure => simp [intOf]; omega
      · have EL : Hid (listS l (j + 1) = listS l j) := Lib.hid (by simp only [listS]; rw [if_neg hz, List.append_nil])
        rw [show (slA l j).is = false by simpa [isS] using hz] at x1
        have L1 : Hid ((listS l (j + 1)).length ≤ j + 1) := Lib.hid (by rw [EL.out]; have := HL.out; omega)
        have O4 := HO
        rw [← EL.out] at O4
        clear hz
        go_wp2_with fail
        go_roundw
        case rel => exact ⟨j + 1, hlt, by go_num, O4, L1, HB⟩
        case measure => simp [intOf]; omega
    · have hj9 : j = l.length := by omega
      have d1 : decide ((j : Int) < (l.length : Int)) = false := decide_eq_false (by omega)
      have F : Hid (∀ v9, wr.ownsRow u.heap.size 3 1 v9 (listS l j).length (natV (listS l j)) → NewL u.heap.size (pagesS l) v9 wr) := Lib.hid (fun v9 h9 => by
        unfold pagesS
        rw [← hj9]
        exact NewL.of h9)
      clear hj9
      go_wp2_with fail
      go_ret
      exact ⟨_, rfl, F.out _ HO.out, HB.out⟩
end

end Go.Proofs.YtdpmpmaepjgndaaGreat
