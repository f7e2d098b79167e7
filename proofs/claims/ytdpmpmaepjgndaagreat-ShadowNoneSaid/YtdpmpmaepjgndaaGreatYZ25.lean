/- The program's map of pages in memory; its methods at, all, Use, Leave, Fresh. The program's map of pages: first, take, Take; counter, Count, Free, List. math/bits.Mul of 1 and a small number. (Moved out of FmRep.) -/
import Derived.Deep.AppendSrc
import Derived.Deep.DeepCutAuto
import Derived.WalkKit
import Derived.WalkSpells
import Derived.WalkLawsBesides
import Derived.Lib.Hide
import Derived.Test.YtdpmpmaepjgndaaGreatYZ24
import Derived.Test.YtdpmpmaepjgndaaGreatYZ3
import Derived.Test.YtdpmpmaepjgndaaGreatYZ2
import Derived.Test.YtdpmpmaepjgndaaGreatYZ0
import Derived.Test.YtdpmpmaepjgndaaGreatRows
namespace Go.Proofs.YtdpmpmaepjgndaaGreat
open Go.RowKit Go.Deep
set_option linter.unusedVariables false
set_option linter.unusedSimpArgs false
set_option maxRecDepth 100000

structure PFm (base P n : Nat) (K : Nat → Nat) (S : Nat → Bool) (u : World) : Prop where
  box : ∃ v, u.heap[P]? = some (.cells #[v] 150 (0, 0)) ∧ KRow base n K v u ∧ ∀ k, S k = true ↔ (k = P ∨ v.ownBlock = some k)
  lo : base ≤ P
  four : ∀ i, i < n → K i < 4
section
variable {base P n : Nat} {K : Nat → Nat} {S T : Nat → Bool} {u u2 : World}
theorem PFm.below (h : PFm base P n K S u) (k : Below u.heap.size u u2) : PFm base P n K S u2 := by
  obtain ⟨v, e, hr, hs⟩ := h.box
  exact ⟨⟨v, (k.block _ (lt_of_block e)).trans e, hr.below k, hs⟩, h.lo, h.four⟩
theorem PFm.kept (h : PFm base P n K S u) (hST : ∀ k, S k = true → T k = false) (k : KpS T u u2) : PFm base P n K S u2 := by
  obtain ⟨v, e, hr, hs⟩ := h.box
  exact ⟨⟨v, (k.blk (lt_of_block e) (hST P ((hs P).2 (.inl rfl)))).trans e, hr.kept T (fun b hb => hST b ((hs b).2 (.inr hb))) k, hs⟩, h.lo, h.four⟩
theorem PFm.s_lo (h : PFm base P n K S u) : ∀ k, S k = true → base ≤ k ∧ k < u.heap.size := by
  intro k hk
  obtain ⟨v, e, hr, hs⟩ := h.box
  rcases (hs k).1 hk with rfl | hv
  · exact ⟨h.lo, lt_of_block e⟩
  · rcases hr with ⟨_, a, c, rfl, _, hp⟩ | ⟨_, b, c, rfl, hb, hr⟩
    · cases a with
      | none => cases hv
      | some p =>
        simp only [Value.ownBlock, Option.some.injEq] at hv
        subst hv
        exact hp p rfl
    · simp only [Value.ownBlock, Option.some.injEq] at hv
      subst hv
      exact ⟨hb, hr.lt⟩
theorem PFm.len (h : PFm base P n K S u) : ∃ a c, u.cell? ⟨P, 0, none⟩ = some (.slice a n c) ∧ KRow base n K (.slice a n c) u := by
  obtain ⟨v, e, hr, hs⟩ := h.box
  rcases hr with ⟨rfl, a, c, rfl, hc, hp⟩ | ⟨h0, b, c, rfl, h1, hr⟩
  · exact ⟨a, c, by rw [Lib.cell_of_heap e]; rfl, .inl ⟨rfl, a, c, rfl, hc, hp⟩⟩
  · exact ⟨_, c, by rw [Lib.cell_of_heap e]; rfl, .inr ⟨h0, b, c, rfl, h1, hr⟩⟩
/-- the row: where it lies, what a store into it leaves -/
theorem PFm.look (h : PFm base P n K S u) {i : Nat} (hi : i < n) : ∃ b c, u.cell? ⟨P, 0, none⟩ = some (.slice (some ⟨b, 0, none⟩) n c) ∧ u.cell? ⟨b, i, none⟩ = some (.int .i64 (K i : Int)) ∧ u.frozen? ⟨b, i, none⟩ = false ∧ ∀ k, k < 4 → PFm base P n (fupd K i k) S (u.setCell ⟨b, i, none⟩ (.int .i64 (k : Int))) ∧ KpS S u (u.setCell ⟨b, i, none⟩ (.int .i64 (k : Int))) := by
  obtain ⟨v, e, hr, hs⟩ := h.box
  rcases hr with ⟨rfl, _⟩ | ⟨h0, b, c, rfl, h1, hr⟩
  · omega
  refine ⟨b, c, by rw [Lib.cell_of_heap e]; rfl, hr.cell1 hi, hr.frozen i, fun k hk => ⟨⟨⟨_, ?_, .inr ⟨h0, b, c, rfl, h1, ?_⟩, hs⟩, h.lo, fun j hj => ?_⟩, KpS.set ((hs b).2 (.inr rfl)) i _ u⟩⟩
  · rw [set_else12]
    · exact e
    · rintro rfl
      obtain ⟨cs, e2⟩ := hr.b
      rw [e2] at e
      simp at e
  · exact hr.put1 hi _ (by unfold gK; rw [fupd_at]) (fun q hq hne => by unfold gK; rw [fupd_else _ _ _ _ hne])
  · unfold fupd
    split
    · exact hk
    · exact h.four j hj
theorem PFm.post {K2 : Nat → Nat} (h : PFm base P n K2 S u2) (k : KpS S u u2) : Post12 PFm base P n K2 S u u2 := ⟨S, fun _ h => .inl h, h, k⟩

set_option maxHeartbeats 800000 in
theorem pat12_any (h : PFm base P n K S u) (hn : n ≤ 1024) (i : Int) : Calls Tryz.prog 117 #[.pointer (some ⟨P, 0, none⟩), .int .i64 i] u fun r u' => r = .returned (.int .i64 (inE n i)) ∧ u' = u := by
  obtain ⟨a, c, x0, hr⟩ := h.len
  clear h hr
  go_enter Tryz.func117, Tryz.ntmps117
  by_cases h1 : i < 0
  · have d1 : decide (i < 0) = true := by simp [h1]
    have E : Hid (inE n i = 3) := Lib.hid (if_neg fun h => by have := h.1; omega)
    go_wp2_with fail
    go_ret
    exact ⟨by rw [E.out]; rfl, rfl⟩
  · have d1 : decide (i < 0) = false := by simp; omega
    by_cases h2 : (n : Int) ≤ i
    · have d2 : decide ((n : Int) ≤ i) = true := by simp [h2]
      have E : Hid (inE n i = 3) := Lib.hid (if_neg fun h => by have := h.2; omega)
      go_wp2_with fail
      go_ret
      exact ⟨by rw [E.out]; rfl, rfl⟩
    · have d2 : decide ((n : Int) ≤ i) = false := by simp; omega
      have E : Hid (inE n i = 0) := Lib.hid (if_pos ⟨by omega, by omega⟩)
      go_wp2_with fail
      go_ret
      exact ⟨by rw [E.out]; rfl, rfl⟩
theorem pall12_any (h : PFm base P n K S u) : Calls Tryz.prog 123 #[.pointer (some ⟨P, 0, none⟩)] u fun r u' => (∃ a c, r = .returned (.slice a n c) ∧ KRow base n K (.slice a n c) u') ∧ u' = u := by
  obtain ⟨a, c, x0, hr⟩ := h.len
  clear h
  have HR := Lib.hid hr
  clear hr
  go_enter Tryz.func123, Tryz.ntmps123
  go_wp2_with fail
  go_ret
  exact ⟨⟨a, c, rfl, HR.out⟩, rfl⟩
set_option maxHeartbeats 1600000 in
theorem puse12_any (h : PFm base P n K S u) (hn : n ≤ 1024) (i : Int) : Calls Tryz.prog 139 #[.pointer (some ⟨P, 0, none⟩), .int .i64 i] u fun r u' => r = .returned (.int .i64 (useE n K i)) ∧ Post12 PFm base P n (useF n K i) S u u' := by
  have R := Lib.hid h
  have H := Lib.hid (pat12_any h hn i)
  unfold inE at H
  clear h
  go_enter Tryz.func139, Tryz.ntmps139
  by_cases hi : inF n i
  · rw [if_pos hi] at H
    obtain ⟨k, rfl⟩ : ∃ k : Nat, i = (k : Int) := ⟨i.toNat, by have := hi.1; omega⟩
    have hk : k < n := by have := hi.2; omega
    have hk1 : (k : Int) < (n : Int) := by omega
    have hk2 : (0 : Int) ≤ (k : Int) := by omega
    obtain ⟨b, c, x0, x1, xf, hput⟩ := R.out.look hk
    have HP := Lib.hid (hput 1 (by omega))
    change Hid (PFm _ _ _ _ _ (u.setCell ⟨b, k, none⟩ (.int .i64 1)) ∧ KpS S u (u.setCell ⟨b, k, none⟩ (.int .i64 1))) at HP
    clear hput
    by_cases hz : K k = 0
    · have E1 : Hid (useE n K (k : Int) = 0) := Lib.hid (by unfold useE; rw [if_pos hi, Int.toNat_natCast, if_pos hz])
      have E2 : Hid (useF n K (k : Int) = fupd K k 1) := Lib.hid (by unfold useF; rw [if_pos hi, Int.toNat_natCast, if_pos hz])
      rw [hz] at x1
      clear hi hk hz
      go_wp2_with fail
      refine (H.out).mono ?_
      rintro e w1 ⟨rfl, hw⟩
      rw [hw]
      clear hw w1
      go_wp2_with fail
      go_ret
      exact ⟨by rw [E1.out]; rfl, by rw [E2.out]; exact HP.out.1.post HP.out.2⟩
    · have E1 : Hid (useE n K (k : Int) = 10) := Lib.hid (by unfold useE; rw [if_pos hi, Int.toNat_natCast, if_neg hz])
      have E2 : Hid (useF n K (k : Int) = K) := Lib.hid (by unfold useF; rw [if_pos hi, Int.toNat_natCast, if_neg hz])
      have dz : (((K k : Nat) : Int) != 0) = true := by simp; omega
      clear hi hk
      generalize ((K k : Nat) : Int) = q at *
      go_wp2_with fail
      refine (H.out).mono ?_
      rintro e w1 ⟨rfl, hw⟩
      rw [hw]
      clear hw w1
      go_wp2_with fail
      go_ret
      exact ⟨by rw [E1.out]; rfl, by rw [E2.out]; exact R.out.post (KpS.refl _ _)⟩
  · have E1 : Hid (useE n K i = 3) := Lib.hid (by unfold useE; rw [if_neg hi])
    have E2 : Hid (useF n K i = K) := Lib.hid (by unfold useF; rw [if_neg hi])
    rw [if_neg hi] at H
    clear hi
    go_wp2_with fail
    refine (H.out).mono ?_
    rintro e w1 ⟨rfl, hw⟩
    rw [hw]
    clear hw w1
    go_wp2_with fail
    go_ret
    exact ⟨by rw [E1.out]; rfl, by rw [E2.out]; exact R.out.post (KpS.refl _ _)⟩
set_option maxHeartbeats 1600000 in
theorem pleave12_any (h : PFm base P n K S u) (hn : n ≤ 1024) (i : Int) : Calls Tryz.prog 75 #[.pointer (some ⟨P, 0, none⟩), .int .i64 i] u fun r u' => r = .returned (.int .i64 (leaveE n K i)) ∧ Post12 PFm base P n (leaveF n K i) S u u' := by
  have R := Lib.hid h
  have H := Lib.hid (pat12_any h hn i)
  unfold inE at H
  clear h
  go_enter Tryz.func75, Tryz.ntmps75
  by_cases hi : inF n i
  · rw [if_pos hi] at H
    obtain ⟨k, rfl⟩ : ∃ k : Nat, i = (k : Int) := ⟨i.toNat, by have := hi.1; omega⟩
    have hk : k < n := by have := hi.2; omega
    have hk1 : (k : Int) < (n : Int) := by omega
    have hk2 : (0 : Int) ≤ (k : Int) := by omega
    obtain ⟨b, c, x0, x1, xf, hput⟩ := R.out.look hk
    have HP3 := Lib.hid (hput 3 (by omega))
    have HP0 := Lib.hid (hput 0 (by omega))
    change Hid (PFm _ _ _ _ _ (u.setCell ⟨b, k, none⟩ (.int .i64 3)) ∧ KpS S u (u.setCell ⟨b, k, none⟩ (.int .i64 3))) at HP3
    change Hid (PFm _ _ _ _ _ (u.setCell ⟨b, k, none⟩ (.int .i64 0)) ∧ KpS S u (u.setCell ⟨b, k, none⟩ (.int .i64 0))) at HP0
    clear hput
    by_cases hz : K k = 1
    · have E1 : Hid (leaveE n K (k : Int) = 0) := Lib.hid (by unfold leaveE; rw [if_pos hi, Int.toNat_natCast, if_pos (.inl hz)])
      have E2 : Hid (leaveF n K (k : Int) = fupd K k 3) := Lib.hid (by unfold leaveF; rw [if_pos hi, Int.toNat_natCast, if_pos hz])
      rw [hz] at x1
      clear hi hk hz
      go_wp2_with fail
      refine (H.out).mono ?_
      rintro e w1 ⟨rfl, hw⟩
      rw [hw]
      clear hw w1
      go_wp2_with fail
      go_ret
      exact ⟨by rw [E1.out]; rfl, by rw [E2.out]; exact HP3.out.1.post HP3.out.2⟩
    · by_cases hz2 : K k = 2
      · have E1 : Hid (leaveE n K (k : Int) = 0) := Lib.hid (by unfold leaveE; rw [if_pos hi, Int.toNat_natCast, if_pos (.inr hz2)])
        have E2 : Hid (leaveF n K (k : Int) = fupd K k 0) := Lib.hid (by unfold leaveF; rw [if_pos hi, Int.toNat_natCast, if_neg hz, if_pos hz2])
        rw [hz2] at x1
        clear hi hk hz hz2
        go_wp2_with fail
        refine (H.out).mono ?_
        rintro e w1 ⟨rfl, hw⟩
        rw [hw]
        clear hw w1
        go_wp2_with fail
        go_ret
        exact ⟨by rw [E1.out]; rfl, by rw [E2.out]; exact HP0.out.1.post HP0.out.2⟩
      · have E1 : Hid (leaveE n K (k : Int) = 9) := Lib.hid (by unfold leaveE; rw [if_pos hi, Int.toNat_natCast, if_neg (by rintro (c | c); exact hz c; exact hz2 c)])
        have E2 : Hid (leaveF n K (k : Int) = K) := Lib.hid (by unfold leaveF; rw [if_pos hi, Int.toNat_natCast, if_neg hz, if_neg hz2])
        have dz : (((K k : Nat) : Int) == 1) = false := by simp; omega
        have dz2 : (((K k : Nat) : Int) == 2) = false := by simp; omega
        clear hi hk
        generalize ((K k : Nat) : Int) = q at *
        go_wp2_with fail
        refine (H.out).mono ?_
        rintro e w1 ⟨rfl, hw⟩
        rw [hw]
        clear hw w1
        go_wp2_with fail
        go_ret
        exact ⟨by rw [E1.out]; rfl, by rw [E2.out]; exact R.out.post (KpS.refl _ _)⟩
  · have E1 : Hid (leaveE n K i = 3) := Lib.hid (by unfold leaveE; rw [if_neg hi])
    have E2 : Hid (leaveF n K i = K) := Lib.hid (by unfold leaveF; rw [if_neg hi])
    rw [if_neg hi] at H
    clear hi
    go_wp2_with fail
    refine (H.out).mono ?_
    rintro e w1 ⟨rfl, hw⟩
    rw [hw]
    clear hw w1
    go_wp2_with fail
    go_ret
    exact ⟨by rw [E1.out]; rfl, by rw [E2.out]; exact R.out.post (KpS.refl _ _)⟩
set_option maxHeartbeats 1600000 in
theorem pfresh12_any (h : PFm base P n K S u) (hn : n ≤ 1024) (i : Int) : Calls Tryz.prog 108 #[.pointer (some ⟨P, 0, none⟩), .int .i64 i] u fun r u' => r = .returned (.bool (decide (inF n i ∧ K i.toNat = 2))) ∧ Below u.heap.size u u' := by
  have R := Lib.hid h
  have H := Lib.hid (pat12_any h hn i)
  unfold inE at H
  clear h
  go_enter Tryz.func108, Tryz.ntmps108
  by_cases hi : inF n i
  · rw [if_pos hi] at H
    obtain ⟨k, rfl⟩ : ∃ k : Nat, i = (k : Int) := ⟨i.toNat, by have := hi.1; omega⟩
    have hk : k < n := by have := hi.2; omega
    have hk1 : (k : Int) < (n : Int) := by omega
    have hk2 : (0 : Int) ≤ (k : Int) := by omega
    obtain ⟨b, c, x0, x1, xf, hput⟩ := R.out.look hk
    clear hput
    have E : Hid (decide (inF n (k : Int) ∧ K (k : Int).toNat = 2) = decide (K k = 2)) := Lib.hid (by rw [Int.toNat_natCast]; simp [hi])
    by_cases hz : K k = 2
    · have E2 : Hid (decide (K k = 2) = true) := Lib.hid (by simp [hz])
      rw [hz] at x1
      clear hi hk hz
      go_wp2_with fail
      refine (H.out).mono ?_
      rintro e w1 ⟨rfl, hw⟩
      rw [hw]
      clear hw w1
      go_wp2_with fail
      go_ret
      exact ⟨by rw [E.out, E2.out]; rfl, Below.refl _ _⟩
    · have E2 : Hid (decide (K k = 2) = false) := Lib.hid (by simp [hz])
      have dz : (((K k : Nat) : Int) == 2) = false := by simp; omega
      clear hi hk hz
      generalize ((K k : Nat) : Int) = q at *
      go_wp2_with fail
      refine (H.out).mono ?_
      rintro e w1 ⟨rfl, hw⟩
      rw [hw]
      clear hw w1
      go_wp2_with fail
      go_ret
      exact ⟨by rw [E.out, E2.out]; rfl, Below.refl _ _⟩
  · have E : Hid (decide (inF n i ∧ K i.toNat = 2) = false) := Lib.hid (by simp [hi])
    rw [if_neg hi] at H
    clear hi
    go_wp2_with fail
    refine (H.out).mono ?_
    rintro e w1 ⟨rfl, hw⟩
    rw [hw]
    clear hw w1
    go_wp2_with fail
    go_ret
    exact ⟨by rw [E.out]; rfl, Below.refl _ _⟩
end

end Go.Proofs.YtdpmpmaepjgndaaGreat
namespace Go.Proofs.YtdpmpmaepjgndaaGreat
open Go.RowKit Go.Deep
set_option linter.unusedVariables false
set_option linter.unusedSimpArgs false
set_option maxRecDepth 100000

section
variable {base P n : Nat} {K : Nat → Nat} {S T : Nat → Bool} {u u2 : World}
def firstI (n : Nat) (K : Nat → Nat) : Int := if firstN K n < n then (firstN K n : Int) else -1
set_option maxHeartbeats 1600000 in
theorem pindex12_any {a : Option Addr} {c : Nat} (h : KRow base n K (.slice a n c) u) (hn : n ≤ 1024) : Calls Tryz.prog 67 #[.slice a n c, .int .i64 0] u fun r u' => r = .returned (.int .i64 (firstI n K)) ∧ u' = u := by
  have R := Lib.hid h
  clear h
  go_enter Tryz.func67, Tryz.ntmps67
  go_wp2_with fail
  go_loopw [8] (fun i wr => ∃ j : Nat, j ≤ n ∧ i = .int .i64 j ∧ wr = u ∧ Hid (∀ q, q < j → K q ≠ 0)) (fun i _ => n - (intOf i).toNat)
  case atStart => exact ⟨0, Nat.zero_le _, rfl, rfl, Lib.hid (fun q hq => absurd hq (Nat.not_lt_zero q))⟩
  case round =>
    obtain ⟨j, hj, rfl, hw, HALL⟩ := hrel
    rw [hw]
    clear hw wr
    by_cases hlt : j < n
    · have hj1 : (j : Int) < (n : Int) := by omega
      have hj2 : (0 : Int) ≤ (j : Int) := by omega
      have d1 : decide ((j : Int) < (n : Int)) = true := by simp [hlt]
      obtain ⟨b, ha, x1⟩ := R.out.look hlt
      subst ha
      by_cases hz : K j = 0
      · have E1 : Hid (firstI n K = (j : Int)) := Lib.hid (by
          have := firstN_of hlt hz HALL.out
          unfold firstI
          rw [this, if_pos hlt])
        rw [hz] at x1
        clear hz
        go_wp2_with fail
        go_ret
        exact ⟨by rw [E1.out]; rfl, rfl⟩
      · have dz : ((0 : Int) == ((K j : Nat) : Int)) = false := by simp; omega
        have HZ := Lib.hid hz
        clear hz
        generalize ((K j : Nat) : Int) = q at *
        go_wp2_with fail
        go_roundw
        case rel => exact ⟨j + 1, hlt, by go_num, trivial, Lib.hid (fun q hq => by
          rcases Nat.lt_or_ge q j with c | c
          · exact HALL.out q c
          · obtain rfl : q = j := by omega
            exact HZ.out)⟩
        case measure => simp [intOf]; omega
    · obtain rfl : j = n := by omega
      have d1 : decide ((j : Int) < (j : Int)) = false := by simp
      have E1 : Hid (firstI j K = -1) := Lib.hid (by
        unfold firstI
        rw [firstN_none HALL.out, if_neg (by omega)])
      go_wp2_with fail
      go_ret
      exact ⟨by rw [E1.out]; rfl, rfl⟩
theorem pfirst12_any (h : PFm base P n K S u) (hn : n ≤ 1024) : Calls Tryz.prog 148 #[.pointer (some ⟨P, 0, none⟩)] u fun r u' => r = .returned (.int .i64 (firstI n K)) ∧ u' = u := by
  obtain ⟨a, c, x0, hr⟩ := h.len
  have H := Lib.hid (pindex12_any hr hn)
  clear h hr
  go_enter Tryz.func148, Tryz.ntmps148
  go_wp2_with fail
  refine (H.out).mono ?_
  rintro e w1 ⟨rfl, hw⟩
  rw [hw]
  clear hw w1
  go_wp2_with fail
  go_ret
  exact ⟨rfl, rfl⟩
set_option maxHeartbeats 1600000 in
theorem ptakef_any (h : PFm base P n K S u) (hn : n ≤ 1024) : Calls Tryz.prog 147 #[.pointer (some ⟨P, 0, none⟩), .func (.func 148) #[.pointer (some ⟨P, 0, none⟩)] #[]] u fun r u' => r = .returned (.tuple #[.int .i64 (takeI n K), .int .i64 (takeE n K)]) ∧ Post12 PFm base P n (takeF n K) S u u' := by
  have R := Lib.hid h
  have H := Lib.hid (pfirst12_any h hn)
  unfold firstI at H
  clear h
  by_cases hf : firstN K n < n
  · rw [if_pos hf] at H
    have E1 : Hid (takeE n K = 0) := Lib.hid (by unfold takeE; rw [if_pos hf])
    have E2 : Hid (takeI n K = (firstN K n : Int)) := Lib.hid (by unfold takeI; rw [if_pos hf])
    have E3 : Hid (takeF n K = fupd K (firstN K n) 2) := Lib.hid (by unfold takeF; rw [if_pos hf])
    obtain ⟨b, c, x0, x1, xf, hput⟩ := R.out.look hf
    have HP := Lib.hid (hput 2 (by omega))
    change Hid (PFm _ _ _ _ _ (u.setCell ⟨b, firstN K n, none⟩ (.int .i64 2)) ∧ KpS S u (u.setCell ⟨b, firstN K n, none⟩ (.int .i64 2))) at HP
    clear hput
    generalize hk : firstN K n = k at *
    have hk1 : (k : Int) < (n : Int) := by omega
    have hk2 : (0 : Int) ≤ (k : Int) := by omega
    have d1 : decide ((k : Int) < 0) = false := decide_eq_false (by omega)
    clear hk
    go_enter Tryz.func147, Tryz.ntmps147
    go_wp2_with fail
    refine (H.out).mono ?_
    rintro e w1 ⟨rfl, hw⟩
    rw [hw]
    clear hw w1
    go_wp2_with fail
    go_ret2
    exact ⟨by rw [E1.out, E2.out]; rfl, by rw [E3.out]; exact HP.out.1.post HP.out.2⟩
  · rw [if_neg hf] at H
    have E1 : Hid (takeE n K = 11) := Lib.hid (by unfold takeE; rw [if_neg hf])
    have E2 : Hid (takeI n K = 0) := Lib.hid (by unfold takeI; rw [if_neg hf])
    have E3 : Hid (takeF n K = K) := Lib.hid (by unfold takeF; rw [if_neg hf])
    go_enter Tryz.func147, Tryz.ntmps147
    go_wp2_with fail
    refine (H.out).mono ?_
    rintro e w1 ⟨rfl, hw⟩
    rw [hw]
    clear hw w1
    go_wp2_with fail
    go_ret2
    exact ⟨by rw [E1.out, E2.out]; rfl, by rw [E3.out]; exact R.out.post (KpS.refl _ _)⟩
theorem ptake12_any (h : PFm base P n K S u) (hn : n ≤ 1024) : Calls Tryz.prog 110 #[.pointer (some ⟨P, 0, none⟩)] u fun r u' => r = .returned (.tuple #[.int .i64 (takeI n K), .int .i64 (takeE n K)]) ∧ Post12 PFm base P n (takeF n K) S u u' := by
  have hmf : ∀ (fn : Fn) (first cap : Array Value) (w : World), (Instr.makeFunc fn first cap).run Tryz.prog w = .ok (.func fn first cap) w := fun _ _ _ _ => rfl
  have H := Lib.hid (ptakef_any h hn)
  clear h
  generalize takeI n K = ti at *
  generalize takeE n K = te at *
  go_enter Tryz.func110, Tryz.ntmps110
  go_wp2_with fail
  refine (H.out).mono ?_
  rintro e w1 ⟨rfl, hp⟩
  have HP := Lib.hid hp
  clear hp
  go_wp2_with fail
  go_ret2
  exact ⟨rfl, HP.out⟩
/-! ### counting -/
def fvK (B : Nat) : Value := .func (.func 122) #[] #[.pointer (some ⟨B, 0, none⟩)]
theorem pcounter_any (p : Option Addr) (u : World) : Calls Tryz.prog 92 #[.pointer p] u fun r u' => r = .returned (fvK u.heap.size) ∧ u'.heap[u.heap.size]? = some (.cells #[.pointer p] 79 (0, 0)) ∧ Below u.heap.size u u' := by
  have hmf : ∀ (fn : Fn) (first cap : Array Value) (w : World), (Instr.makeFunc fn first cap).run Tryz.prog w = .ok (.func fn first cap) w := fun _ _ _ _ => rfl
  have X1 := Lib.hid (heap_alloc_new u (.cells #[.pointer p] 79))
  have B1 := Lib.hid (balloc u (.cells #[.pointer p] 79))
  go_enter Tryz.func92, Tryz.ntmps92
  go_wp2_with fail
  go_ret
  exact ⟨rfl, X1.out, B1.out⟩
set_option maxHeartbeats 1600000 in
theorem pkind_any {B : Nat} (h : PFm base P n K S u) (hn : n ≤ 1024) (hb : u.heap[B]? = some (.cells #[.pointer (some ⟨P, 0, none⟩)] 79 (0, 0))) (k : Nat) : Calls Tryz.prog 122 #[.int .i64 (k : Int), .pointer (some ⟨B, 0, none⟩)] u fun r u' => r = .returned (.int .i64 (cntF K k n : Int)) ∧ u' = u := by
  have x0 : u.cell? ⟨B, 0, none⟩ = some (.pointer (some ⟨P, 0, none⟩)) := by rw [Lib.cell_of_heap hb]; rfl
  have H := Lib.hid (pall12_any h)
  have HN := Lib.hid hn
  clear h hb
  go_enter Tryz.func122, Tryz.ntmps122
  go_wp2_with fail
  refine (H.out).mono ?_
  rintro e w1 ⟨⟨a, c, rfl, hr⟩, hw⟩
  rw [hw] at hr ⊢
  clear hw w1
  have R := Lib.hid hr
  clear hr
  go_wp2_with fail
  go_loopw [4, 10] (fun v i wr => ∃ j : Nat, j ≤ n ∧ i = .int .i64 j ∧ v = .int .i64 (cntF K k j : Int) ∧ wr = u) (fun _ i _ => n - (intOf i).toNat)
  case atStart => exact ⟨0, Nat.zero_le _, rfl, rfl, rfl⟩
  case round =>
    obtain ⟨j, hj, rfl, rfl, hw⟩ := hrel
    rw [hw]
    clear hw wr
    by_cases hlt : j < n
    · have hj1 : (j : Int) < (n : Int) := by omega
      have hj2 : (0 : Int) ≤ (j : Int) := by omega
      have d1 : decide ((j : Int) < (n : Int)) = true := by simp [hlt]
      obtain ⟨b, ha, x1⟩ := R.out.look hlt
      subst ha
      have hle := cntF_le K k j
      by_cases hz : K j = k
      · have E : Hid (cntF K k (j + 1) = cntF K k j + 1) := Lib.hid (by rw [cntF_succ, if_pos hz])
        have dz : (((K j : Nat) : Int) == (k : Int)) = true := by simp [hz]
        clear hz
        generalize ((K j : Nat) : Int) = q at *
        generalize cntF K k j = m at *
        go_wp2_with fail
        go_roundw
        case rel => exact ⟨j + 1, hlt, by go_num, by rw [E.out]; go_num, trivial⟩
        case measure => simp [intOf]; omega
      · have E : Hid (cntF K k (j + 1) = cntF K k j) := Lib.hid (by rw [cntF_succ, if_neg hz, Nat.add_zero])
        have dz : (((K j : Nat) : Int) == (k : Int)) = false := by simp; omega
        clear hz
        generalize ((K j : Nat) : Int) = q at *
        generalize cntF K k j = m at *
        go_wp2_with fail
        go_roundw
        case rel => exact ⟨j + 1, hlt, by go_num, by rw [E.out], trivial⟩
        case measure => simp [intOf]; omega
    · obtain rfl : j = n := by omega
      have d1 : decide ((j : Int) < (j : Int)) = false := by simp
      go_wp2_with fail
      go_ret
      exact ⟨rfl, rfl⟩
/-- a map's pages counted, whatever counts them -/
theorem pcount_core (p : Option Addr) (f : Nat → Nat) (u : World) (H : ∀ B u2, u2.heap[B]? = some (.cells #[.pointer p] 79 (0, 0)) → Below u.heap.size u u2 → ∀ k : Nat, Calls Tryz.prog 122 #[.int .i64 (k : Int), .pointer (some ⟨B, 0, none⟩)] u2 fun r u' => r = .returned (.int .i64 (f k : Int)) ∧ u' = u2) :
    Calls Tryz.prog 47 #[.pointer p] u fun r u' => r = .returned (.tuple #[.int .i64 (f 0 : Int), .int .i64 (f 1 : Int), .int .i64 (f 2 : Int), .int .i64 (f 3 : Int)]) ∧ Below u.heap.size u u' := by
  have HC := Lib.hid (pcounter_any p u)
  have HH := Lib.hid H
  clear H
  go_enter Tryz.func47, Tryz.ntmps47
  go_wp2_with fail
  refine (HC.out).mono ?_
  rintro e w1 ⟨rfl, hb, hB⟩
  have B1 := Lib.hid hB
  have H0 := Lib.hid (HH.out _ _ hb hB 0)
  have H1 := Lib.hid (HH.out _ _ hb hB 1)
  have H2 := Lib.hid (HH.out _ _ hb hB 2)
  have H3 := Lib.hid (HH.out _ _ hb hB 3)
  change Hid (Calls _ _ #[.int .i64 0, _] _ _) at H0
  change Hid (Calls _ _ #[.int .i64 1, _] _ _) at H1
  change Hid (Calls _ _ #[.int .i64 2, _] _ _) at H2
  change Hid (Calls _ _ #[.int .i64 3, _] _ _) at H3
  clear hb hB HH
  unfold fvK
  go_wp2_with fail
  refine (H0.out).mono ?_
  rintro e w2 ⟨rfl, hw⟩
  rw [hw]
  clear hw w2
  go_wp2_with fail
  refine (H1.out).mono ?_
  rintro e w2 ⟨rfl, hw⟩
  rw [hw]
  clear hw w2
  go_wp2_with fail
  refine (H2.out).mono ?_
  rintro e w2 ⟨rfl, hw⟩
  rw [hw]
  clear hw w2
  go_wp2_with fail
  refine (H3.out).mono ?_
  rintro e w2 ⟨rfl, hw⟩
  rw [hw]
  clear hw w2
  go_wp2_with fail
  exact bodyPost_ret (v := .tuple #[.int .i64 (f 0 : Int), .int .i64 (f 1 : Int), .int .i64 (f 2 : Int), .int .i64 (f 3 : Int)]) (by simp [results, Tryz.results47, go_sem]) rfl ⟨rfl, B1.out⟩
theorem pfree_core (p : Option Addr) (f : Nat → Nat) (u : World) (H : ∀ B u2, u2.heap[B]? = some (.cells #[.pointer p] 79 (0, 0)) → Below u.heap.size u u2 → ∀ k : Nat, Calls Tryz.prog 122 #[.int .i64 (k : Int), .pointer (some ⟨B, 0, none⟩)] u2 fun r u' => r = .returned (.int .i64 (f k : Int)) ∧ u' = u2) :
    Calls Tryz.prog 79 #[.pointer p] u fun r u' => r = .returned (.int .i64 (f 0 : Int)) ∧ Below u.heap.size u u' := by
  have HC := Lib.hid (pcounter_any p u)
  have HH := Lib.hid H
  clear H
  go_enter Tryz.func79, Tryz.ntmps79
  go_wp2_with fail
  refine (HC.out).mono ?_
  rintro e w1 ⟨rfl, hb, hB⟩
  have B1 := Lib.hid hB
  have H0 := Lib.hid (HH.out _ _ hb hB 0)
  change Hid (Calls _ _ #[.int .i64 0, _] _ _) at H0
  clear hb hB HH
  unfold fvK
  go_wp2_with fail
  refine (H0.out).mono ?_
  rintro e w2 ⟨rfl, hw⟩
  rw [hw]
  clear hw w2
  go_wp2_with fail
  go_ret
  exact ⟨rfl, B1.out⟩
theorem pcount12_any (h : PFm base P n K S u) (hn : n ≤ 1024) : Calls Tryz.prog 47 #[.pointer (some ⟨P, 0, none⟩)] u fun r u' => r = .returned (.tuple #[.int .i64 (cntF K 0 n : Int), .int .i64 (cntF K 1 n : Int), .int .i64 (cntF K 2 n : Int), .int .i64 (cntF K 3 n : Int)]) ∧ Below u.heap.size u u' :=
  pcount_core _ (fun k => cntF K k n) u fun B u2 hb hB k => pkind_any (h.below hB) hn hb k
theorem pfree12_any (h : PFm base P n K S u) (hn : n ≤ 1024) : Calls Tryz.prog 79 #[.pointer (some ⟨P, 0, none⟩)] u fun r u' => r = .returned (.int .i64 (cntF K 0 n : Int)) ∧ Below u.heap.size u u' :=
  pfree_core _ (fun k => cntF K k n) u fun B u2 hb hB k => pkind_any (h.below hB) hn hb k
/-! ### List -/
end

end Go.Proofs.YtdpmpmaepjgndaaGreat
namespace Go.Proofs.YtdpmpmaepjgndaaGreat
open Go.RowKit
set_option linter.unusedVariables false
set_option linter.unusedSimpArgs false
set_option maxRecDepth 100000

theorem and32 (n : Nat) (hn : n ≤ 1024) : bits .and .u64 (n : Int) 4294967295 = (n : Int) := by
  have h := bits_and_u64 n 4294967295 (by omega) (by omega)
  have e : n &&& 4294967295 = n := by
    have := Nat.and_two_pow_sub_one_eq_mod n 32
    rw [show (2 ^ 32 - 1 : Nat) = 4294967295 from rfl] at this
    rw [this]
    omega
  rw [e] at h
  exact h
set_option maxHeartbeats 800000 in
theorem mul1_any (n : Nat) (hn : n ≤ 1024) (w : World) : Calls Tryz.prog 183 #[.int .u64 1, .int .u64 (n : Int)] w fun e w' => e = .returned (.tuple #[.int .u64 0, .int .u64 (n : Int)]) ∧ w' = w := by
  have a1 := and32 n hn
  have s1 : (n : Int) / 4294967296 = 0 := by omega
  have w1 : IntKind.u64.wrap (n : Int) = n := by rw [IntKind.wrap_u64]; omega
  have b1 : bits .and .u64 1 4294967295 = 1 := and32 1 (by omega)
  clear hn
  go_enter Tryz.func183, Tryz.ntmps183
  go_wp2_with fail
  go_ret2
  exact ⟨rfl, rfl⟩
set_option maxHeartbeats 800000 in
theorem bmul1_any (n : Nat) (hn : n ≤ 1024) (w : World) : Calls Tryz.prog 168 #[.int .u64 1, .int .u64 (n : Int)] w fun e w' => e = .returned (.tuple #[.int .u64 0, .int .u64 (n : Int)]) ∧ w' = w := by
  have H := Lib.hid (mul1_any n hn w)
  clear hn
  go_enter Tryz.func168, Tryz.ntmps168
  go_wp2_with fail
  refine (H.out).mono ?_
  rintro e w1 ⟨rfl, hw⟩
  rw [hw]
  go_wp2_with fail
  go_ret2
  exact ⟨rfl, rfl⟩

end Go.Proofs.YtdpmpmaepjgndaaGreat
