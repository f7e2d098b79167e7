/- The program's map of pages in memory; its methods at, all, Use, Leave, Fresh. The program's map of pages: first, take, Take; counter, Count, Free, List. math/bits.Mul of 1 and a small number. (Moved out of FmRep.) The contract of slices.Repeat at one number 0: a row of zeros in new memory. -/
import Derived.Deep.AppendSrc
import Derived.Deep.DeepCutAuto
import Derived.WalkKit
import Derived.WalkSpells
import Derived.WalkLawsBesides
import Derived.Lib.Hide
import Derived.Laws.CopyOwn
import Derived.Deep.RegionLaw
import Derived.Test.YtmflkkkbahghgaaGreatYZ7
import Derived.Test.YtmflkkkbahghgaaGreatYZ6
import Derived.Test.YtmflkkkbahghgaaGreatYZ0
import Derived.Test.YtmflkkkbahghgaaGreatRows
namespace Go.Proofs.YtmflkkkbahghgaaGreat
open Go.RowKit Go.Deep
set_option linter.unusedVariables false
set_option linter.unusedSimpArgs false
set_option maxRecDepth 100000

structure PFm (base P n : Nat) (K : Nat → Nat) (S : Nat → Bool) (u : World) : Prop where
  box : ∃ v, u.heap[P]? = some (.cells #[v] 170 (0, 0)) ∧ KRow base n K v u ∧ ∀ k, S k = true ↔ (k = P ∨ v.ownBlock = some k)
  lo : base ≤ P
  four : ∀ i, i < n → K i < 4
section
variable {base P n : Nat} {K : Nat → Nat} {S T : Nat → Bool} {u u2 : World}
theorem PFm.below (h : PFm base P n K S u) (k : Below u.heap.size u u2) : PFm base P n K S u2 := by
  obtain ⟨v, e, hr, hs⟩ := h.box
  exact ⟨⟨v, (k.block _ (lt_of_block e)).trans e, hr.below k, hs⟩, h.lo, h.four⟩
theorem PFm.kept (h : PFm base P n K S u) (hST : ∀ k, S k = true → T k = false) (k : KpS T u u2) : PFm base P n K S u2 := by
  obtain ⟨v, e, hr, hs⟩ := h.box
  exact ⟨⟨v, (k.blk (lt_of_block e) (hST P ((hs P).2 (.inl rfl)))).trans e, hr.kept T (fun b hb => hST b ((hs b).2 (.inr hb))) k, hs⟩, h.lo, h.four⟩
theorem PFm.s_lo (h : PFm base P n K S u) : ∀ k, S k = true → base ≤ k ∧ k < u.heap.size := by
  intro k hk
  obtain ⟨v, e, hr, hs⟩ := h.box
  rcases (hs k).1 hk with rfl | hv
  · exact ⟨h.lo, lt_of_block e⟩
  · rcases hr with ⟨_, a, c, rfl, _, hp⟩ | ⟨_, b, c, rfl, hb, hr⟩
    · cases a with
      | none => cases hv
      | some p =>
        simp only [Value.ownBlock, Option.some.injEq] at hv
        subst hv
        exact hp p rfl
    · simp only [Value.ownBlock, Option.some.injEq] at hv
      subst hv
      exact ⟨hb, hr.lt⟩
theorem PFm.len (h : PFm base P n K S u) : ∃ a c, u.cell? ⟨P, 0, none⟩ = some (.slice a n c) ∧ KRow base n K (.slice a n c) u := by
  obtain ⟨v, e, hr, hs⟩ := h.box
  rcases hr with ⟨rfl, a, c, rfl, hc, hp⟩ | ⟨h0, b, c, rfl, h1, hr⟩
  · exact ⟨a, c, by rw [Lib.cell_of_heap e]; rfl, .inl ⟨rfl, a, c, rfl, hc, hp⟩⟩
  · exact ⟨_, c, by rw [Lib.cell_of_heap e]; rfl, .inr ⟨h0, b, c, rfl, h1, hr⟩⟩
/-- the row: where it lies, what a store into it leaves -/
theorem PFm.look (h : PFm base P n K S u) {i : Nat} (hi : i < n) : ∃ b c, u.cell? ⟨P, 0, none⟩ = some (.slice (some ⟨b, 0, none⟩) n c) ∧ u.cell? ⟨b, i, none⟩ = some (.int .i64 (K i : Int)) ∧ u.frozen? ⟨b, i, none⟩ = false ∧ ∀ k, k < 4 → PFm base P n (fupd K i k) S (u.setCell ⟨b, i, none⟩ (.int .i64 (k : Int))) ∧ KpS S u (u.setCell ⟨b, i, none⟩ (.int .i64 (k : Int))) := by
  obtain ⟨v, e, hr, hs⟩ := h.box
  rcases hr with ⟨rfl, _⟩ | ⟨h0, b, c, rfl, h1, hr⟩
  · omega
  refine ⟨b, c, by rw [Lib.cell_of_heap e]; rfl, hr.cell1 hi, hr.frozen i, fun k hk => ⟨⟨⟨_, ?_, .inr ⟨h0, b, c, rfl, h1, ?_⟩, hs⟩, h.lo, fun j hj => ?_⟩, KpS.set ((hs b).2 (.inr rfl)) i _ u⟩⟩
  · rw [set_else12]
    · exact e
    · rintro rfl
      obtain ⟨cs, e2⟩ := hr.b
      rw [e2] at e
      simp at e
  · exact hr.put1 hi _ (by unfold gK; rw [fupd_at]) (fun q hq hne => by unfold gK; rw [fupd_else _ _ _ _ hne])
  · unfold fupd
    split
    · exact hk
    · exact h.four j hj
theorem PFm.post {K2 : Nat → Nat} (h : PFm base P n K2 S u2) (k : KpS S u u2) : Post12 PFm base P n K2 S u u2 := ⟨S, fun _ h => .inl h, h, k⟩

set_option maxHeartbeats 800000 in
theorem pat12_any (h : PFm base P n K S u) (hn : n ≤ 1024) (i : Int) : Calls Tryz.prog 156 #[.pointer (some ⟨P, 0, none⟩), .int .i64 i] u fun r u' => r = .returned (.int .i64 (inE n i)) ∧ u' = u := by
  obtain ⟨a, c, x0, hr⟩ := h.len
  clear h hr
  go_enter Tryz.func156, Tryz.ntmps156
  by_cases h1 : i < 0
  · have d1 : decide (i < 0) = true := by simp [h1]
    have E : Hid (inE n i = 3) := Lib.hid (if_neg fun h => by have := h.1; omega)
    go_wp2_with fail
    go_ret
    exact ⟨by rw [E.out]; rfl, rfl⟩
  · have d1 : decide (i < 0) = false := by simp; omega
    by_cases h2 : (n : Int) ≤ i
    · have d2 : decide ((n : Int) ≤ i) = true := by simp [h2]
      have E : Hid (inE n i = 3) := Lib.hid (if_neg fun h => by have := h.2; omega)
      go_wp2_with fail
      go_ret
      exact ⟨by rw [E.out]; rfl, rfl⟩
    · have d2 : decide ((n : Int) ≤ i) = false := by simp; omega
      have E : Hid (inE n i = 0) := Lib.hid (if_pos ⟨by omega, by omega⟩)
      go_wp2_with fail
      go_ret
      exact ⟨by rw [E.out]; rfl, rfl⟩
theorem pall12_any (h : PFm base P n K S u) : Calls Tryz.prog 165 #[.pointer (some ⟨P, 0, none⟩)] u fun r u' => (∃ a c, r = .returned (.slice a n c) ∧ KRow base n K (.slice a n c) u') ∧ u' = u := by
  obtain ⟨a, c, x0, hr⟩ := h.len
  clear h
  have HR := Lib.hid hr
  clear hr
  go_enter Tryz.func165, Tryz.ntmps165
  go_wp2_with fail
  go_ret
  exact ⟨⟨a, c, rfl, HR.out⟩, rfl⟩
set_option maxHeartbeats 1600000 in
theorem pleave12_any (h : PFm base P n K S u) (hn : n ≤ 1024) (i : Int) : Calls Tryz.prog 121 #[.pointer (some ⟨P, 0, none⟩), .int .i64 i] u fun r u' => r = .returned (.int .i64 (leaveE n K i)) ∧ Post12 PFm base P n (leaveF n K i) S u u' := by
  have R := Lib.hid h
  have H := Lib.hid (pat12_any h hn i)
  unfold inE at H
  clear h
  go_enter Tryz.func121, Tryz.ntmps121
  by_cases hi : inF n i
  · rw [if_pos hi] at H
    obtain ⟨k, rfl⟩ : ∃ k : Nat, i = (k : Int) := ⟨i.toNat, by have := hi.1; omega⟩
    have hk : k < n := by have := hi.2; omega
    have hk1 : (k : Int) < (n : Int) := by omega
    have hk2 : (0 : Int) ≤ (k : Int) := by omega
    obtain ⟨b, c, x0, x1, xf, hput⟩ := R.out.look hk
    have HP3 := Lib.hid (hput 3 (by omega))
    have HP0 := Lib.hid (hput 0 (by omega))
    change Hid (PFm _ _ _ _ _ (u.setCell ⟨b, k, none⟩ (.int .i64 3)) ∧ KpS S u (u.setCell ⟨b, k, none⟩ (.int .i64 3))) at HP3
    change Hid (PFm _ _ _ _ _ (u.setCell ⟨b, k, none⟩ (.int .i64 0)) ∧ KpS S u (u.setCell ⟨b, k, none⟩ (.int .i64 0))) at HP0
    clear hput
    by_cases hz : K k = 1
    · have E1 : Hid (leaveE n K (k : Int) = 0) := Lib.hid (by unfold leaveE; rw [if_pos hi, Int.toNat_natCast, if_pos (.inl hz)])
      have E2 : Hid (leaveF n K (k : Int) = fupd K k 3) := Lib.hid (by unfold leaveF; rw [if_pos hi, Int.toNat_natCast, if_pos hz])
      rw [hz] at x1
      clear hi hk hz
      go_wp2_with fail
      refine (H.out).mono ?_
      rintro e w1 ⟨rfl, hw⟩
      rw [hw]
      clear hw w1
      go_wp2_with fail
      go_ret
      exact ⟨by rw [E1.out]; rfl, by rw [E2.out]; exact HP3.out.1.post HP3.out.2⟩
    · by_cases hz2 : K k = 2
      · have E1 : Hid (leaveE n K (k : Int) = 0) := Lib.hid (by unfold leaveE; rw [if_pos hi, Int.toNat_natCast, if_pos (.inr hz2)])
        have E2 : Hid (leaveF n K (k : Int) = fupd K k 0) := Lib.hid (by unfold leaveF; rw [if_pos hi, Int.toNat_natCast, if_neg hz, if_pos hz2])
        rw [hz2] at x1
        clear hi hk hz hz2
        go_wp2_with fail
        refine (H.out).mono ?_
        rintro e w1 ⟨rfl, hw⟩
        rw [hw]
        clear hw w1
        go_wp2_with fail
        go_ret
        exact ⟨by rw [E1.out]; rfl, by rw [E2.out]; exact HP0.out.1.post HP0.out.2⟩
      · have E1 : Hid (leaveE n K (k : Int) = 9) := Lib.hid (by unfold leaveE; rw [if_pos hi, Int.toNat_natCast, if_neg (by rintro (c | c); exact hz c; exact hz2 c)])
        have E2 : Hid (leaveF n K (k : Int) = K) := Lib.hid (by unfold leaveF; rw [if_pos hi, Int.toNat_natCast, if_neg hz, if_neg hz2])
        have dz : (((K k : Nat) : Int) == 1) = false := by simp; omega
        have dz2 : (((K k : Nat) : Int) == 2) = false := by simp; omega
        clear hi hk
        generalize ((K k : Nat) : Int) = q at *
        go_wp2_with fail
        refine (H.out).mono ?_
        rintro e w1 ⟨rfl, hw⟩
        rw [hw]
        clear hw w1
        go_wp2_with fail
        go_ret
        exact ⟨by rw [E1.out]; rfl, by rw [E2.out]; exact R.out.post (KpS.refl _ _)⟩
  · have E1 : Hid (leaveE n K i = 3) := Lib.hid (by unfold leaveE; rw [if_neg hi])
    have E2 : Hid (leaveF n K i = K) := Lib.hid (by unfold leaveF; rw [if_neg hi])
    rw [if_neg hi] at H
    clear hi
    go_wp2_with fail
    refine (H.out).mono ?_
    rintro e w1 ⟨rfl, hw⟩
    rw [hw]
    clear hw w1
    go_wp2_with fail
    go_ret
    exact ⟨by rw [E1.out]; rfl, by rw [E2.out]; exact R.out.post (KpS.refl _ _)⟩
set_option maxHeartbeats 1600000 in
theorem pfresh12_any (h : PFm base P n K S u) (hn : n ≤ 1024) (i : Int) : Calls Tryz.prog 143 #[.pointer (some ⟨P, 0, none⟩), .int .i64 i] u fun r u' => r = .returned (.bool (decide (inF n i ∧ K i.toNat = 2))) ∧ Below u.heap.size u u' := by
  have R := Lib.hid h
  have H := Lib.hid (pat12_any h hn i)
  unfold inE at H
  clear h
  go_enter Tryz.func143, Tryz.ntmps143
  by_cases hi : inF n i
  · rw [if_pos hi] at H
    obtain ⟨k, rfl⟩ : ∃ k : Nat, i = (k : Int) := ⟨i.toNat, by have := hi.1; omega⟩
    have hk : k < n := by have := hi.2; omega
    have hk1 : (k : Int) < (n : Int) := by omega
    have hk2 : (0 : Int) ≤ (k : Int) := by omega
    obtain ⟨b, c, x0, x1, xf, hput⟩ := R.out.look hk
    clear hput
    have E : Hid (decide (inF n (k : Int) ∧ K (k : Int).toNat = 2) = decide (K k = 2)) := Lib.hid (by rw [Int.toNat_natCast]; simp [hi])
    by_cases hz : K k = 2
    · have E2 : Hid (decide (K k = 2) = true) := Lib.hid (by simp [hz])
      rw [hz] at x1
      clear hi hk hz
      go_wp2_with fail
      refine (H.out).mono ?_
      rintro e w1 ⟨rfl, hw⟩
      rw [hw]
      clear hw w1
      go_wp2_with fail
      go_ret
      exact ⟨by rw [E.out, E2.out]; rfl, Below.refl _ _⟩
    · have E2 : Hid (decide (K k = 2) = false) := Lib.hid (by simp [hz])
      have dz : (((K k : Nat) : Int) == 2) = false := by simp; omega
      clear hi hk hz
      generalize ((K k : Nat) : Int) = q at *
      go_wp2_with fail
      refine (H.out).mono ?_
      rintro e w1 ⟨rfl, hw⟩
      rw [hw]
      clear hw w1
      go_wp2_with fail
      go_ret
      exact ⟨by rw [E.out, E2.out]; rfl, Below.refl _ _⟩
  · have E : Hid (decide (inF n i ∧ K i.toNat = 2) = false) := Lib.hid (by simp [hi])
    rw [if_neg hi] at H
    clear hi
    go_wp2_with fail
    refine (H.out).mono ?_
    rintro e w1 ⟨rfl, hw⟩
    rw [hw]
    clear hw w1
    go_wp2_with fail
    go_ret
    exact ⟨by rw [E.out]; rfl, Below.refl _ _⟩
end

end Go.Proofs.YtmflkkkbahghgaaGreat
namespace Go.Proofs.YtmflkkkbahghgaaGreat
open Go.RowKit Go.Deep
set_option linter.unusedVariables false
set_option linter.unusedSimpArgs false
set_option maxRecDepth 100000

section
variable {base P n : Nat} {K : Nat → Nat} {S T : Nat → Bool} {u u2 : World}
def firstI (n : Nat) (K : Nat → Nat) : Int := if firstN K n < n then (firstN K n : Int) else -1
set_option maxHeartbeats 1600000 in
theorem pindex12_any {a : Option Addr} {c : Nat} (h : KRow base n K (.slice a n c) u) (hn : n ≤ 1024) : Calls Tryz.prog 102 #[.slice a n c, .int .i64 0] u fun r u' => r = .returned (.int .i64 (firstI n K)) ∧ u' = u := by
  have R := Lib.hid h
  clear h
  go_enter Tryz.func102, Tryz.ntmps102
  go_wp2_with fail
  go_loopw [8] (fun i wr => ∃ j : Nat, j ≤ n ∧ i = .int .i64 j ∧ wr = u ∧ Hid (∀ q, q < j → K q ≠ 0)) (fun i _ => n - (intOf i).toNat)
  case atStart => exact ⟨0, Nat.zero_le _, rfl, rfl, Lib.hid (fun q hq => absurd hq (Nat.not_lt_zero q))⟩
  case round =>
    obtain ⟨j, hj, rfl, hw, HALL⟩ := hrel
    rw [hw]
    clear hw wr
    by_cases hlt : j < n
    · have hj1 : (j : Int) < (n : Int) := by omega
      have hj2 : (0 : Int) ≤ (j : Int) := by omega
      have d1 : decide ((j : Int) < (n : Int)) = true := by simp [hlt]
      obtain ⟨b, ha, x1⟩ := R.out.look hlt
      subst ha
      by_cases hz : K j = 0
      · have E1 : Hid (firstI n K = (j : Int)) := Lib.hid (by
          have := firstN_of hlt hz HALL.out
          unfold firstI
          rw [this, if_pos hlt])
        rw [hz] at x1
        clear hz
        go_wp2_with fail
        go_ret
        exact ⟨by rw [E1.out]; rfl, rfl⟩
      · have dz : ((0 : Int) == ((K j : Nat) : Int)) = false := by simp; omega
        have HZ := Lib.hid hz
        clear hz
        generalize ((K j : Nat) : Int) = q at *
        go_wp2_with fail
        go_roundw
        case rel => exact ⟨j + 1, hlt, by go_num, trivial, Lib.hid (fun q hq => by
          rcases Nat.lt_or_ge q j with c | c
          · exact HALL.out q c
          · obtain rfl : q = j := by omega
            exact HZ.out)⟩
        case measure => simp [intOf]; omega
    · obtain rfl : j = n := by omega
      have d1 : decide ((j : Int) < (j : Int)) = false := by simp
      have E1 : Hid (firstI j K = -1) := Lib.hid (by
        unfold firstI
        rw [firstN_none HALL.out, if_neg (by omega)])
      go_wp2_with fail
      go_ret
      exact ⟨by rw [E1.out]; rfl, rfl⟩
theorem pfirst12_any (h : PFm base P n K S u) (hn : n ≤ 1024) : Calls Tryz.prog 167 #[.pointer (some ⟨P, 0, none⟩)] u fun r u' => r = .returned (.int .i64 (firstI n K)) ∧ u' = u := by
  obtain ⟨a, c, x0, hr⟩ := h.len
  have H := Lib.hid (pindex12_any hr hn)
  clear h hr
  go_enter Tryz.func167, Tryz.ntmps167
  go_wp2_with fail
  refine (H.out).mono ?_
  rintro e w1 ⟨rfl, hw⟩
  rw [hw]
  clear hw w1
  go_wp2_with fail
  go_ret
  exact ⟨rfl, rfl⟩
set_option maxHeartbeats 1600000 in
theorem ptakef_any (h : PFm base P n K S u) (hn : n ≤ 1024) : Calls Tryz.prog 166 #[.pointer (some ⟨P, 0, none⟩), .func (.func 167) #[.pointer (some ⟨P, 0, none⟩)] #[]] u fun r u' => r = .returned (.tuple #[.int .i64 (takeI n K), .int .i64 (takeE n K)]) ∧ Post12 PFm base P n (takeF n K) S u u' := by
  have R := Lib.hid h
  have H := Lib.hid (pfirst12_any h hn)
  unfold firstI at H
  clear h
  by_cases hf : firstN K n < n
  · rw [if_pos hf] at H
    have E1 : Hid (takeE n K = 0) := Lib.hid (by unfold takeE; rw [if_pos hf])
    have E2 : Hid (takeI n K = (firstN K n : Int)) := Lib.hid (by unfold takeI; rw [if_pos hf])
    have E3 : Hid (takeF n K = fupd K (firstN K n) 2) := Lib.hid (by unfold takeF; rw [if_pos hf])
    obtain ⟨b, c, x0, x1, xf, hput⟩ := R.out.look hf
    have HP := Lib.hid (hput 2 (by omega))
    change Hid (PFm _ _ _ _ _ (u.setCell ⟨b, firstN K n, none⟩ (.int .i64 2)) ∧ KpS S u (u.setCell ⟨b, firstN K n, none⟩ (.int .i64 2))) at HP
    clear hput
    generalize hk : firstN K n = k at *
    have hk1 : (k : Int) < (n : Int) := by omega
    have hk2 : (0 : Int) ≤ (k : Int) := by omega
    have d1 : decide ((k : Int) < 0) = false := decide_eq_false (by omega)
    clear hk
    go_enter Tryz.func166, Tryz.ntmps166
    go_wp2_with fail
    refine (H.out).mono ?_
    rintro e w1 ⟨rfl, hw⟩
    rw [hw]
    clear hw w1
    go_wp2_with fail
    go_ret2
    exact ⟨by rw [E1.out, E2.out]; rfl, by rw [E3.out]; exact HP.out.1.post HP.out.2⟩
  · rw [if_neg hf] at H
    have E1 : Hid (takeE n K = 11) := Lib.hid (by unfold takeE; rw [if_neg hf])
    have E2 : Hid (takeI n K = 0) := Lib.hid (by unfold takeI; rw [if_neg hf])
    have E3 : Hid (takeF n K = K) := Lib.hid (by unfold takeF; rw [if_neg hf])
    go_enter Tryz.func166, Tryz.ntmps166
    go_wp2_with fail
    refine (H.out).mono ?_
    rintro e w1 ⟨rfl, hw⟩
    rw [hw]
    clear hw w1
    go_wp2_with fail
    go_ret2
    exact ⟨by rw [E1.out, E2.out]; rfl, by rw [E3.out]; exact R.out.post (KpS.refl _ _)⟩
theorem ptake12_any (h : PFm base P n K S u) (hn : n ≤ 1024) : Calls Tryz.prog 136 #[.pointer (some ⟨P, 0, none⟩)] u fun r u' => r = .returned (.tuple #[.int .i64 (takeI n K), .int .i64 (takeE n K)]) ∧ Post12 PFm base P n (takeF n K) S u u' := by
  have hmf : ∀ (fn : Fn) (first cap : Array Value) (w : World), (Instr.makeFunc fn first cap).run Tryz.prog w = .ok (.func fn first cap) w := fun _ _ _ _ => rfl
  have H := Lib.hid (ptakef_any h hn)
  clear h
  generalize takeI n K = ti at *
  generalize takeE n K = te at *
  go_enter Tryz.func136, Tryz.ntmps136
  go_wp2_with fail
  refine (H.out).mono ?_
  rintro e w1 ⟨rfl, hp⟩
  have HP := Lib.hid hp
  clear hp
  go_wp2_with fail
  go_ret2
  exact ⟨rfl, HP.out⟩
/-! ### counting -/
def fvK (B : Nat) : Value := .func (.func 164) #[] #[.pointer (some ⟨B, 0, none⟩)]
theorem pcounter_any (p : Option Addr) (u : World) : Calls Tryz.prog 135 #[.pointer p] u fun r u' => r = .returned (fvK u.heap.size) ∧ u'.heap[u.heap.size]? = some (.cells #[.pointer p] 112 (0, 0)) ∧ Below u.heap.size u u' := by
  have hmf : ∀ (fn : Fn) (first cap : Array Value) (w : World), (Instr.makeFunc fn first cap).run Tryz.prog w = .ok (.func fn first cap) w := fun _ _ _ _ => rfl
  have X1 := Lib.hid (heap_alloc_new u (.cells #[.pointer p] 112))
  have B1 := Lib.hid (balloc u (.cells #[.pointer p] 112))
  go_enter Tryz.func135, Tryz.ntmps135
  go_wp2_with fail
  go_ret
  exact ⟨rfl, X1.out, B1.out⟩
set_option maxHeartbeats 1600000 in
theorem pkind_any {B : Nat} (h : PFm base P n K S u) (hn : n ≤ 1024) (hb : u.heap[B]? = some (.cells #[.pointer (some ⟨P, 0, none⟩)] 112 (0, 0))) (k : Nat) : Calls Tryz.prog 164 #[.int .i64 (k : Int), .pointer (some ⟨B, 0, none⟩)] u fun r u' => r = .returned (.int .i64 (cntF K k n : Int)) ∧ u' = u := by
  have x0 : u.cell? ⟨B, 0, none⟩ = some (.pointer (some ⟨P, 0, none⟩)) := by rw [Lib.cell_of_heap hb]; rfl
  have H := Lib.hid (pall12_any h)
  have HN := Lib.hid hn
  clear h hb
  go_enter Tryz.func164, Tryz.ntmps164
  go_wp2_with fail
  refine (H.out).mono ?_
  rintro e w1 ⟨⟨a, c, rfl, hr⟩, hw⟩
  rw [hw] at hr ⊢
  clear hw w1
  have R := Lib.hid hr
  clear hr
  go_wp2_with fail
  go_loopw [4, 10] (fun v i wr => ∃ j : Nat, j ≤ n ∧ i = .int .i64 j ∧ v = .int .i64 (cntF K k j : Int) ∧ wr = u) (fun _ i _ => n - (intOf i).toNat)
  case atStart => exact ⟨0, Nat.zero_le _, rfl, rfl, rfl⟩
  case round =>
    obtain ⟨j, hj, rfl, rfl, hw⟩ := hrel
    rw [hw]
    clear hw wr
    by_cases hlt : j < n
    · have hj1 : (j : Int) < (n : Int) := by omega
      have hj2 : (0 : Int) ≤ (j : Int) := by omega
      have d1 : decide ((j : Int) < (n : Int)) = true := by simp [hlt]
      obtain ⟨b, ha, x1⟩ := R.out.look hlt
      subst ha
      have hle := cntF_le K k j
      by_cases hz : K j = k
      · have E : Hid (cntF K k (j + 1) = cntF K k j + 1) := Lib.hid (by rw [cntF_succ, if_pos hz])
        have dz : (((K j : Nat) : Int) == (k : Int)) = true := by simp [hz]
        clear hz
        generalize ((K j : Nat) : Int) = q at *
        generalize cntF K k j = m at *
        go_wp2_with fail
        go_roundw
        case rel => exact ⟨j + 1, hlt, by go_num, by rw [E.out]; go_num, trivial⟩
        case measure => simp [intOf]; omega
      · have E : Hid (cntF K k (j + 1) = cntF K k j) := Lib.hid (by rw [cntF_succ, if_neg hz, Nat.add_zero])
        have dz : (((K j : Nat) : Int) == (k : Int)) = false := by simp; omega
        clear hz
        generalize ((K j : Nat) : Int) = q at *
        generalize cntF K k j = m at *
        go_wp2_with fail
        go_roundw
        case rel => exact ⟨j + 1, hlt, by go_num, by rw [E.out], trivial⟩
        case measure => simp [intOf]; omega
    · obtain rfl : j = n := by omega
      have d1 : decide ((j : Int) < (j : Int)) = false := by simp
      go_wp2_with fail
      go_ret
      exact ⟨rfl, rfl⟩
theorem pfree_core (p : Option Addr) (f : Nat → Nat) (u : World) (H : ∀ B u2, u2.heap[B]? = some (.cells #[.pointer p] 112 (0, 0)) → Below u.heap.size u u2 → ∀ k : Nat, Calls Tryz.prog 164 #[.int .i64 (k : Int), .pointer (some ⟨B, 0, none⟩)] u2 fun r u' => r = .returned (.int .i64 (f k : Int)) ∧ u' = u2) :
    Calls Tryz.prog 90 #[.pointer p] u fun r u' => r = .returned (.int .i64 (f 0 : Int)) ∧ Below u.heap.size u u' := by
  have HC := Lib.hid (pcounter_any p u)
  have HH := Lib.hid H
  clear H
  go_enter Tryz.func90, Tryz.ntmps90
  go_wp2_with fail
  refine (HC.out).mono ?_
  rintro e w1 ⟨rfl, hb, hB⟩
  have B1 := Lib.hid hB
  have H0 := Lib.hid (HH.out _ _ hb hB 0)
  change Hid (Calls _ _ #[.int .i64 0, _] _ _) at H0
  clear hb hB HH
  unfold fvK
  go_wp2_with fail
  refine (H0.out).mono ?_
  rintro e w2 ⟨rfl, hw⟩
  rw [hw]
  clear hw w2
  go_wp2_with fail
  go_ret
  exact ⟨rfl, B1.out⟩
theorem pfree12_any (h : PFm base P n K S u) (hn : n ≤ 1024) : Calls Tryz.prog 90 #[.pointer (some ⟨P, 0, none⟩)] u fun r u' => r = .returned (.int .i64 (cntF K 0 n : Int)) ∧ Below u.heap.size u u' :=
  pfree_core _ (fun k => cntF K k n) u fun B u2 hb hB k => pkind_any (h.below hB) hn hb k
/-! ### List -/
end

end Go.Proofs.YtmflkkkbahghgaaGreat
namespace Go.Proofs.YtmflkkkbahghgaaGreat
open Go.RowKit
set_option linter.unusedVariables false
set_option linter.unusedSimpArgs false
set_option maxRecDepth 100000

theorem and32 (n : Nat) (hn : n ≤ 1024) : bits .and .u64 (n : Int) 4294967295 = (n : Int) := by
  have h := bits_and_u64 n 4294967295 (by omega) (by omega)
  have e : n &&& 4294967295 = n := by
    have := Nat.and_two_pow_sub_one_eq_mod n 32
    rw [show (2 ^ 32 - 1 : Nat) = 4294967295 from rfl] at this
    rw [this]
    omega
  rw [e] at h
  exact h
set_option maxHeartbeats 800000 in
theorem mul1_any (n : Nat) (hn : n ≤ 1024) (w : World) : Calls Tryz.prog 194 #[.int .u64 1, .int .u64 (n : Int)] w fun e w' => e = .returned (.tuple #[.int .u64 0, .int .u64 (n : Int)]) ∧ w' = w := by
  have a1 := and32 n hn
  have s1 : (n : Int) / 4294967296 = 0 := by omega
  have w1 : IntKind.u64.wrap (n : Int) = n := by rw [IntKind.wrap_u64]; omega
  have b1 : bits .and .u64 1 4294967295 = 1 := and32 1 (by omega)
  clear hn
  go_enter Tryz.func194, Tryz.ntmps194
  go_wp2_with fail
  go_ret2
  exact ⟨rfl, rfl⟩
set_option maxHeartbeats 800000 in
theorem bmul1_any (n : Nat) (hn : n ≤ 1024) (w : World) : Calls Tryz.prog 177 #[.int .u64 1, .int .u64 (n : Int)] w fun e w' => e = .returned (.tuple #[.int .u64 0, .int .u64 (n : Int)]) ∧ w' = w := by
  have H := Lib.hid (mul1_any n hn w)
  clear hn
  go_enter Tryz.func177, Tryz.ntmps177
  go_wp2_with fail
  refine (H.out).mono ?_
  rintro e w1 ⟨rfl, hw⟩
  rw [hw]
  go_wp2_with fail
  go_ret2
  exact ⟨rfl, rfl⟩

end Go.Proofs.YtmflkkkbahghgaaGreat
namespace Go.Proofs.YtmflkkkbahghgaaGreat
open Go.RowKit Go.Deep
set_option linter.unusedVariables false
set_option linter.unusedSimpArgs false
set_option maxRecDepth 100000

theorem splice_zeros (z : Value) (n off m : Nat) (h : off + m ≤ n) : splice (List.replicate n z) off (List.replicate m z) = List.replicate n z := by
  unfold splice
  rw [List.take_replicate, List.drop_replicate, List.replicate_append_replicate, List.replicate_append_replicate, List.length_replicate]
  congr 1
  omega
theorem made_row12 {w : World} {base g n : Nat} {e : TypeId} (h : w.ownsRow base e 1 (.slice (some ⟨g, 0, none⟩) n n) n (madeCells #[Value.int .i64 0] n).toList) :
    w.heap[g]? = some (.cells (List.replicate n (Value.int .i64 0)).toArray e (0, 0)) := by
  rcases h.2 with ⟨h1, _⟩ | ⟨g', cap, cur, h1, _, h2, h3, _, h4, h5⟩
  · simp at h1
  · simp only [Value.slice.injEq, Option.some.injEq, Addr.mk.injEq, and_true, true_and] at h1
    obtain ⟨rfl, rfl⟩ := h1
    rw [h2]
    rw [toList_madeCells_one] at h5
    have e : cur.toList = List.replicate n (Value.int .i64 0) := by
      rw [← h5]
      exact (List.take_of_length_le (by simp; omega)).symm
    rw [← e]
theorem zero_cell {w : World} {g n : Nat} {e : TypeId} (h : w.heap[g]? = some (.cells (List.replicate n (Value.int .i64 0)).toArray e (0, 0))) {i : Nat} (hi : i < n) : w.cell? ⟨g, i, none⟩ = some (.int .i64 0) := by
  rw [Lib.cell_of_heap h]
  simp [hi]
theorem size_int12 : (Tryz.prog.info? 3).map (·.size) = some 1 := by kernel_rfl
theorem zeros_src {w : World} {g n k : Nat} {e : TypeId} (h : w.heap[g]? = some (.cells (List.replicate n (Value.int .i64 0)).toArray e (0, 0))) (hk : k ≤ n) : ∀ j v, (List.replicate k (Value.int .i64 0))[j]? = some v → w.cell? ((⟨g, 0, none⟩ : Addr).add j) = some v := by
  intro j v hj
  rw [add_plain]
  rw [List.getElem?_replicate] at hj
  split at hj
  · rename_i c
    simp only [Option.some.injEq] at hj
    subst hj
    rw [Nat.zero_add]
    exact zero_cell h (by omega)
  · cases hj
theorem zeros_one : ∀ (k : Nat), ∀ v ∈ List.replicate k (Value.int .i64 0), v.oneCell' = true := by
  intro k v hv
  obtain ⟨_, rfl⟩ := List.mem_replicate.1 hv
  rfl
theorem zero_copy {w : World} {g n o dl dc sl sc m : Nat} {ad : Addr} (h : w.heap[g]? = some (.cells (List.replicate n (Value.int .i64 0)).toArray 3 (0, 0))) (hm : m = Nat.min sl dl) (hs : ∀ j v, (List.replicate m (Value.int .i64 0))[j]? = some v → w.cell? (ad.add j) = some v) (ho : o + m ≤ n) :
    (Builtin.copy_ #[38, 38] 3 #[.slice (some ⟨g, o, none⟩) dl dc, .slice (some ad) sl sc]).run Tryz.prog w = .ok (.int .i64 (m : Int)) w := by
  have h1 := run_copy_row (P := Tryz.prog) w 38 38 3 3 g o dl dc ad sl sc _ 3 (List.replicate m (Value.int .i64 0)) Tryz.underlying38 size_int12 h (by rw [List.length_replicate]; exact hm) hs (by simp; omega) (zeros_one m)
  rw [List.length_replicate] at h1
  rw [h1]
  have e : (List.replicate n (Value.int .i64 0)).toArray.toList.take o ++ List.replicate m (Value.int .i64 0) ++ (List.replicate n (Value.int .i64 0)).toArray.toList.drop (o + m) = List.replicate n (Value.int .i64 0) := by
    have := splice_zeros (Value.int .i64 0) n o m ho
    unfold splice at this
    rw [List.length_replicate] at this
    rw [List.append_assoc]
    exact this
  rw [e, setRow_self w g _ _ _ h]
  rfl
set_option maxHeartbeats 1600000 in
theorem repeat0_any (n : Nat) (hn : n ≤ 1024) (b c : Nat) (w : World) (x0 : w.cell? ⟨b, 0, none⟩ = some (.int .i64 0)) : Calls Tryz.prog 154 #[.slice (some ⟨b, 0, none⟩) 1 c, .int .i64 (n : Int)] w fun r u' => ∃ v, r = .returned v ∧ KRow w.heap.size n (fun _ => 0) v u' ∧ Below w.heap.size w u' := by
  obtain ⟨i0, hi0, hz0, hz1, hz2⟩ := info_parts infoInt12
  have HM := Lib.hid (bmul1_any n hn)
  have d0 : decide ((n : Int) < 0) = false := decide_eq_false (by omega)
  have d1 : decide (9223372036854775807 < (n : Int)) = false := decide_eq_false (by omega)
  have w1 : IntKind.u64.wrap (n : Int) = n := by rw [IntKind.wrap_u64]; omega
  have w2 : IntKind.i64.wrap (n : Int) = n := by rw [IntKind.wrap_i64]; omega
  have X := Lib.hid x0
  clear x0
  go_enter Tryz.func154, Tryz.ntmps154
  go_wp2_with (first
    | (go_at_call 177; refine (HM.out _).mono ?_; rintro e w' ⟨rfl, hw⟩; rw [hw])
    | (at_make; refine wpList_make_full _ rfl _ _ _ rfl w.heap.size 3 i0 (.int .i64 0) 1 Tryz.underlying38 hi0 hz0 hz1 .i64 .i64 _ _ n rfl rfl (by omega) (by omega) (by rw [hz2]; omega) (by unfold maxLen; omega) (by omega) ?_))
  intro u2 hown hgr
  have hB2 : Below w.heap.size w u2 := (Below.refl _ _).grown hgr (Nat.le_refl _) (by simp)
  obtain ⟨g, hg⟩ : ∃ g, g = w.heap.size := ⟨_, rfl⟩
  rw [← hg] at hown ⊢
  have HG := Lib.hid hg
  have H2 := Lib.hid (made_row12 hown)
  have XB : Hid (u2.cell? ⟨b, 0, none⟩ = some (.int .i64 0)) := Lib.hid (by
    have hbl : b < w.heap.size := by obtain ⟨_, _, _, e⟩ := cell_block X.out; exact lt_of_block e
    rw [← X.out]
    exact World.cell?_of_block (hB2.block _ hbl))
  have B2 := Lib.hid hB2
  obtain ⟨m, hm⟩ : ∃ m, m = Nat.min 1 n := ⟨_, rfl⟩
  have hm1 : m ≤ 1 := by rw [hm]; exact Nat.min_le_left _ _
  have hm2 : m ≤ n := by rw [hm]; exact Nat.min_le_right _ _
  have hm3 : 0 < n → 0 < m := by rw [hm]; intro h; exact Nat.lt_min.2 ⟨by omega, h⟩
  have hcp := zero_copy (o := 0) (dl := n) (dc := n) (sl := 1) (sc := c) (ad := ⟨b, 0, none⟩) H2.out hm (fun j v hj => by
    rw [List.getElem?_replicate] at hj
    split at hj
    · simp only [Option.some.injEq] at hj
      subst hj
      obtain rfl : j = 0 := by omega
      exact XB.out
    · cases hj) (by omega)
  have HM3 := Lib.hid hm3
  clear hown hgr hm hm3 hg hB2
  go_wp2_with fail
  go_loopw [8] (fun i wr => ∃ j : Nat, j ≤ n ∧ (0 < n → 0 < j) ∧ i = .int .i64 j ∧ Hid (wr.heap[g]? = some (.cells (List.replicate n (Value.int .i64 0)).toArray 3 (0, 0))) ∧ Hid (Below w.heap.size w wr)) (fun i _ => n - (intOf i).toNat)
  case atStart => exact ⟨m, hm2, HM3.out, rfl, H2, B2⟩
  case round =>
    obtain ⟨j, hj, hj0, rfl, HR, HB⟩ := hrel
    clear hcp
    by_cases hlt : j < n
    · have hj1 : (j : Int) < (n : Int) := by omega
      have hj2 : (0 : Int) ≤ (j : Int) := by omega
      have hj3 : 0 < j := hj0 (by omega)
      have hj4 : (j : Int) ≤ (n : Int) := by omega
      have d2 : decide ((j : Int) < (n : Int)) = true := by simp [hlt]
      have hne : ¬ n = j := by omega
      go_upto_region 9 with fail
      refine wp_region_held_drew (S := (fun w' => True)) (by kernel_rfl) trivial (fun hHeld => ?_)
      change wpAnyH _ _ _ _ _ _ _ _ (World.drew wr)
      have H4 : Hid ((World.drew wr).heap[g]? = some (.cells (List.replicate n (Value.int .i64 0)).toArray 3 (0, 0))) := Lib.hid HR.out
      have B4 := Lib.hid (HB.out.trans ((bdrew wr).mono HB.out.size))
      generalize World.drew wr = w4 at *
      obtain ⟨m2, hm2⟩ : ∃ m2, m2 = Nat.min j (n - j) := ⟨_, rfl⟩
      have hq1 : m2 ≤ j := by rw [hm2]; exact Nat.min_le_left _ _
      have hq2 : m2 ≤ n - j := by rw [hm2]; exact Nat.min_le_right _ _
      have hq3 : 0 < m2 := by rw [hm2]; exact Nat.lt_min.2 ⟨hj3, by omega⟩
      have hcp := zero_copy (o := j) (dl := n - j) (dc := n - j) (sl := j) (sc := n) (ad := ⟨g, 0, none⟩) H4.out hm2 (zeros_src H4.out (by omega)) (by omega)
      clear hm2
      first | refine tq0 0 rfl ?_ | refine tq1 0 rfl ?_
      try go_frame
      first | refine tq0 1 rfl ?_ | refine tq1 1 rfl ?_
      try go_frame
      first | refine tq0 2 rfl ?_ | refine tq1 2 rfl ?_
      try go_frame
      first | refine tq0 3 rfl ?_ | refine tq1 3 rfl ?_
      try go_frame
      first | refine tq0 4 rfl ?_ | refine tq1 4 rfl ?_
      try go_frame
      first | refine tq0 5 rfl ?_ | refine tq1 5 rfl ?_
      try go_frame
      first | refine tq0 6 rfl ?_ | refine tq1 6 rfl ?_
      try go_frame
      refine wpAnyH_ready (rs := [7]) (by kernel_rfl) (by simp) ?_
      refine AllReadyH.cons (o := ⟨_, _, _, _, _, _⟩) rfl (fun Kx hKx => ?_) AllReadyH.nil
      go_simp
      refine hKx.out _ _ trivial (fun hHeld => ?_)
      clear hKx Kx
      try simp only [Act.put, List.setIfInBounds_toArray, List.set_cons_zero, List.set_cons_succ]
      first | refine tq0 8 rfl ?_ | refine tq1 8 rfl ?_
      try go_frame
      first | refine tq0 9 rfl ?_ | refine tq1 9 rfl ?_
      try go_frame
      refine wpAnyH_done (by kernel_rfl) ?_ _
      have HW : Hid (IntKind.i64.wrap ((j : Int) + (m2 : Int)) = ((j + m2 : Nat) : Int)) := Lib.hid (by rw [IntKind.wrap_i64]; omega)
      clear hHeld hcp
      go_wp2_with fail
      go_roundw
      case rel => exact ⟨j + m2, by omega, fun _ => by omega, by rw [HW.out], H4, B4⟩
      case measure => rw [HW.out]; simp [intOf]; omega
    · obtain rfl : j = n := by omega
      have d2 : decide ((j : Int) < (j : Int)) = false := by simp
      go_wp2_with fail
      go_ret
      refine ⟨_, rfl, ?_, HB.out⟩
      by_cases h0 : j = 0
      · subst h0
        exact .inl ⟨rfl, _, _, rfl, by omega, fun p hp => by
          simp only [Option.some.injEq] at hp
          subst hp
          exact ⟨by rw [HG.out]; exact Nat.le_refl _, lt_of_block HR.out⟩⟩
      · exact .inr ⟨by omega, g, j, rfl, by rw [HG.out]; exact Nat.le_refl _, ⟨_, rfl, Nat.le_refl _, by omega⟩, ⟨_, HR.out⟩, fun i hi q hq => by
          obtain rfl : q = 0 := by omega
          rw [Nat.mul_one, Nat.add_zero]
          exact zero_cell HR.out hi⟩

end Go.Proofs.YtmflkkkbahghgaaGreat
