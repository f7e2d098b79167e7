/- The program's map of pages in memory; its methods at, all, Use, Leave, Fresh. -/
import Derived.Test.YtbjmdejnipleoaaFmLaw1
namespace Go.Proofs.Ytbjmdejnipleoaa
open Go.RowKit Go.Deep
set_option linter.unusedVariables false
set_option linter.unusedSimpArgs false
set_option maxRecDepth 100000

structure PFm (base P n : Nat) (K : Nat → Nat) (S : Nat → Bool) (u : World) : Prop where
  box : ∃ v, u.heap[P]? = some (.cells #[v] 53 (0, 0)) ∧ KRow base n K v u ∧ ∀ k, S k = true ↔ (k = P ∨ v.ownBlock = some k)
  lo : base ≤ P
  four : ∀ i, i < n → K i < 4
section
variable {base P n : Nat} {K : Nat → Nat} {S T : Nat → Bool} {u u2 : World}
theorem PFm.below (h : PFm base P n K S u) (k : Below u.heap.size u u2) : PFm base P n K S u2 := by
  obtain ⟨v, e, hr, hs⟩ := h.box
  exact ⟨⟨v, (k.block _ (lt_of_block e)).trans e, hr.below k, hs⟩, h.lo, h.four⟩
theorem PFm.kept (h : PFm base P n K S u) (hST : ∀ k, S k = true → T k = false) (k : KpS T u u2) : PFm base P n K S u2 := by
  obtain ⟨v, e, hr, hs⟩ := h.box
  exact ⟨⟨v, (k.blk (lt_of_block e) (hST P ((hs P).2 (.inl rfl)))).trans e, hr.kept T (fun b hb => hST b ((hs b).2 (.inr hb))) k, hs⟩, h.lo, h.four⟩
theorem PFm.s_lo (h : PFm base P n K S u) : ∀ k, S k = true → base ≤ k ∧ k < u.heap.size := by
  intro k hk
  obtain ⟨v, e, hr, hs⟩ := h.box
  rcases (hs k).1 hk with rfl | hv
  · exact ⟨h.lo, lt_of_block e⟩
  · rcases hr with ⟨_, a, c, rfl, _, hp⟩ | ⟨_, b, c, rfl, hb, hr⟩
    · cases a with
      | none => cases hv
      | some p =>
        simp only [Value.ownBlock, Option.some.injEq] at hv
        subst hv
        exact hp p rfl
    · simp only [Value.ownBlock, Option.some.injEq] at hv
      subst hv
      exact ⟨hb, hr.lt⟩
theorem PFm.len (h : PFm base P n K S u) : ∃ a c, u.cell? ⟨P, 0, none⟩ = some (.slice a n c) ∧ KRow base n K (.slice a n c) u := by
  obtain ⟨v, e, hr, hs⟩ := h.box
  rcases hr with ⟨rfl, a, c, rfl, hc, hp⟩ | ⟨h0, b, c, rfl, h1, hr⟩
  · exact ⟨a, c, by rw [Lib.cell_of_heap e]; rfl, .inl ⟨rfl, a, c, rfl, hc, hp⟩⟩
  · exact ⟨_, c, by rw [Lib.cell_of_heap e]; rfl, .inr ⟨h0, b, c, rfl, h1, hr⟩⟩
/-- the row: where it lies, what a store into it leaves -/
theorem PFm.look (h : PFm base P n K S u) {i : Nat} (hi : i < n) : ∃ b c, u.cell? ⟨P, 0, none⟩ = some (.slice (some ⟨b, 0, none⟩) n c) ∧ u.cell? ⟨b, i, none⟩ = some (.int .i64 (K i : Int)) ∧ u.frozen? ⟨b, i, none⟩ = false ∧ ∀ k, k < 4 → PFm base P n (fupd K i k) S (u.setCell ⟨b, i, none⟩ (.int .i64 (k : Int))) ∧ KpS S u (u.setCell ⟨b, i, none⟩ (.int .i64 (k : Int))) := by
  obtain ⟨v, e, hr, hs⟩ := h.box
  rcases hr with ⟨rfl, _⟩ | ⟨h0, b, c, rfl, h1, hr⟩
  · omega
  refine ⟨b, c, by rw [Lib.cell_of_heap e]; rfl, hr.cell1 hi, hr.frozen i, fun k hk => ⟨⟨⟨_, ?_, .inr ⟨h0, b, c, rfl, h1, ?_⟩, hs⟩, h.lo, fun j hj => ?_⟩, KpS.set ((hs b).2 (.inr rfl)) i _ u⟩⟩
  · rw [set_else12]
    · exact e
    · rintro rfl
      obtain ⟨cs, e2⟩ := hr.b
      rw [e2] at e
      simp at e
  · exact hr.put1 hi _ (by unfold gK; rw [fupd_at]) (fun q hq hne => by unfold gK; rw [fupd_else _ _ _ _ hne])
  · unfold fupd
    split
    · exact hk
    · exact h.four j hj
theorem PFm.post {K2 : Nat → Nat} (h : PFm base P n K2 S u2) (k : KpS S u u2) : Post12 PFm base P n K2 S u u2 := ⟨S, fun _ h => .inl h, h, k⟩

set_option maxHeartbeats 800000 in
theorem pat12_any (h : PFm base P n K S u) (hn : n ≤ 1024) (i : Int) : Calls Try.prog 25 #[.pointer (some ⟨P, 0, none⟩), .int .i64 i] u fun r u' => r = .returned (.int .i64 (inE n i)) ∧ u' = u := by
  obtain ⟨a, c, x0, hr⟩ := h.len
  clear h hr
  go_enter Try.func25, Try.ntmps25
  by_cases h1 : i < 0
  · have d1 : decide (i < 0) = true := by simp [h1]
    have E : Hid (inE n i = 3) := Lib.hid (if_neg fun h => by have := h.1; omega)
    go_wp2_with fail
    go_ret
    exact ⟨by rw [E.out]; rfl, rfl⟩
  · have d1 : decide (i < 0) = false := by simp; omega
    by_cases h2 : (n : Int) ≤ i
    · have d2 : decide ((n : Int) ≤ i) = true := by simp [h2]
      have E : Hid (inE n i = 3) := Lib.hid (if_neg fun h => by have := h.2; omega)
      go_wp2_with fail
      go_ret
      exact ⟨by rw [E.out]; rfl, rfl⟩
    · have d2 : decide ((n : Int) ≤ i) = false := by simp; omega
      have E : Hid (inE n i = 0) := Lib.hid (if_pos ⟨by omega, by omega⟩)
      go_wp2_with fail
      go_ret
      exact ⟨by rw [E.out]; rfl, rfl⟩
theorem pat12_nil (i : Int) (u : World) : Calls Try.prog 25 #[.pointer none, .int .i64 i] u fun r u' => r = .returned (.int .i64 1) ∧ u' = u := by
  go_enter Try.func25, Try.ntmps25
  go_wp2_with fail
  go_ret
  exact ⟨rfl, rfl⟩
theorem pall12_any (h : PFm base P n K S u) : Calls Try.prog 24 #[.pointer (some ⟨P, 0, none⟩)] u fun r u' => (∃ a c, r = .returned (.slice a n c) ∧ KRow base n K (.slice a n c) u') ∧ u' = u := by
  obtain ⟨a, c, x0, hr⟩ := h.len
  clear h
  have HR := Lib.hid hr
  clear hr
  go_enter Try.func24, Try.ntmps24
  go_wp2_with fail
  go_ret
  exact ⟨⟨a, c, rfl, HR.out⟩, rfl⟩
theorem pall12_nil (u : World) : Calls Try.prog 24 #[.pointer none] u fun r u' => r = .returned (.slice none 0 0) ∧ u' = u := by
  go_enter Try.func24, Try.ntmps24
  go_wp2_with fail
  go_ret
  exact ⟨rfl, rfl⟩

set_option maxHeartbeats 1600000 in
theorem puse12_any (h : PFm base P n K S u) (hn : n ≤ 1024) (i : Int) : Calls Try.prog 20 #[.pointer (some ⟨P, 0, none⟩), .int .i64 i] u fun r u' => r = .returned (.int .i64 (useE n K i)) ∧ Post12 PFm base P n (useF n K i) S u u' := by
  have R := Lib.hid h
  have H := Lib.hid (pat12_any h hn i)
  unfold inE at H
  clear h
  go_enter Try.func20, Try.ntmps20
  by_cases hi : inF n i
  · rw [if_pos hi] at H
    obtain ⟨k, rfl⟩ : ∃ k : Nat, i = (k : Int) := ⟨i.toNat, by have := hi.1; omega⟩
    have hk : k < n := by have := hi.2; omega
    have hk1 : (k : Int) < (n : Int) := by omega
    have hk2 : (0 : Int) ≤ (k : Int) := by omega
    obtain ⟨b, c, x0, x1, xf, hput⟩ := R.out.look hk
    have HP := Lib.hid (hput 1 (by omega))
    change Hid (PFm _ _ _ _ _ (u.setCell ⟨b, k, none⟩ (.int .i64 1)) ∧ KpS S u (u.setCell ⟨b, k, none⟩ (.int .i64 1))) at HP
    clear hput
    by_cases hz : K k = 0
    · have E1 : Hid (useE n K (k : Int) = 0) := Lib.hid (by unfold useE; rw [if_pos hi, Int.toNat_natCast, if_pos hz])
      have E2 : Hid (useF n K (k : Int) = fupd K k 1) := Lib.hid (by unfold useF; rw [if_pos hi, Int.toNat_natCast, if_pos hz])
      rw [hz] at x1
      clear hi hk hz
      go_wp2_with fail
      refine (H.out).mono ?_
      rintro e w1 ⟨rfl, hw⟩
      rw [hw]
      clear hw w1
      go_wp2_with fail
      go_ret
      exact ⟨by rw [E1.out]; rfl, by rw [E2.out]; exact HP.out.1.post HP.out.2⟩
    · have E1 : Hid (useE n K (k : Int) = 10) := Lib.hid (by unfold useE; rw [if_pos hi, Int.toNat_natCast, if_neg hz])
      have E2 : Hid (useF n K (k : Int) = K) := Lib.hid (by unfold useF; rw [if_pos hi, Int.toNat_natCast, if_neg hz])
      have dz : (((K k : Nat) : Int) != 0) = true := by simp; omega
      clear hi hk
      generalize ((K k : Nat) : Int) = q at *
      go_wp2_with fail
      refine (H.out).mono ?_
      rintro e w1 ⟨rfl, hw⟩
      rw [hw]
      clear hw w1
      go_wp2_with fail
      go_ret
      exact ⟨by rw [E1.out]; rfl, by rw [E2.out]; exact R.out.post (KpS.refl _ _)⟩
  · have E1 : Hid (useE n K i = 3) := Lib.hid (by unfold useE; rw [if_neg hi])
    have E2 : Hid (useF n K i = K) := Lib.hid (by unfold useF; rw [if_neg hi])
    rw [if_neg hi] at H
    clear hi
    go_wp2_with fail
    refine (H.out).mono ?_
    rintro e w1 ⟨rfl, hw⟩
    rw [hw]
    clear hw w1
    go_wp2_with fail
    go_ret
    exact ⟨by rw [E1.out]; rfl, by rw [E2.out]; exact R.out.post (KpS.refl _ _)⟩
theorem puse12_nil (i : Int) (u : World) : Calls Try.prog 20 #[.pointer none, .int .i64 i] u fun r u' => r = .returned (.int .i64 1) ∧ Below u.heap.size u u' := by
  have H := Lib.hid (pat12_nil i u)
  go_enter Try.func20, Try.ntmps20
  go_wp2_with fail
  refine (H.out).mono ?_
  rintro e w1 ⟨rfl, hw⟩
  rw [hw]
  clear hw w1
  go_wp2_with fail
  go_ret
  exact ⟨rfl, Below.refl _ _⟩

set_option maxHeartbeats 1600000 in
theorem pleave12_any (h : PFm base P n K S u) (hn : n ≤ 1024) (i : Int) : Calls Try.prog 17 #[.pointer (some ⟨P, 0, none⟩), .int .i64 i] u fun r u' => r = .returned (.int .i64 (leaveE n K i)) ∧ Post12 PFm base P n (leaveF n K i) S u u' := by
  have R := Lib.hid h
  have H := Lib.hid (pat12_any h hn i)
  unfold inE at H
  clear h
  go_enter Try.func17, Try.ntmps17
  by_cases hi : inF n i
  · rw [if_pos hi] at H
    obtain ⟨k, rfl⟩ : ∃ k : Nat, i = (k : Int) := ⟨i.toNat, by have := hi.1; omega⟩
    have hk : k < n := by have := hi.2; omega
    have hk1 : (k : Int) < (n : Int) := by omega
    have hk2 : (0 : Int) ≤ (k : Int) := by omega
    obtain ⟨b, c, x0, x1, xf, hput⟩ := R.out.look hk
    have HP3 := Lib.hid (hput 3 (by omega))
    have HP0 := Lib.hid (hput 0 (by omega))
    change Hid (PFm _ _ _ _ _ (u.setCell ⟨b, k, none⟩ (.int .i64 3)) ∧ KpS S u (u.setCell ⟨b, k, none⟩ (.int .i64 3))) at HP3
    change Hid (PFm _ _ _ _ _ (u.setCell ⟨b, k, none⟩ (.int .i64 0)) ∧ KpS S u (u.setCell ⟨b, k, none⟩ (.int .i64 0))) at HP0
    clear hput
    by_cases hz : K k = 1
    · have E1 : Hid (leaveE n K (k : Int) = 0) := Lib.hid (by unfold leaveE; rw [if_pos hi, Int.toNat_natCast, if_pos (.inl hz)])
      have E2 : Hid (leaveF n K (k : Int) = fupd K k 3) := Lib.hid (by unfold leaveF; rw [if_pos hi, Int.toNat_natCast, if_pos hz])
      rw [hz] at x1
      clear hi hk hz
      go_wp2_with fail
      refine (H.out).mono ?_
      rintro e w1 ⟨rfl, hw⟩
      rw [hw]
      clear hw w1
      go_wp2_with fail
      go_ret
      exact ⟨by rw [E1.out]; rfl, by rw [E2.out]; exact HP3.out.1.post HP3.out.2⟩
    · by_cases hz2 : K k = 2
      · have E1 : Hid (leaveE n K (k : Int) = 0) := Lib.hid (by unfold leaveE; rw [if_pos hi, Int.toNat_natCast, if_pos (.inr hz2)])
        have E2 : Hid (leaveF n K (k : Int) = fupd K k 0) := Lib.hid (by unfold leaveF; rw [if_pos hi, Int.toNat_natCast, if_neg hz, if_pos hz2])
        rw [hz2] at x1
        clear hi hk hz hz2
        go_wp2_with fail
        refine (H.out).mono ?_
        rintro e w1 ⟨rfl, hw⟩
        rw [hw]
        clear hw w1
        go_wp2_with fail
        go_ret
        exact ⟨by rw [E1.out]; rfl, by rw [E2.out]; exact HP0.out.1.post HP0.out.2⟩
      · have E1 : Hid (leaveE n K (k : Int) = 9) := Lib.hid (by unfold leaveE; rw [if_pos hi, Int.toNat_natCast, if_neg (by rintro (c | c); exact hz c; exact hz2 c)])
        have E2 : Hid (leaveF n K (k : Int) = K) := Lib.hid (by unfold leaveF; rw [if_pos hi, Int.toNat_natCast, if_neg hz, if_neg hz2])
        have dz : (((K k : Nat) : Int) == 1) = false := by simp; omega
        have dz2 : (((K k : Nat) : Int) == 2) = false := by simp; omega
        clear hi hk
        generalize ((K k : Nat) : Int) = q at *
        go_wp2_with fail
        refine (H.out).mono ?_
        rintro e w1 ⟨rfl, hw⟩
        rw [hw]
        clear hw w1
        go_wp2_with fail
        go_ret
        exact ⟨by rw [E1.out]; rfl, by rw [E2.out]; exact R.out.post (KpS.refl _ _)⟩
  · have E1 : Hid (leaveE n K i = 3) := Lib.hid (by unfold leaveE; rw [if_neg hi])
    have E2 : Hid (leaveF n K i = K) := Lib.hid (by unfold leaveF; rw [if_neg hi])
    rw [if_neg hi] at H
    clear hi
    go_wp2_with fail
    refine (H.out).mono ?_
    rintro e w1 ⟨rfl, hw⟩
    rw [hw]
    clear hw w1
    go_wp2_with fail
    go_ret
    exact ⟨by rw [E1.out]; rfl, by rw [E2.out]; exact R.out.post (KpS.refl _ _)⟩
theorem pleave12_nil (i : Int) (u : World) : Calls Try.prog 17 #[.pointer none, .int .i64 i] u fun r u' => r = .returned (.int .i64 1) ∧ Below u.heap.size u u' := by
  have H := Lib.hid (pat12_nil i u)
  go_enter Try.func17, Try.ntmps17
  go_wp2_with fail
  refine (H.out).mono ?_
  rintro e w1 ⟨rfl, hw⟩
  rw [hw]
  clear hw w1
  go_wp2_with fail
  go_ret
  exact ⟨rfl, Below.refl _ _⟩

set_option maxHeartbeats 1600000 in
theorem pfresh12_any (h : PFm base P n K S u) (hn : n ≤ 1024) (i : Int) : Calls Try.prog 15 #[.pointer (some ⟨P, 0, none⟩), .int .i64 i] u fun r u' => r = .returned (.bool (decide (inF n i ∧ K i.toNat = 2))) ∧ Below u.heap.size u u' := by
  have R := Lib.hid h
  have H := Lib.hid (pat12_any h hn i)
  unfold inE at H
  clear h
  go_enter Try.func15, Try.ntmps15
  by_cases hi : inF n i
  · rw [if_pos hi] at H
    obtain ⟨k, rfl⟩ : ∃ k : Nat, i = (k : Int) := ⟨i.toNat, by have := hi.1; omega⟩
    have hk : k < n := by have := hi.2; omega
    have hk1 : (k : Int) < (n : Int) := by omega
    have hk2 : (0 : Int) ≤ (k : Int) := by omega
    obtain ⟨b, c, x0, x1, xf, hput⟩ := R.out.look hk
    clear hput
    have E : Hid (decide (inF n (k : Int) ∧ K (k : Int).toNat = 2) = decide (K k = 2)) := Lib.hid (by rw [Int.toNat_natCast]; simp [hi])
    by_cases hz : K k = 2
    · have E2 : Hid (decide (K k = 2) = true) := Lib.hid (by simp [hz])
      rw [hz] at x1
      clear hi hk hz
      go_wp2_with fail
      refine (H.out).mono ?_
      rintro e w1 ⟨rfl, hw⟩
      rw [hw]
      clear hw w1
      go_wp2_with fail
      go_ret
      exact ⟨by rw [E.out, E2.out]; rfl, Below.refl _ _⟩
    · have E2 : Hid (decide (K k = 2) = false) := Lib.hid (by simp [hz])
      have dz : (((K k : Nat) : Int) == 2) = false := by simp; omega
      clear hi hk hz
      generalize ((K k : Nat) : Int) = q at *
      go_wp2_with fail
      refine (H.out).mono ?_
      rintro e w1 ⟨rfl, hw⟩
      rw [hw]
      clear hw w1
      go_wp2_with fail
      go_ret
      exact ⟨by rw [E.out, E2.out]; rfl, Below.refl _ _⟩
  · have E : Hid (decide (inF n i ∧ K i.toNat = 2) = false) := Lib.hid (by simp [hi])
    rw [if_neg hi] at H
    clear hi
    go_wp2_with fail
    refine (H.out).mono ?_
    rintro e w1 ⟨rfl, hw⟩
    rw [hw]
    clear hw w1
    go_wp2_with fail
    go_ret
    exact ⟨by rw [E.out]; rfl, Below.refl _ _⟩
theorem pfresh12_nil (i : Int) (u : World) : Calls Try.prog 15 #[.pointer none, .int .i64 i] u fun r u' => r = .returned (.bool false) ∧ Below u.heap.size u u' := by
  have H := Lib.hid (pat12_nil i u)
  go_enter Try.func15, Try.ntmps15
  go_wp2_with fail
  refine (H.out).mono ?_
  rintro e w1 ⟨rfl, hw⟩
  rw [hw]
  clear hw w1
  go_wp2_with fail
  go_ret
  exact ⟨rfl, Below.refl _ _⟩
end

end Go.Proofs.Ytbjmdejnipleoaa
