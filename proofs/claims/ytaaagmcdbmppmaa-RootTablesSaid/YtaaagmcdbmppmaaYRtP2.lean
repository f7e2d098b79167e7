/- The program's root: which roots may be. -/
import Derived.BigQuiet
import Derived.Test.YtaaagmcdbmppmaaYRtP1
import Derived.Test.YtaaagmcdbmppmaaYRtLaw0
namespace Go.Proofs.Ytaaagmcdbmppmaa
open Go.RowKit Go.Deep
set_option linter.unusedVariables false
set_option linter.unusedSimpArgs false
set_option maxRecDepth 100000

/-- the first j parts are pages, and no two of them the same -/
def GoodN (f : Nat → Int) (j : Nat) : Prop := (∀ i, i < j → 0 ≤ f i ∧ f i ≤ 1023) ∧ ∀ i k, i < k → k < j → f i ≠ f k
def MayR (lg : Int) (l : List Int) : Prop := 0 ≤ lg ∧ lg ≤ 512 ∧ (l.length : Int) = needR lg ∧ GoodN (fun i => l.getD i 0) l.length
theorem goodN_iff (l : List Int) : GoodN (fun i => l.getD i 0) l.length ↔ l.Pairwise (· ≠ ·) ∧ ∀ x ∈ l, 0 ≤ x ∧ x ≤ 1023 := by
  have e : ∀ i (h : i < l.length), l.getD i 0 = l[i] := fun i h => by rw [List.getD_eq_getElem?_getD, List.getElem?_eq_getElem h]; rfl
  constructor
  · rintro ⟨h1, h2⟩
    refine ⟨List.pairwise_iff_getElem.2 fun i j hi hj hij => ?_, fun x hx => ?_⟩
    · have := h2 i j hij hj
      simp only [e i hi, e j hj] at this
      exact this
    · obtain ⟨i, hi, rfl⟩ := List.getElem_of_mem hx
      have := h1 i hi
      simp only [e i hi] at this
      exact this
  · rintro ⟨h1, h2⟩
    refine ⟨fun i hi => ?_, fun i k hik hk => ?_⟩
    · show 0 ≤ l.getD i 0 ∧ l.getD i 0 ≤ 1023
      rw [e i hi]; exact h2 _ (List.getElem_mem hi)
    · show l.getD i 0 ≠ l.getD k 0
      rw [e i (by omega), e k hk]
      exact List.pairwise_iff_getElem.1 h1 i k (by omega) hk hik
theorem rightR_iff (r : Rt) : RightR r ↔ (1 ≤ r.ep ∧ r.ep ≤ 1099511627776) ∧ MayR r.lg r.parts := by
  unfold RightR MayR
  rw [goodN_iff]
  constructor
  · rintro ⟨a, b, c, d, e, f, g⟩; exact ⟨⟨c, d⟩, e, f, g, a, b⟩
  · rintro ⟨⟨c, d⟩, e, f, g, a, b⟩; exact ⟨a, b, c, d, e, f, g⟩
instance (lg : Int) (l : List Int) : Decidable (MayR lg l) := by
  unfold MayR
  rw [goodN_iff]
  infer_instance
set_option maxHeartbeats 6400000 in
theorem pmayR_any (ep lg : Int) (l : List Int) (v : Value) (u : World) (hlg : -9223372036854775808 ≤ lg ∧ lg ≤ 9223372036854775807) (hl : l.length ≤ 1048576) (hv : LstI l v u) :
    Calls Try.prog 21 #[rtV ep lg v] u fun e w' => e = .returned (.bool (decide (MayR lg l))) ∧ Below u.heap.size u w' := by
  obtain ⟨ao, cap, rfl, hc1, hc2, hA⟩ := hv
  have X1 := Lib.hid (heap_alloc_new u (.cells #[.int .i64 ep, .int .i64 lg, .slice ao l.length cap] 29))
  have B1 := Lib.hid (balloc u (.cells #[.int .i64 ep, .int .i64 lg, .slice ao l.length cap] 29))
  have A1 : Hid (0 < l.length → ∃ b o, ao = some ⟨b, o, none⟩ ∧ At 1 (gW fun i => l.getD i 0) l.length b o (u.alloc (.cells #[.int .i64 ep, .int .i64 lg, .slice ao l.length cap] 29))) := Lib.hid (fun h => by
    obtain ⟨b, o, e, hb⟩ := hA h
    exact ⟨b, o, e, hb.below (balloc u _)⟩)
  obtain ⟨C, hC⟩ : ∃ C, C = u.heap.size := ⟨_, rfl⟩
  rw [← hC] at X1
  clear hA
  have HN := Lib.hid (fun w => pneed_any lg hlg w)
  have HP := Lib.hid pisPage_any
  have E : Hid (∀ b : Bool, (b = true ↔ MayR lg l) → decide (MayR lg l) = b) := Lib.hid (fun b hb => by
    cases b
    · exact decide_eq_false fun h => by have := hb.2 h; simp at this
    · exact decide_eq_true (hb.1 rfl))
  unfold rtV
  go_enter Try.func21, Try.ntmps21
  go_upto_region 1 with fail
  rw [← hC]
  generalize u.alloc (.cells #[.int .i64 ep, .int .i64 lg, .slice ao l.length cap] 29) = w1 at *
  clear hC
  have x1 : w1.cell? ⟨C, 1, none⟩ = some (.int .i64 lg) := by rw [Lib.cell_of_heap X1.out]; rfl
  have x2 : w1.cell? ⟨C, 2, none⟩ = some (.slice ao l.length cap) := by rw [Lib.cell_of_heap X1.out]; rfl
  by_cases h1 : lg < 0
  · have d1 : decide (lg < 0) = true := by simp [h1]
    have E1 := Lib.hid (E.out false ⟨fun h => by simp at h, fun h => absurd h.1 (by omega)⟩)
    clear h1
    go_quiet (fail)
    go_wp2_with fail
    go_ret
    exact ⟨by rw [E1.out]; rfl, bdrewN B1.out _⟩
  have d1 : decide (lg < 0) = false := by simp; omega
  by_cases h2 : 512 < lg
  · have d2 : decide (512 < lg) = true := by simp [h2]
    have E1 := Lib.hid (E.out false ⟨fun h => by simp at h, fun h => absurd h.2.1 (by omega)⟩)
    clear h1 h2
    go_quiet (fail)
    go_wp2_with fail
    go_ret
    exact ⟨by rw [E1.out]; rfl, bdrewN B1.out _⟩
  have d2 : decide (512 < lg) = false := by simp; omega
  go_region_held3 (fun w' => w'.cell? ⟨C, 1, none⟩ = some (.int .i64 lg) ∧ w'.cell? ⟨C, 2, none⟩ = some (.slice ao l.length cap)) (go_keep) (first
    | (go_at_call 17; refine (HN.out _).mono ?_; rintro e w9 ⟨rfl, rfl⟩))
  by_cases h3 : ¬ (l.length : Int) = needR lg
  · have d3 : ((l.length : Int) != needR lg) = true := by simp [h3]
    have E1 := Lib.hid (E.out false ⟨fun h => by simp at h, fun h => absurd h.2.2.1 h3⟩)
    clear h1 h2 h3
    go_wp2_with fail
    go_ret
    exact ⟨by rw [E1.out]; rfl, B1.out.drew⟩
  have h3 := Decidable.not_not.1 h3
  have d3 : ((l.length : Int) != needR lg) = false := by simp [h3]
  rw [d3]
  clear d3
  have H0 : Hid (0 ≤ lg ∧ lg ≤ 512 ∧ (l.length : Int) = needR lg) := Lib.hid ⟨by omega, by omega, h3⟩
  have B2 := Lib.hid (bthen B1.out (bdrew w1))
  have X2 := Lib.hid (heap_stays13 X1.out (bdrew w1))
  have A2 : Hid (0 < l.length → ∃ b o, ao = some ⟨b, o, none⟩ ∧ At 1 (gW fun i => l.getD i 0) l.length b o w1.drew) := Lib.hid (fun h => by
    obtain ⟨b, o, e, hb⟩ := A1.out h
    exact ⟨b, o, e, hb.below (bdrew w1)⟩)
  clear h1 h2 h3 x1 x2
  generalize World.drew w1 = w2 at *
  clear X1 A1 B1
  have x2 : w2.cell? ⟨C, 2, none⟩ = some (.slice ao l.length cap) := by rw [Lib.cell_of_heap X2.out]; rfl
  go_wp2_with fail
  go_loop [25] (fun i => ∃ j : Nat, j ≤ l.length ∧ i = .int .i64 j ∧ Hid (GoodN (fun i => l.getD i 0) j)) (fun i => l.length - (intOf i).toNat)
  case atStart => exact ⟨0, Nat.zero_le _, rfl, Lib.hid ⟨fun i hi => absurd hi (Nat.not_lt_zero _), fun i k _ hk => absurd hk (Nat.not_lt_zero _)⟩⟩
  case round =>
    obtain ⟨j, hj, rfl, HG⟩ := hrel
    by_cases hlt : j < l.length
    · obtain ⟨b, o, rfl, hA⟩ := A2.out (by omega)
      have hcell : w2.cell? ⟨b, o + j, none⟩ = some (.int .i64 (l.getD j 0)) := hA.one j hlt
      have hj2 : (j : Int) < (l.length : Int) := by omega
      have hj3 : (0 : Int) ≤ (j : Int) := by omega
      have hj4 : j ≤ l.length := by omega
      have hj5 : j ≤ cap := by omega
      have hj6 : (j : Int) ≤ (cap : Int) := by omega
      have HC : Hid (∀ w3, w3 = w2 → Calls Try.prog 34 #[.slice (some ⟨b, o, none⟩) j cap, .int .i64 (l.getD j 0)] w3 fun e w' => e = .returned (.bool (decide (∃ i, i < j ∧ l.getD i 0 = l.getD j 0))) ∧ w' = w3) := Lib.hid (fun w3 hw => by
        rw [hw]
        exact pcontains_any (fun i => l.getD i 0) j _ cap _ w2 (by omega) hj5 fun _ => ⟨b, o, rfl, hA.1, fun i hi => hA.2 i (by omega)⟩)
      have HG2 : Hid (GoodN (fun i => l.getD i 0) (j + 1) ↔ pgOk (l.getD j 0) = true ∧ ¬ ∃ i, i < j ∧ l.getD i 0 = l.getD j 0) := Lib.hid (by
        obtain ⟨g1, g2⟩ := HG.out
        unfold pgOk
        rw [decide_eq_true_iff]
        constructor
        · rintro ⟨k1, k2⟩
          exact ⟨k1 j (by omega), fun ⟨i, hi, he⟩ => k2 i j hi (by omega) he⟩
        · rintro ⟨k1, k2⟩
          refine ⟨fun i hi => ?_, fun i k hik hk => ?_⟩
          · rcases Nat.lt_succ_iff_lt_or_eq.1 hi with h | rfl
            · exact g1 i h
            · exact k1
          · rcases Nat.lt_succ_iff_lt_or_eq.1 hk with h | rfl
            · exact g2 i k hik h
            · exact fun he => k2 ⟨i, hik, he⟩)
      have HB : Hid (GoodN (fun i => l.getD i 0) l.length → GoodN (fun i => l.getD i 0) (j + 1)) := Lib.hid (fun h => ⟨fun i hi => h.1 i (by omega), fun i k hik hk => h.2 i k hik (by omega)⟩)
      have HL := Lib.hid hlt
      clear hA HG
      generalize l.getD j 0 = x at *
      have d4 : decide ((j : Int) < (l.length : Int)) = true := by simp [hlt]
      clear hlt
      cases hpg : pgOk x
      · have E1 := Lib.hid (E.out false ⟨fun h => by simp at h, fun h => absurd (HG2.out.1 (HB.out h.2.2.2)).1 (by simp [hpg])⟩)
        have HPX : Hid (∀ w, Calls Try.prog 33 #[.int .i64 x] w fun e w' => e = .returned (.bool false) ∧ w' = w) := Lib.hid (fun w => by have := HP.out x w; rw [hpg] at this; exact this)
        clear hpg
        go_wp2_with fail
        refine (HPX.out _).mono ?_
        rintro e w9 ⟨rfl, hw⟩
        rw [hw]
        clear hw w9
        go_wp2_with fail
        go_ret
        exact ⟨by rw [E1.out]; rfl, B2.out⟩
      have HPX : Hid (∀ w, Calls Try.prog 33 #[.int .i64 x] w fun e w' => e = .returned (.bool true) ∧ w' = w) := Lib.hid (fun w => by have := HP.out x w; rw [hpg] at this; exact this)
      by_cases hex : ∃ i, i < j ∧ l.getD i 0 = x
      · have E1 := Lib.hid (E.out false ⟨fun h => by simp at h, fun h => absurd hex (HG2.out.1 (HB.out h.2.2.2)).2⟩)
        rw [decide_eq_true hex] at HC
        clear hpg hex
        go_wp2_with fail
        refine (HPX.out _).mono ?_
        rintro e w9 ⟨rfl, hw⟩
        rw [hw]
        clear hw w9
        go_wp2_with fail
        refine (HC.out _ rfl).mono ?_
        rintro e w9 ⟨rfl, hw⟩
        rw [hw]
        clear hw w9
        go_wp2_with fail
        go_ret
        exact ⟨by rw [E1.out]; rfl, B2.out⟩
      · have HG3 := Lib.hid (HG2.out.2 ⟨hpg, hex⟩)
        rw [decide_eq_false hex] at HC
        clear hpg hex
        go_wp2_with fail
        refine (HPX.out _).mono ?_
        rintro e w9 ⟨rfl, hw⟩
        rw [hw]
        clear hw w9
        go_wp2_with fail
        refine (HC.out _ rfl).mono ?_
        rintro e w9 ⟨rfl, hw⟩
        rw [hw]
        clear hw w9
        go_wp2_with fail
        go_round
        case rel => have := HL.out; exact ⟨j + 1, by omega, by go_num, HG3⟩
        case measure => have := HL.out; simp [intOf]; omega
    · obtain rfl : j = l.length := by omega
      have d4 : decide ((l.length : Int) < (l.length : Int)) = false := by simp
      have E1 := Lib.hid (E.out true ⟨fun _ => ⟨H0.out.1, H0.out.2.1, H0.out.2.2, HG.out⟩, fun _ => rfl⟩)
      go_wp2_with fail
      go_ret
      exact ⟨by rw [E1.out]; rfl, B2.out⟩

end Go.Proofs.Ytaaagmcdbmppmaa
