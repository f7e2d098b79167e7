/- The program's map of pages: first, take, Take; counter, Count, Free, List. -/
import Derived.Test.YtbjmdejnipleoaaFmP1
namespace Go.Proofs.Ytbjmdejnipleoaa
open Go.RowKit Go.Deep
set_option linter.unusedVariables false
set_option linter.unusedSimpArgs false
set_option maxRecDepth 100000

section
variable {base P n : Nat} {K : Nat → Nat} {S T : Nat → Bool} {u u2 : World}
theorem KRow.look {a : Option Addr} {c i : Nat} (h : KRow base n K (.slice a n c) u) (hi : i < n) : ∃ b, a = some ⟨b, 0, none⟩ ∧ u.cell? ⟨b, i, none⟩ = some (.int .i64 (K i : Int)) := by
  rcases h with ⟨rfl, _⟩ | ⟨h0, b, c2, e, h1, hr⟩
  · omega
  · simp only [Value.slice.injEq, true_and] at e
    obtain ⟨rfl, rfl⟩ := e
    exact ⟨b, rfl, hr.cell1 hi⟩
def firstI (n : Nat) (K : Nat → Nat) : Int := if firstN K n < n then (firstN K n : Int) else -1
set_option maxHeartbeats 1600000 in
theorem pindex12_any {a : Option Addr} {c : Nat} (h : KRow base n K (.slice a n c) u) (hn : n ≤ 1024) : Calls Try.prog 35 #[.slice a n c, .int .i64 0] u fun r u' => r = .returned (.int .i64 (firstI n K)) ∧ u' = u := by
  have R := Lib.hid h
  clear h
  go_enter Try.func35, Try.ntmps35
  go_wp2_with fail
  go_loopw [8] (fun i wr => ∃ j : Nat, j ≤ n ∧ i = .int .i64 j ∧ wr = u ∧ Hid (∀ q, q < j → K q ≠ 0)) (fun i _ => n - (intOf i).toNat)
  case atStart => exact ⟨0, Nat.zero_le _, rfl, rfl, Lib.hid (fun q hq => absurd hq (Nat.not_lt_zero q))⟩
  case round =>
    obtain ⟨j, hj, rfl, hw, HALL⟩ := hrel
    rw [hw]
    clear hw wr
    by_cases hlt : j < n
    · have hj1 : (j : Int) < (n : Int) := by omega
      have hj2 : (0 : Int) ≤ (j : Int) := by omega
      have d1 : decide ((j : Int) < (n : Int)) = true := by simp [hlt]
      obtain ⟨b, ha, x1⟩ := R.out.look hlt
      subst ha
      by_cases hz : K j = 0
      · have E1 : Hid (firstI n K = (j : Int)) := Lib.hid (by
          have := firstN_of hlt hz HALL.out
          unfold firstI
          rw [this, if_pos hlt])
        rw [hz] at x1
        clear hz
        go_wp2_with fail
        go_ret
        exact ⟨by rw [E1.out]; rfl, rfl⟩
      · have dz : ((0 : Int) == ((K j : Nat) : Int)) = false := by simp; omega
        have HZ := Lib.hid hz
        clear hz
        generalize ((K j : Nat) : Int) = q at *
        go_wp2_with fail
        go_roundw
        case rel => exact ⟨j + 1, hlt, by go_num, trivial, Lib.hid (fun q hq => by
          rcases Nat.lt_or_ge q j with c | c
          · exact HALL.out q c
          · obtain rfl : q = j := by omega
            exact HZ.out)⟩
        case measure => simp [intOf]; omega
    · obtain rfl : j = n := by omega
      have d1 : decide ((j : Int) < (j : Int)) = false := by simp
      have E1 : Hid (firstI j K = -1) := Lib.hid (by
        unfold firstI
        rw [firstN_none HALL.out, if_neg (by omega)])
      go_wp2_with fail
      go_ret
      exact ⟨by rw [E1.out]; rfl, rfl⟩
theorem pfirst12_any (h : PFm base P n K S u) (hn : n ≤ 1024) : Calls Try.prog 28 #[.pointer (some ⟨P, 0, none⟩)] u fun r u' => r = .returned (.int .i64 (firstI n K)) ∧ u' = u := by
  obtain ⟨a, c, x0, hr⟩ := h.len
  have H := Lib.hid (pindex12_any hr hn)
  clear h hr
  go_enter Try.func28, Try.ntmps28
  go_wp2_with fail
  refine (H.out).mono ?_
  rintro e w1 ⟨rfl, hw⟩
  rw [hw]
  clear hw w1
  go_wp2_with fail
  go_ret
  exact ⟨rfl, rfl⟩
set_option maxHeartbeats 1600000 in
theorem ptakef_any (h : PFm base P n K S u) (hn : n ≤ 1024) : Calls Try.prog 27 #[.pointer (some ⟨P, 0, none⟩), .func (.func 28) #[.pointer (some ⟨P, 0, none⟩)] #[]] u fun r u' => r = .returned (.tuple #[.int .i64 (takeI n K), .int .i64 (takeE n K)]) ∧ Post12 PFm base P n (takeF n K) S u u' := by
  have R := Lib.hid h
  have H := Lib.hid (pfirst12_any h hn)
  unfold firstI at H
  clear h
  by_cases hf : firstN K n < n
  · rw [if_pos hf] at H
    have E1 : Hid (takeE n K = 0) := Lib.hid (by unfold takeE; rw [if_pos hf])
    have E2 : Hid (takeI n K = (firstN K n : Int)) := Lib.hid (by unfold takeI; rw [if_pos hf])
    have E3 : Hid (takeF n K = fupd K (firstN K n) 2) := Lib.hid (by unfold takeF; rw [if_pos hf])
    obtain ⟨b, c, x0, x1, xf, hput⟩ := R.out.look hf
    have HP := Lib.hid (hput 2 (by omega))
    change Hid (PFm _ _ _ _ _ (u.setCell ⟨b, firstN K n, none⟩ (.int .i64 2)) ∧ KpS S u (u.setCell ⟨b, firstN K n, none⟩ (.int .i64 2))) at HP
    clear hput
    generalize hk : firstN K n = k at *
    have hk1 : (k : Int) < (n : Int) := by omega
    have hk2 : (0 : Int) ≤ (k : Int) := by omega
    have d1 : decide ((k : Int) < 0) = false := decide_eq_false (by omega)
    clear hk
    go_enter Try.func27, Try.ntmps27
    go_wp2_with fail
    refine (H.out).mono ?_
    rintro e w1 ⟨rfl, hw⟩
    rw [hw]
    clear hw w1
    go_wp2_with fail
    go_ret2
    exact ⟨by rw [E1.out, E2.out]; rfl, by rw [E3.out]; exact HP.out.1.post HP.out.2⟩
  · rw [if_neg hf] at H
    have E1 : Hid (takeE n K = 11) := Lib.hid (by unfold takeE; rw [if_neg hf])
    have E2 : Hid (takeI n K = 0) := Lib.hid (by unfold takeI; rw [if_neg hf])
    have E3 : Hid (takeF n K = K) := Lib.hid (by unfold takeF; rw [if_neg hf])
    go_enter Try.func27, Try.ntmps27
    go_wp2_with fail
    refine (H.out).mono ?_
    rintro e w1 ⟨rfl, hw⟩
    rw [hw]
    clear hw w1
    go_wp2_with fail
    go_ret2
    exact ⟨by rw [E1.out, E2.out]; rfl, by rw [E3.out]; exact R.out.post (KpS.refl _ _)⟩
theorem ptake12_any (h : PFm base P n K S u) (hn : n ≤ 1024) : Calls Try.prog 19 #[.pointer (some ⟨P, 0, none⟩)] u fun r u' => r = .returned (.tuple #[.int .i64 (takeI n K), .int .i64 (takeE n K)]) ∧ Post12 PFm base P n (takeF n K) S u u' := by
  have hmf : ∀ (fn : Fn) (first cap : Array Value) (w : World), (Instr.makeFunc fn first cap).run Try.prog w = .ok (.func fn first cap) w := fun _ _ _ _ => rfl
  have H := Lib.hid (ptakef_any h hn)
  clear h
  generalize takeI n K = ti at *
  generalize takeE n K = te at *
  go_enter Try.func19, Try.ntmps19
  go_wp2_with fail
  refine (H.out).mono ?_
  rintro e w1 ⟨rfl, hp⟩
  have HP := Lib.hid hp
  clear hp
  go_wp2_with fail
  go_ret2
  exact ⟨rfl, HP.out⟩
theorem ptake12_nil (u : World) : Calls Try.prog 19 #[.pointer none] u fun r u' => r = .returned (.tuple #[.int .i64 0, .int .i64 1]) ∧ Below u.heap.size u u' := by
  go_enter Try.func19, Try.ntmps19
  go_wp2_with fail
  go_ret2
  exact ⟨rfl, Below.refl _ _⟩

/-! ### counting -/
def fvK (B : Nat) : Value := .func (.func 34) #[] #[.pointer (some ⟨B, 0, none⟩)]
theorem pcounter_any (p : Option Addr) (u : World) : Calls Try.prog 23 #[.pointer p] u fun r u' => r = .returned (fvK u.heap.size) ∧ u'.heap[u.heap.size]? = some (.cells #[.pointer p] 23 (0, 0)) ∧ Below u.heap.size u u' := by
  have hmf : ∀ (fn : Fn) (first cap : Array Value) (w : World), (Instr.makeFunc fn first cap).run Try.prog w = .ok (.func fn first cap) w := fun _ _ _ _ => rfl
  have X1 := Lib.hid (heap_alloc_new u (.cells #[.pointer p] 23))
  have B1 := Lib.hid (balloc u (.cells #[.pointer p] 23))
  go_enter Try.func23, Try.ntmps23
  go_wp2_with fail
  go_ret
  exact ⟨rfl, X1.out, B1.out⟩
set_option maxHeartbeats 1600000 in
theorem pkind_any {B : Nat} (h : PFm base P n K S u) (hn : n ≤ 1024) (hb : u.heap[B]? = some (.cells #[.pointer (some ⟨P, 0, none⟩)] 23 (0, 0))) (k : Nat) : Calls Try.prog 34 #[.int .i64 (k : Int), .pointer (some ⟨B, 0, none⟩)] u fun r u' => r = .returned (.int .i64 (cntF K k n : Int)) ∧ u' = u := by
  have x0 : u.cell? ⟨B, 0, none⟩ = some (.pointer (some ⟨P, 0, none⟩)) := by rw [Lib.cell_of_heap hb]; rfl
  have H := Lib.hid (pall12_any h)
  have HN := Lib.hid hn
  clear h hb
  go_enter Try.func34, Try.ntmps34
  go_wp2_with fail
  refine (H.out).mono ?_
  rintro e w1 ⟨⟨a, c, rfl, hr⟩, hw⟩
  rw [hw] at hr ⊢
  clear hw w1
  have R := Lib.hid hr
  clear hr
  go_wp2_with fail
  go_loopw [4, 10] (fun v i wr => ∃ j : Nat, j ≤ n ∧ i = .int .i64 j ∧ v = .int .i64 (cntF K k j : Int) ∧ wr = u) (fun _ i _ => n - (intOf i).toNat)
  case atStart => exact ⟨0, Nat.zero_le _, rfl, rfl, rfl⟩
  case round =>
    obtain ⟨j, hj, rfl, rfl, hw⟩ := hrel
    rw [hw]
    clear hw wr
    by_cases hlt : j < n
    · have hj1 : (j : Int) < (n : Int) := by omega
      have hj2 : (0 : Int) ≤ (j : Int) := by omega
      have d1 : decide ((j : Int) < (n : Int)) = true := by simp [hlt]
      obtain ⟨b, ha, x1⟩ := R.out.look hlt
      subst ha
      have hle := cntF_le K k j
      by_cases hz : K j = k
      · have E : Hid (cntF K k (j + 1) = cntF K k j + 1) := Lib.hid (by rw [cntF_succ, if_pos hz])
        have dz : (((K j : Nat) : Int) == (k : Int)) = true := by simp [hz]
        clear hz
        generalize ((K j : Nat) : Int) = q at *
        generalize cntF K k j = m at *
        go_wp2_with fail
        go_roundw
        case rel => exact ⟨j + 1, hlt, by go_num, by rw [E.out]; go_num, trivial⟩
        case measure => simp [intOf]; omega
      · have E : Hid (cntF K k (j + 1) = cntF K k j) := Lib.hid (by rw [cntF_succ, if_neg hz, Nat.add_zero])
        have dz : (((K j : Nat) : Int) == (k : Int)) = false := by simp; omega
        clear hz
        generalize ((K j : Nat) : Int) = q at *
        generalize cntF K k j = m at *
        go_wp2_with fail
        go_roundw
        case rel => exact ⟨j + 1, hlt, by go_num, by rw [E.out], trivial⟩
        case measure => simp [intOf]; omega
    · obtain rfl : j = n := by omega
      have d1 : decide ((j : Int) < (j : Int)) = false := by simp
      go_wp2_with fail
      go_ret
      exact ⟨rfl, rfl⟩
theorem pkind_nil {B : Nat} (hb : u.heap[B]? = some (.cells #[.pointer none] 23 (0, 0))) (k : Nat) : Calls Try.prog 34 #[.int .i64 (k : Int), .pointer (some ⟨B, 0, none⟩)] u fun r u' => r = .returned (.int .i64 0) ∧ u' = u := by
  have x0 : u.cell? ⟨B, 0, none⟩ = some (.pointer none) := by rw [Lib.cell_of_heap hb]; rfl
  have H := Lib.hid (pall12_nil u)
  clear hb
  go_enter Try.func34, Try.ntmps34
  go_wp2_with fail
  refine (H.out).mono ?_
  rintro e w1 ⟨rfl, hw⟩
  rw [hw]
  clear hw w1
  go_wp2_with fail
  go_loopw [4, 10] (fun v i wr => v = .int .i64 0 ∧ i = .int .i64 0 ∧ wr = u) (fun _ i _ => 0)
  case atStart => exact ⟨rfl, rfl, rfl⟩
  case round =>
    obtain ⟨rfl, rfl, hw⟩ := hrel
    rw [hw]
    clear hw wr
    go_wp2_with fail
    go_ret
    exact ⟨rfl, rfl⟩
/-- a map's pages counted, whatever counts them -/
theorem pcount_core (p : Option Addr) (f : Nat → Nat) (u : World) (H : ∀ B u2, u2.heap[B]? = some (.cells #[.pointer p] 23 (0, 0)) → Below u.heap.size u u2 → ∀ k : Nat, Calls Try.prog 34 #[.int .i64 (k : Int), .pointer (some ⟨B, 0, none⟩)] u2 fun r u' => r = .returned (.int .i64 (f k : Int)) ∧ u' = u2) :
    Calls Try.prog 10 #[.pointer p] u fun r u' => r = .returned (.tuple #[.int .i64 (f 0 : Int), .int .i64 (f 1 : Int), .int .i64 (f 2 : Int), .int .i64 (f 3 : Int)]) ∧ Below u.heap.size u u' := by
  have HC := Lib.hid (pcounter_any p u)
  have HH := Lib.hid H
  clear H
  go_enter Try.func10, Try.ntmps10
  go_wp2_with fail
  refine (HC.out).mono ?_
  rintro e w1 ⟨rfl, hb, hB⟩
  have B1 := Lib.hid hB
  have H0 := Lib.hid (HH.out _ _ hb hB 0)
  have H1 := Lib.hid (HH.out _ _ hb hB 1)
  have H2 := Lib.hid (HH.out _ _ hb hB 2)
  have H3 := Lib.hid (HH.out _ _ hb hB 3)
  change Hid (Calls _ _ #[.int .i64 0, _] _ _) at H0
  change Hid (Calls _ _ #[.int .i64 1, _] _ _) at H1
  change Hid (Calls _ _ #[.int .i64 2, _] _ _) at H2
  change Hid (Calls _ _ #[.int .i64 3, _] _ _) at H3
  clear hb hB HH
  unfold fvK
  go_wp2_with fail
  refine (H0.out).mono ?_
  rintro e w2 ⟨rfl, hw⟩
  rw [hw]
  clear hw w2
  go_wp2_with fail
  refine (H1.out).mono ?_
  rintro e w2 ⟨rfl, hw⟩
  rw [hw]
  clear hw w2
  go_wp2_with fail
  refine (H2.out).mono ?_
  rintro e w2 ⟨rfl, hw⟩
  rw [hw]
  clear hw w2
  go_wp2_with fail
  refine (H3.out).mono ?_
  rintro e w2 ⟨rfl, hw⟩
  rw [hw]
  clear hw w2
  go_wp2_with fail
  exact bodyPost_ret (v := .tuple #[.int .i64 (f 0 : Int), .int .i64 (f 1 : Int), .int .i64 (f 2 : Int), .int .i64 (f 3 : Int)]) (by simp [results, Try.results10, go_sem]) rfl ⟨rfl, B1.out⟩
theorem pfree_core (p : Option Addr) (f : Nat → Nat) (u : World) (H : ∀ B u2, u2.heap[B]? = some (.cells #[.pointer p] 23 (0, 0)) → Below u.heap.size u u2 → ∀ k : Nat, Calls Try.prog 34 #[.int .i64 (k : Int), .pointer (some ⟨B, 0, none⟩)] u2 fun r u' => r = .returned (.int .i64 (f k : Int)) ∧ u' = u2) :
    Calls Try.prog 14 #[.pointer p] u fun r u' => r = .returned (.int .i64 (f 0 : Int)) ∧ Below u.heap.size u u' := by
  have HC := Lib.hid (pcounter_any p u)
  have HH := Lib.hid H
  clear H
  go_enter Try.func14, Try.ntmps14
  go_wp2_with fail
  refine (HC.out).mono ?_
  rintro e w1 ⟨rfl, hb, hB⟩
  have B1 := Lib.hid hB
  have H0 := Lib.hid (HH.out _ _ hb hB 0)
  change Hid (Calls _ _ #[.int .i64 0, _] _ _) at H0
  clear hb hB HH
  unfold fvK
  go_wp2_with fail
  refine (H0.out).mono ?_
  rintro e w2 ⟨rfl, hw⟩
  rw [hw]
  clear hw w2
  go_wp2_with fail
  go_ret
  exact ⟨rfl, B1.out⟩
theorem pcount12_any (h : PFm base P n K S u) (hn : n ≤ 1024) : Calls Try.prog 10 #[.pointer (some ⟨P, 0, none⟩)] u fun r u' => r = .returned (.tuple #[.int .i64 (cntF K 0 n : Int), .int .i64 (cntF K 1 n : Int), .int .i64 (cntF K 2 n : Int), .int .i64 (cntF K 3 n : Int)]) ∧ Below u.heap.size u u' :=
  pcount_core _ (fun k => cntF K k n) u fun B u2 hb hB k => pkind_any (h.below hB) hn hb k
theorem pfree12_any (h : PFm base P n K S u) (hn : n ≤ 1024) : Calls Try.prog 14 #[.pointer (some ⟨P, 0, none⟩)] u fun r u' => r = .returned (.int .i64 (cntF K 0 n : Int)) ∧ Below u.heap.size u u' :=
  pfree_core _ (fun k => cntF K k n) u fun B u2 hb hB k => pkind_any (h.below hB) hn hb k
theorem pcount12_nil (u : World) : Calls Try.prog 10 #[.pointer none] u fun r u' => r = .returned (.tuple #[.int .i64 0, .int .i64 0, .int .i64 0, .int .i64 0]) ∧ Below u.heap.size u u' :=
  pcount_core none (fun _ => 0) u fun B u2 hb hB k => pkind_nil hb k
theorem pfree12_nil (u : World) : Calls Try.prog 14 #[.pointer none] u fun r u' => r = .returned (.int .i64 0) ∧ Below u.heap.size u u' :=
  pfree_core none (fun _ => 0) u fun B u2 hb hB k => pkind_nil hb k

/-! ### List -/
set_option maxHeartbeats 1600000 in
theorem plist12_any (h : PFm base P n K S u) (hn : n ≤ 1024) (k : Nat) : Calls Try.prog 12 #[.pointer (some ⟨P, 0, none⟩), .int .i64 (k : Int)] u fun r u' => ∃ v, r = .returned v ∧ NewL u.heap.size (listF K k n) v u' ∧ Below u.heap.size u u' := by
  obtain ⟨i0, hi0, hz0, hz1, hz2⟩ := info_parts infoInt12
  have H := Lib.hid (pall12_any h)
  clear h
  go_enter Try.func12, Try.ntmps12
  go_wp2_with fail
  refine (H.out).mono ?_
  rintro e w1 ⟨⟨a, c, rfl, hr⟩, hw⟩
  rw [hw] at hr ⊢
  clear hw w1
  have R := Lib.hid hr
  clear hr
  go_wp2_with fail
  go_loopw [5, 11] (fun v i wr => ∃ j : Nat, j ≤ n ∧ i = .int .i64 j ∧ Hid (wr.ownsRow u.heap.size 3 1 v (listF K k j).length (natV (listF K k j))) ∧ Hid (Below u.heap.size u wr)) (fun _ i _ => n - (intOf i).toNat)
  case atStart => exact ⟨0, Nat.zero_le _, rfl, Lib.hid (World.ownsRow_nil _ _ _ _), Lib.hid (Below.refl _ _)⟩
  case round =>
    obtain ⟨j, hj, rfl, HO, HB⟩ := hrel
    by_cases hlt : j < n
    · have hj1 : (j : Int) < (n : Int) := by omega
      have hj2 : (0 : Int) ≤ (j : Int) := by omega
      have d1 : decide ((j : Int) < (n : Int)) = true := by simp [hlt]
      obtain ⟨b, ha, x1⟩ := (R.out.below HB.out).look hlt
      subst ha
      by_cases hz : K j = k
      · have EL : Hid (listF K k (j + 1) = listF K k j ++ [j]) := Lib.hid (by simp only [listF]; rw [if_pos hz])
        have dz : (((K j : Nat) : Int) == (k : Int)) = true := by simp [hz]
        have hlen : (listF K k j).length ≤ 1024 := by have := cntF_le K k j; unfold cntF at this; omega
        have B1 := balloc wr (.cells #[.int .i64 (j : Int)] 3)
        have O1 := Lib.hid (own_below HO.out B1)
        have W1 := Lib.hid (HB.out.trans (B1.mono HB.out.size))
        have SZ := Lib.hid (Nat.le_trans HB.out.size B1.size)
        clear hz B1
        generalize ((K j : Nat) : Int) = q at *
        go_wp2_with (at_builtin; refine wpList_append_own _ rfl _ _ 31 rfl u.heap.size 3 i0 (.int .i64 0) 1 8 Try.underlying31 hi0 hz0 hz1 hz2 rfl (by decide) _ (listF K k j).length _ rfl O1.out ⟨wr.heap.size, 0, none⟩ 1 1 [.int .i64 (j : Int)] rfl rfl (lit_cells12 wr _) (by intro x hx; simp only [List.mem_cons, List.not_mem_nil, or_false] at hx; subst hx; rfl) (by unfold maxLen; omega) (by omega) SZ.out ?_)
        intro v4 w4 ho4 hg4 _
        have O4 : Hid (w4.ownsRow u.heap.size 3 1 v4 (listF K k (j + 1)).length (natV (listF K k (j + 1)))) := Lib.hid (by
          rw [EL.out, List.length_append, List.length_singleton]
          unfold natV at ho4 ⊢
          rw [List.map_append]
          exact ho4)
        have W4 := Lib.hid (W1.out.trans ((Below.refl _ _).grown hg4 SZ.out (fun g hg => (O1.out.lt g hg).1)))
        clear ho4 hg4 x1
        go_wp2_with fail
        go_roundw
        case rel => exact ⟨j + 1, hlt, by go_num, O4, W4⟩
        case measure => simp [intOf]; omega
      · have EL : Hid (listF K k (j + 1) = listF K k j) := Lib.hid (by simp only [listF]; rw [if_neg hz, List.append_nil])
        have dz : (((K j : Nat) : Int) == (k : Int)) = false := by simp; omega
        have O4 := HO
        rw [← EL.out] at O4
        clear hz
        generalize ((K j : Nat) : Int) = q at *
        go_wp2_with fail
        go_roundw
        case rel => exact ⟨j + 1, hlt, by go_num, O4, HB⟩
        case measure => simp [intOf]; omega
    · obtain rfl : j = n := by omega
      have d1 : decide ((j : Int) < (j : Int)) = false := by simp
      go_wp2_with fail
      go_ret
      exact ⟨_, rfl, NewL.of HO.out, HB.out⟩
theorem plist12_nil (k : Int) (u : World) : Calls Try.prog 12 #[.pointer none, .int .i64 k] u fun r u' => (∃ a c, r = .returned (.slice a 0 c)) ∧ Below u.heap.size u u' := by
  have H := Lib.hid (pall12_nil u)
  go_enter Try.func12, Try.ntmps12
  go_wp2_with fail
  refine (H.out).mono ?_
  rintro e w1 ⟨rfl, hw⟩
  rw [hw]
  clear hw w1
  go_wp2_with fail
  go_loopw [5, 11] (fun v i wr => v = .slice none 0 0 ∧ i = .int .i64 0 ∧ wr = u) (fun _ i _ => 0)
  case atStart => exact ⟨rfl, rfl, rfl⟩
  case round =>
    obtain ⟨rfl, rfl, hw⟩ := hrel
    rw [hw]
    clear hw wr
    go_wp2_with fail
    go_ret
    exact ⟨⟨_, _, rfl⟩, Below.refl _ _⟩
end

end Go.Proofs.Ytbjmdejnipleoaa
