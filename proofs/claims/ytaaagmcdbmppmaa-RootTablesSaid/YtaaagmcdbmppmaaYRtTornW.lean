/- The walk of the law RootTorn, whatever the program's root blocks are made of. -/
import Derived.Deep.Upon
import Derived.Test.YtaaagmcdbmppmaaYRtLaw0
import Derived.Test.YtaaagmcdbmppmaaYZ0
namespace Go.Proofs.Ytaaagmcdbmppmaa
open Go.RowKit Go.Deep
set_option linter.unusedVariables false
set_option linter.unusedSimpArgs false
set_option maxRecDepth 100000

theorem put_three {W : World} {B : Nat} {c0 c1 c2 : Value} {T : TypeId} (h : W.heap[B]? = some (.cells #[c0, c1, c2] T (0, 0))) (u0 u1 u2 : Value) :
    (W.setCells B 0 [u0, u1, u2]).heap[B]? = some (.cells #[u0, u1, u2] T (0, 0)) :=
  Joins.block_setCell (Joins.block_setCell (Joins.block_setCell h u0) u1) u2
theorem put_below13 {base B : Nat} (hB : base ≤ B) : ∀ (l : List Value) (o : Nat) (W : World), Below base W (W.setCells B o l)
  | [], _, W => Below.refl _ _
  | v :: l, o, W => ((Below.refl base W).setCell (p := ⟨B, o, none⟩) hB v).trans (put_below13 hB l (o + 1) _)
theorem LstI.put {l : List Int} {v : Value} {u : World} {E : Nat} (h : LstI l v u) (hne : ∀ g, v.ownBlock = some g → g ≠ E) (cs : List Value) : LstI l v (u.setCells E 0 cs) := by
  obtain ⟨ao, cap, e, h1, h2, h3⟩ := h
  refine ⟨ao, cap, e, h1, h2, fun hn => ?_⟩
  obtain ⟨b, o, e2, hlt, hc⟩ := h3 hn
  have hb := World.heap_setCells_other u E 0 cs hlt (hne b (by rw [e, e2]; rfl))
  exact ⟨b, o, e2, Nat.lt_of_lt_of_le hlt (put_below13 (Nat.zero_le E) cs 0 u).size, fun i hi j hj => by rw [World.cell?_of_block hb]; exact hc i hi j hj⟩
/-- what stands behind Get and its box -/
structure TornAt (base : Nat) (s : ByteArray) (w : World) (C : Nat) (is : Bool) (ep lg : Int) (a : Option Addr) (n c : Nat) (wx : World) : Prop where
  box : wx.heap[C]? = some (.cells #[.int .i64 ep, .int .i64 lg, .slice a n c] 29 (0, 0))
  got : is = true → ∃ x, SaysR s x ∧ x.ep = ep ∧ x.lg = lg ∧ LstI x.parts (.slice a n c) wx
  b : Below base w wx
set_option maxHeartbeats 12800000 in
theorem torn13_walk (I : Rt13) (ea la : Int) (lA : List Int) (aA : Option Addr) (cA : Nat) (eb lb : Int) (lB : List Int) (aB : Option Addr) (cB : Nat) (cut : Int) (W : World) (hA : LstI lA (.slice aA lA.length cA) W) (hB : LstI lB (.slice aB lB.length cB) W) (hea : big64 ea) (hla : big64 la) (heb : big64 eb) (hlb : big64 lb) (hcut : 0 ≤ cut ∧ cut ≤ 255) :
    Calls Try.prog 3 #[rtV ea la (.slice aA lA.length cA), rtV eb lb (.slice aB lB.length cB), .int .u8 cut] W fun r u' => r = .returned (.bool true) ∧ Below W.heap.size W u' := by
  have HA := Lib.hid (fun w => awake13_any I w)
  have HI := Lib.hid I
  have VA := Lib.hid hA
  have VB := Lib.hid hB
  obtain ⟨nA, hnA⟩ : ∃ n, n = lA.length := ⟨_, rfl⟩
  obtain ⟨nB, hnB⟩ : ∃ n, n = lB.length := ⟨_, rfl⟩
  have mA : nA ≤ 9223372036854775807 := by obtain ⟨_, _, e, h1, h2, _⟩ := hA; omega
  have mB : nB ≤ 9223372036854775807 := by obtain ⟨_, _, e, h1, h2, _⟩ := hB; omega
  have HNA := Lib.hid hnA
  have HNB := Lib.hid hnB
  rw [← hnA] at VA ⊢
  rw [← hnB] at VB ⊢
  have HE := Lib.hid (And.intro hea (And.intro hla (And.intro heb hlb)))
  unfold rtV
  have X1 := Lib.hid (heap_alloc_new W (.cells #[.int .i64 ea, .int .i64 la, .slice aA nA cA] 24))
  have B1 := Lib.hid (balloc W (.cells #[.int .i64 ea, .int .i64 la, .slice aA nA cA] 24))
  obtain ⟨C, hC⟩ : ∃ C, C = W.heap.size := ⟨_, rfl⟩
  rw [← hC] at X1
  have hCW : Hid (W.heap.size ≤ C) := Lib.hid (by omega)
  have hsz : Hid ((W.alloc (.cells #[.int .i64 ea, .int .i64 la, .slice aA nA cA] 24)).heap.size = C + 1) := Lib.hid (by rw [hC]; simp)
  clear I hA hB hea hla heb hlb hnA hnB
  go_enter Try.func3, Try.ntmps3
  go_upto_region 1 with fail
  rw [← hC]
  generalize W.alloc (.cells #[.int .i64 ea, .int .i64 la, .slice aA nA cA] 24) = w1 at *
  clear hC
  have Y2 := Lib.hid (heap_alloc_new w1 (.cells #[.int .i64 eb, .int .i64 lb, .slice aB nB cB] 24))
  have X2 := Lib.hid (heap_stays13 X1.out (balloc w1 (.cells #[.int .i64 eb, .int .i64 lb, .slice aB nB cB] 24)))
  have B2 := Lib.hid (bthen B1.out (balloc w1 (.cells #[.int .i64 eb, .int .i64 lb, .slice aB nB cB] 24)))
  rw [hsz.out] at Y2
  generalize w1.alloc (.cells #[.int .i64 eb, .int .i64 lb, .slice aB nB cB] 24) = w2 at *
  obtain ⟨x0, x1, x2⟩ := three_of X2.out
  obtain ⟨y0, y1, y2⟩ := three_of Y2.out
  clear B1 X1 hsz
  obtain ⟨D, hD⟩ : ∃ D, D = C + 1 := ⟨_, rfl⟩
  rw [← hD] at Y2 y0 y1 y2
  rw [← hD]
  have hDW : Hid (W.heap.size ≤ D) := Lib.hid (by have := hCW.out; omega)
  clear hD
  by_cases q1 : 40 < nA
  · have d1 : decide ((40 : Int) < (nA : Int)) = true := by simp; omega
    go_wp2_with fail
    refine (HA.out _).mono ?_
    rintro e w8 ⟨rfl, hb⟩
    have B8 := Lib.hid (bthen B2.out hb)
    clear hb
    go_wp2_with fail
    go_ret
    exact ⟨rfl, B8.out⟩
  have d1 : decide ((40 : Int) < (nA : Int)) = false := by simp; omega
  by_cases q2 : 40 < nB
  · have d2 : decide ((40 : Int) < (nB : Int)) = true := by simp; omega
    go_wp2_with fail
    refine (HA.out _).mono ?_
    rintro e w8 ⟨rfl, hb⟩
    have B8 := Lib.hid (bthen B2.out hb)
    clear hb
    go_wp2_with fail
    go_ret
    exact ⟨rfl, B8.out⟩
  have d2 : decide ((40 : Int) < (nB : Int)) = false := by simp; omega
  by_cases q3 : ea = eb
  · have d3 : (ea == eb) = true := by simp [q3]
    clear q3
    go_wp2_with fail
    refine (HA.out _).mono ?_
    rintro e w8 ⟨rfl, hb⟩
    have B8 := Lib.hid (bthen B2.out hb)
    clear hb
    go_wp2_with fail
    go_ret
    exact ⟨rfl, B8.out⟩
  have d3 : (ea == eb) = false := by simp [q3]
  have Q3 := Lib.hid q3
  clear q3
  have TA : Hid (∀ w, Calls Try.prog 8 #[.agg #[.int .i64 ea, .int .i64 la, .slice aA nA cA]] w fun e w' => e = .returned (.agg #[.int .i64 ea, .int .i64 la, .slice aA nA cA]) ∧ Below w.heap.size w w') := Lib.hid (fun w => to13_any ea la aA nA cA w)
  have TB : Hid (∀ w, Calls Try.prog 8 #[.agg #[.int .i64 eb, .int .i64 lb, .slice aB nB cB]] w fun e w' => e = .returned (.agg #[.int .i64 eb, .int .i64 lb, .slice aB nB cB]) ∧ Below w.heap.size w w') := Lib.hid (fun w => to13_any eb lb aB nB cB w)
  obtain ⟨sA, hsA⟩ : ∃ s, s = rtO ⟨ea, la, lA⟩ := ⟨_, rfl⟩
  obtain ⟨sB, hsB⟩ : ∃ s, s = rtO ⟨eb, lb, lB⟩ := ⟨_, rfl⟩
  obtain ⟨rA, hrA⟩ : ∃ s, s = rtE ⟨ea, la, lA⟩ := ⟨_, rfl⟩
  obtain ⟨rB, hrB⟩ : ∃ s, s = rtE ⟨eb, lb, lB⟩ := ⟨_, rfl⟩
  have PA : Hid (∀ w, Below W.heap.size W w → Calls Try.prog 7 #[.agg #[.int .i64 ea, .int .i64 la, .slice aA nA cA]] w fun e w' => e = .returned (.tuple #[.string sA, .int .i64 rA]) ∧ Below w.heap.size w w') := Lib.hid (fun w k => by
    have h := HI.out.put ea la lA (.slice aA nA cA) w HE.out.1 HE.out.2.1 (by rw [← HNA.out]; omega) (Sl.below VA.out k)
    rw [← hsA, ← hrA] at h
    exact h)
  have PB : Hid (∀ w, Below W.heap.size W w → Calls Try.prog 7 #[.agg #[.int .i64 eb, .int .i64 lb, .slice aB nB cB]] w fun e w' => e = .returned (.tuple #[.string sB, .int .i64 rB]) ∧ Below w.heap.size w w') := Lib.hid (fun w k => by
    have h := HI.out.put eb lb lB (.slice aB nB cB) w HE.out.2.2.1 HE.out.2.2.2 (by rw [← HNB.out]; omega) (Sl.below VB.out k)
    rw [← hsB, ← hrB] at h
    exact h)
  have HSA := Lib.hid hsA
  have HSB := Lib.hid hsB
  have HRA := Lib.hid hrA
  have HRB := Lib.hid hrB
  clear hsA hsB hrA hrB
  go_wp2_with fail
  refine (TA.out _).mono ?_
  rintro e w3 ⟨rfl, hb⟩
  have B3 := Lib.hid (bthen B2.out hb)
  have X3 := Lib.hid (heap_stays13 X2.out hb)
  have Y3 := Lib.hid (heap_stays13 Y2.out hb)
  clear hb x0 x1 x2 y0 y1 y2 X2 Y2 B2
  go_wp2_with fail
  refine (PA.out _ B3.out).mono ?_
  rintro e w4 ⟨rfl, hb⟩
  have B4 := Lib.hid (bthen B3.out hb)
  have X4 := Lib.hid (heap_stays13 X3.out hb)
  have Y4 := Lib.hid (heap_stays13 Y3.out hb)
  clear hb X3 Y3 B3
  obtain ⟨y0, y1, y2⟩ := three_of Y4.out
  go_wp2_with fail
  refine (TB.out _).mono ?_
  rintro e w5 ⟨rfl, hb⟩
  have B5 := Lib.hid (bthen B4.out hb)
  have X5 := Lib.hid (heap_stays13 X4.out hb)
  have Y5 := Lib.hid (heap_stays13 Y4.out hb)
  clear hb y0 y1 y2 X4 Y4 B4
  go_wp2_with fail
  refine (PB.out _ B5.out).mono ?_
  rintro e w6 ⟨rfl, hb⟩
  have B6 := Lib.hid (bthen B5.out hb)
  have X6 := Lib.hid (heap_stays13 X5.out hb)
  have Y6 := Lib.hid (heap_stays13 Y5.out hb)
  clear hb X5 Y5 B5 TA TB PA PB
  by_cases gA : RightR ⟨ea, la, lA⟩
  case neg =>
    have e1 : rA = 2 := by rw [HRA.out]; unfold rtE; rw [if_neg gA]
    have d4 : (rA != 0) = true := by rw [e1]; rfl
    clear e1 gA
    go_wp2_with fail
    refine (HA.out _).mono ?_
    rintro e w8 ⟨rfl, hb⟩
    have B8 := Lib.hid (bthen B6.out hb)
    clear hb
    go_wp2_with fail
    go_ret
    exact ⟨rfl, B8.out⟩
  have e1 : rA = 0 := by rw [HRA.out]; unfold rtE; rw [if_pos gA]
  have d4 : (rA != 0) = false := by rw [e1]; rfl
  have GA := Lib.hid gA
  clear e1 gA
  by_cases gB : RightR ⟨eb, lb, lB⟩
  case neg =>
    have e1 : rB = 2 := by rw [HRB.out]; unfold rtE; rw [if_neg gB]
    have d5 : (rB != 0) = true := by rw [e1]; rfl
    clear e1 gB
    go_wp2_with fail
    refine (HA.out _).mono ?_
    rintro e w8 ⟨rfl, hb⟩
    have B8 := Lib.hid (bthen B6.out hb)
    clear hb
    go_wp2_with fail
    go_ret
    exact ⟨rfl, B8.out⟩
  have e1 : rB = 0 := by rw [HRB.out]; unfold rtE; rw [if_pos gB]
  have d5 : (rB != 0) = false := by rw [e1]; rfl
  have GB := Lib.hid gB
  clear e1 gB
  have SA : Hid (sA = bytesR ⟨ea, la, lA⟩) := Lib.hid (by rw [HSA.out]; unfold rtO; rw [if_pos GA.out])
  have SB : Hid (sB = bytesR ⟨eb, lb, lB⟩) := Lib.hid (by rw [HSB.out]; unfold rtO; rw [if_pos GB.out])
  have zA : sA.size = 64 := by rw [SA.out]; exact bytesR_size _
  have zB : sB.size = 64 := by rw [SB.out]; exact bytesR_size _
  obtain ⟨cn, rfl⟩ : ∃ n : Nat, cut = (n : Int) := ⟨cut.toNat, by omega⟩
  obtain ⟨k, hk⟩ : ∃ k, k = cn % 65 := ⟨_, rfl⟩
  have e7 : (cn : Int) % 65 = (k : Int) := by omega
  have hk64 : k ≤ 64 := by omega
  clear hk
  go_upto_region 8 with fail
  rw [e7]
  clear e7
  have kk1 : (0 : Int) ≤ (k : Int) := by omega
  have kk6 : (k : Int) ≤ 64 := by omega
  have kk2 : (k : Int) ≤ (sA.size : Int) := by omega
  have kk3 : (k : Int) ≤ (sB.size : Int) := by omega
  have kk4 : k ≤ sA.size := by omega
  have kk5 : k ≤ sB.size := by omega
  go_cut [12, 13] from 72 to 83 (fun v12 v13 wx => ∃ (E : Nat) (is : Bool) (ep lg : Int) (a : Option Addr) (n c : Nat), v12 = .pointer (some ⟨E, 0, none⟩) ∧ v13 = .bool is ∧ TornAt W.heap.size (sB.extract 0 k ++ sA.extract k 64) W E is ep lg a n c wx ∧ wx.heap[C]? = some (.cells #[.int .i64 ea, .int .i64 la, .slice aA nA cA] 24 (0, 0)) ∧ wx.heap[D]? = some (.cells #[.int .i64 eb, .int .i64 lb, .slice aB nB cB] 24 (0, 0)))
  case first =>
    refine wp_region_held_drew (S := (fun _ => True)) (by kernel_rfl) ?_ (fun hHeld => ?_)
    · trivial
    have B0 := Lib.hid (bthen B6.out (bdrew w6))
    have X0 := Lib.hid (heap_stays13 X6.out (bdrew w6))
    have Y0 := Lib.hid (heap_stays13 Y6.out (bdrew w6))
    change wpAnyH _ _ _ _ _ _ _ _ (World.drew w6)
    clear B6 X6 Y6
    generalize World.drew w6 = u0 at *
    first | refine tq0 0 rfl ?_ | refine tq1 0 rfl ?_
    try go_frame
    first | refine tq0 1 rfl ?_ | refine tq1 1 rfl ?_
    try go_frame
    first | refine tq0 2 rfl ?_ | refine tq1 2 rfl ?_
    try go_frame
    first | refine tq0 3 rfl ?_ | refine tq1 3 rfl ?_
    try go_frame
    first | refine tq0 4 rfl ?_ | refine tq1 4 rfl ?_
    try go_frame
    first | refine tq0 5 rfl ?_ | refine tq1 5 rfl ?_
    try go_frame
    first | refine tq0 6 rfl ?_ | refine tq1 6 rfl ?_
    try go_frame
    have hxs : (sB.extract 0 k ++ sA.extract k 64).size ≤ 1000 := by rw [ByteArray.size_append, ByteArray.size_extract, ByteArray.size_extract]; omega
    have HG : Hid (∀ u, Calls Try.prog 9 #[.string (sB.extract 0 k ++ sA.extract k 64)] u fun r u' => ∃ (is : Bool) (ep lg : Int) (a : Option Addr) (n c : Nat), r = .returned (.tuple #[.agg #[.int .i64 ep, .int .i64 lg, .slice a n c], .bool is]) ∧ (is = true → ∃ x, SaysR (sB.extract 0 k ++ sA.extract k 64) x ∧ x.ep = ep ∧ x.lg = lg ∧ LstI x.parts (.slice a n c) u') ∧ (is = true → ∀ g, (Value.slice a n c).ownBlock = some g → u.heap.size ≤ g ∧ g < u'.heap.size) ∧ Below u.heap.size u u') := Lib.hid (fun u => (HI.out.get _ u hxs).mono fun r u' hg => by
      obtain ⟨hb, ⟨x, v, hx, hr, hv, ho⟩ | ⟨_, ep, lg, a, n, c, hr⟩⟩ := hg
      · obtain ⟨a, c, e1, h3⟩ := id hv
        subst e1
        exact ⟨true, x.ep, x.lg, a, _, c, hr, fun _ => ⟨x, hx, rfl, rfl, hv⟩, fun _ => ho, hb⟩
      · exact ⟨false, ep, lg, a, n, c, hr, (fun h => by cases h), (fun h => by cases h), hb⟩)
    clear hxs
    refine wpAnyH_ready (rs := [7, 11]) (by kernel_rfl) (by simp) ?_
    refine AllReadyH.cons (o := ⟨_, _, _, _, _, _⟩) rfl (fun K hK => ?_) (AllReadyH.cons (o := ⟨_, _, _, _, _, _⟩) rfl (fun K hK => ?_) AllReadyH.nil)
    · go_simp
      refine (HG.out u0).mono ?_
      rintro e u1 ⟨is, ep, lg, a, n, c, rfl, hgot, hown, hb⟩
      have GX1 := Lib.hid hgot
      have GO := Lib.hid hown
      have B1 := Lib.hid (bthen B0.out hb)
      have X1 := Lib.hid (heap_stays13 X0.out hb)
      have Y1 := Lib.hid (heap_stays13 Y0.out hb)
      clear hgot hown hb
      refine hK.out _ _ trivial (fun hHeld => ?_)
      clear hK K
      try go_frame
      first | refine tq0 8 rfl ?_ | refine tq1 8 rfl ?_
      try go_frame
      first | refine tq0 9 rfl ?_ | refine tq1 9 rfl ?_
      try go_frame
      refine wpAnyH_ready (rs := [10, 11]) (by kernel_rfl) (by simp) ?_
      refine AllReadyH.cons (o := ⟨_, _, _, _, _, _⟩) rfl (fun K hK => ?_) (AllReadyH.cons (o := ⟨_, _, _, _, _, _⟩) rfl (fun K hK => ?_) AllReadyH.nil)
      · go_simp
        refine hK.out _ _ trivial (fun hHeld => ?_)
        clear hK K
        try go_frame
        refine wpAnyH_ready (rs := [11]) (by kernel_rfl) (by simp) ?_
        refine AllReadyH.cons (o := ⟨_, _, _, _, _, _⟩) rfl (fun K hK => ?_) AllReadyH.nil
        · have Z2 := Lib.hid (heap_alloc_new u1 (.cells #[.int .i64 0, .int .i64 0, .slice none 0 0] 29))
          have hb := balloc u1 (.cells #[.int .i64 0, .int .i64 0, .slice none 0 0] 29)
          have B2 := Lib.hid (bthen B1.out hb)
          have X2 := Lib.hid (heap_stays13 X1.out hb)
          have Y2 := Lib.hid (heap_stays13 Y1.out hb)
          have GX2 : Hid (is = true → ∃ x, SaysR (sB.extract 0 k ++ sA.extract k 64) x ∧ x.ep = ep ∧ x.lg = lg ∧ LstI x.parts (.slice a n c) (u1.alloc (.cells #[.int .i64 0, .int .i64 0, .slice none 0 0] 29))) := Lib.hid (fun hi => by
            obtain ⟨x, h1, h2, h3, h4⟩ := GX1.out hi
            exact ⟨x, h1, h2, h3, h4.below hb⟩)
          have NO : Hid (is = true → ∀ g, (Value.slice a n c).ownBlock = some g → g ≠ u1.heap.size) := Lib.hid (fun hi g hg => by have := (GO.out hi g hg).2; omega)
          obtain ⟨E, hE⟩ : ∃ E, E = u1.heap.size := ⟨_, rfl⟩
          have EC : Hid (C ≠ E ∧ D ≠ E ∧ W.heap.size ≤ E) := Lib.hid (by have := lt_of_block X1.out; have := lt_of_block Y1.out; have := B1.out.size; omega)
          rw [← hE] at Z2
          rw [← hE] at NO
          clear hb
          go_simp
          refine hK.out _ _ trivial (fun hHeld => ?_)
          clear hK K
          try go_frame
          rw [← hE]
          generalize u1.alloc (.cells #[.int .i64 0, .int .i64 0, .slice none 0 0] 29) = u2 at *
          clear hE
          refine wpAnyH_ready (rs := [12]) (by kernel_rfl) (by simp) ?_
          refine AllReadyH.cons (o := ⟨_, _, _, _, _, _⟩) rfl (fun K hK => ?_) AllReadyH.nil
          · obtain ⟨z0, z1, z2⟩ := three_of Z2.out
            have zf : ∀ q, u2.frozen? ⟨E, q, none⟩ = false := fun q => Lib.frozen_of_heap Z2.out q
            have ZS3 := Lib.hid (put_three Z2.out (.int .i64 ep) (.int .i64 lg) (.slice a n c))
            have B3 := Lib.hid (B2.out.trans (put_below13 EC.out.2.2 [.int .i64 ep, .int .i64 lg, .slice a n c] 0 u2))
            have X3 := Lib.hid ((World.heap_setCells_other u2 E 0 [.int .i64 ep, .int .i64 lg, .slice a n c] (lt_of_block X2.out) EC.out.1).trans X2.out)
            have Y3 := Lib.hid ((World.heap_setCells_other u2 E 0 [.int .i64 ep, .int .i64 lg, .slice a n c] (lt_of_block Y2.out) EC.out.2.1).trans Y2.out)
            have GX3 : Hid (is = true → ∃ x, SaysR (sB.extract 0 k ++ sA.extract k 64) x ∧ x.ep = ep ∧ x.lg = lg ∧ LstI x.parts (.slice a n c) (u2.setCells E 0 [.int .i64 ep, .int .i64 lg, .slice a n c])) := Lib.hid (fun hi => by
              obtain ⟨x, h1, h2, h3, h4⟩ := GX2.out hi
              exact ⟨x, h1, h2, h3, h4.put (NO.out hi) _⟩)
            go_simp
            refine hK.out _ _ trivial (fun hHeld => ?_)
            clear hK K
            try go_frame
            change wpAnyH _ _ _ _ _ _ _ _ (World.setCells u2 E 0 [.int .i64 ep, .int .i64 lg, .slice a n c])
            generalize World.setCells u2 E 0 [.int .i64 ep, .int .i64 lg, .slice a n c] = u3 at *
            clear z0 z1 z2 zf
            first | refine tq0 13 rfl ?_ | refine tq1 13 rfl ?_
            try go_frame
            refine wpAnyH_done (by kernel_rfl) ?_ _
            clear hHeld
            try go_wp2_with fail
            go_meet
            exact ⟨E, is, ep, lg, a, n, c, rfl, rfl, ⟨ZS3.out, GX3.out, B3.out⟩, X3.out, Y3.out⟩
      · have Z2 := Lib.hid (heap_alloc_new u1 (.cells #[.int .i64 0, .int .i64 0, .slice none 0 0] 29))
        have hb := balloc u1 (.cells #[.int .i64 0, .int .i64 0, .slice none 0 0] 29)
        have B2 := Lib.hid (bthen B1.out hb)
        have X2 := Lib.hid (heap_stays13 X1.out hb)
        have Y2 := Lib.hid (heap_stays13 Y1.out hb)
        have GX2 : Hid (is = true → ∃ x, SaysR (sB.extract 0 k ++ sA.extract k 64) x ∧ x.ep = ep ∧ x.lg = lg ∧ LstI x.parts (.slice a n c) (u1.alloc (.cells #[.int .i64 0, .int .i64 0, .slice none 0 0] 29))) := Lib.hid (fun hi => by
          obtain ⟨x, h1, h2, h3, h4⟩ := GX1.out hi
          exact ⟨x, h1, h2, h3, h4.below hb⟩)
        have NO : Hid (is = true → ∀ g, (Value.slice a n c).ownBlock = some g → g ≠ u1.heap.size) := Lib.hid (fun hi g hg => by have := (GO.out hi g hg).2; omega)
        obtain ⟨E, hE⟩ : ∃ E, E = u1.heap.size := ⟨_, rfl⟩
        have EC : Hid (C ≠ E ∧ D ≠ E ∧ W.heap.size ≤ E) := Lib.hid (by have := lt_of_block X1.out; have := lt_of_block Y1.out; have := B1.out.size; omega)
        rw [← hE] at Z2
        rw [← hE] at NO
        clear hb
        go_simp
        refine hK.out _ _ trivial (fun hHeld => ?_)
        clear hK K
        try go_frame
        rw [← hE]
        generalize u1.alloc (.cells #[.int .i64 0, .int .i64 0, .slice none 0 0] 29) = u2 at *
        clear hE
        refine wpAnyH_ready (rs := [10, 12]) (by kernel_rfl) (by simp) ?_
        refine AllReadyH.cons (o := ⟨_, _, _, _, _, _⟩) rfl (fun K hK => ?_) (AllReadyH.cons (o := ⟨_, _, _, _, _, _⟩) rfl (fun K hK => ?_) AllReadyH.nil)
        · go_simp
          refine hK.out _ _ trivial (fun hHeld => ?_)
          clear hK K
          try go_frame
          refine wpAnyH_ready (rs := [12]) (by kernel_rfl) (by simp) ?_
          refine AllReadyH.cons (o := ⟨_, _, _, _, _, _⟩) rfl (fun K hK => ?_) AllReadyH.nil
          · obtain ⟨z0, z1, z2⟩ := three_of Z2.out
            have zf : ∀ q, u2.frozen? ⟨E, q, none⟩ = false := fun q => Lib.frozen_of_heap Z2.out q
            have ZS3 := Lib.hid (put_three Z2.out (.int .i64 ep) (.int .i64 lg) (.slice a n c))
            have B3 := Lib.hid (B2.out.trans (put_below13 EC.out.2.2 [.int .i64 ep, .int .i64 lg, .slice a n c] 0 u2))
            have X3 := Lib.hid ((World.heap_setCells_other u2 E 0 [.int .i64 ep, .int .i64 lg, .slice a n c] (lt_of_block X2.out) EC.out.1).trans X2.out)
            have Y3 := Lib.hid ((World.heap_setCells_other u2 E 0 [.int .i64 ep, .int .i64 lg, .slice a n c] (lt_of_block Y2.out) EC.out.2.1).trans Y2.out)
            have GX3 : Hid (is = true → ∃ x, SaysR (sB.extract 0 k ++ sA.extract k 64) x ∧ x.ep = ep ∧ x.lg = lg ∧ LstI x.parts (.slice a n c) (u2.setCells E 0 [.int .i64 ep, .int .i64 lg, .slice a n c])) := Lib.hid (fun hi => by
              obtain ⟨x, h1, h2, h3, h4⟩ := GX2.out hi
              exact ⟨x, h1, h2, h3, h4.put (NO.out hi) _⟩)
            go_simp
            refine hK.out _ _ trivial (fun hHeld => ?_)
            clear hK K
            try go_frame
            change wpAnyH _ _ _ _ _ _ _ _ (World.setCells u2 E 0 [.int .i64 ep, .int .i64 lg, .slice a n c])
            generalize World.setCells u2 E 0 [.int .i64 ep, .int .i64 lg, .slice a n c] = u3 at *
            clear z0 z1 z2 zf
            first | refine tq0 13 rfl ?_ | refine tq1 13 rfl ?_
            try go_frame
            refine wpAnyH_done (by kernel_rfl) ?_ _
            clear hHeld
            try go_wp2_with fail
            go_meet
            exact ⟨E, is, ep, lg, a, n, c, rfl, rfl, ⟨ZS3.out, GX3.out, B3.out⟩, X3.out, Y3.out⟩
        · obtain ⟨z0, z1, z2⟩ := three_of Z2.out
          have zf : ∀ q, u2.frozen? ⟨E, q, none⟩ = false := fun q => Lib.frozen_of_heap Z2.out q
          have ZS3 := Lib.hid (put_three Z2.out (.int .i64 ep) (.int .i64 lg) (.slice a n c))
          have B3 := Lib.hid (B2.out.trans (put_below13 EC.out.2.2 [.int .i64 ep, .int .i64 lg, .slice a n c] 0 u2))
          have X3 := Lib.hid ((World.heap_setCells_other u2 E 0 [.int .i64 ep, .int .i64 lg, .slice a n c] (lt_of_block X2.out) EC.out.1).trans X2.out)
          have Y3 := Lib.hid ((World.heap_setCells_other u2 E 0 [.int .i64 ep, .int .i64 lg, .slice a n c] (lt_of_block Y2.out) EC.out.2.1).trans Y2.out)
          have GX3 : Hid (is = true → ∃ x, SaysR (sB.extract 0 k ++ sA.extract k 64) x ∧ x.ep = ep ∧ x.lg = lg ∧ LstI x.parts (.slice a n c) (u2.setCells E 0 [.int .i64 ep, .int .i64 lg, .slice a n c])) := Lib.hid (fun hi => by
            obtain ⟨x, h1, h2, h3, h4⟩ := GX2.out hi
            exact ⟨x, h1, h2, h3, h4.put (NO.out hi) _⟩)
          go_simp
          refine hK.out _ _ trivial (fun hHeld => ?_)
          clear hK K
          try go_frame
          change wpAnyH _ _ _ _ _ _ _ _ (World.setCells u2 E 0 [.int .i64 ep, .int .i64 lg, .slice a n c])
          generalize World.setCells u2 E 0 [.int .i64 ep, .int .i64 lg, .slice a n c] = u3 at *
          clear z0 z1 z2 zf
          first | refine tq0 10 rfl ?_ | refine tq1 10 rfl ?_
          try go_frame
          first | refine tq0 13 rfl ?_ | refine tq1 13 rfl ?_
          try go_frame
          refine wpAnyH_done (by kernel_rfl) ?_ _
          clear hHeld
          try go_wp2_with fail
          go_meet
          exact ⟨E, is, ep, lg, a, n, c, rfl, rfl, ⟨ZS3.out, GX3.out, B3.out⟩, X3.out, Y3.out⟩
    · have Z1 := Lib.hid (heap_alloc_new u0 (.cells #[.int .i64 0, .int .i64 0, .slice none 0 0] 29))
      have hb := balloc u0 (.cells #[.int .i64 0, .int .i64 0, .slice none 0 0] 29)
      have B1 := Lib.hid (bthen B0.out hb)
      have X1 := Lib.hid (heap_stays13 X0.out hb)
      have Y1 := Lib.hid (heap_stays13 Y0.out hb)
      obtain ⟨E, hE⟩ : ∃ E, E = u0.heap.size := ⟨_, rfl⟩
      have EC : Hid (C ≠ E ∧ D ≠ E ∧ W.heap.size ≤ E) := Lib.hid (by have := lt_of_block X0.out; have := lt_of_block Y0.out; have := B0.out.size; omega)
      rw [← hE] at Z1
      clear hb
      go_simp
      refine hK.out _ _ trivial (fun hHeld => ?_)
      clear hK K
      try go_frame
      rw [← hE]
      generalize u0.alloc (.cells #[.int .i64 0, .int .i64 0, .slice none 0 0] 29) = u1 at *
      clear hE
      refine wpAnyH_ready (rs := [7]) (by kernel_rfl) (by simp) ?_
      refine AllReadyH.cons (o := ⟨_, _, _, _, _, _⟩) rfl (fun K hK => ?_) AllReadyH.nil
      · go_simp
        refine (HG.out u1).mono ?_
        rintro e u2 ⟨is, ep, lg, a, n, c, rfl, hgot, hown, hb⟩
        have GX2 := Lib.hid hgot
        have GO := Lib.hid hown
        have B2 := Lib.hid (bthen B1.out hb)
        have X2 := Lib.hid (heap_stays13 X1.out hb)
        have Y2 := Lib.hid (heap_stays13 Y1.out hb)
        have Z2 := Lib.hid (heap_stays13 Z1.out hb)
        have NO : Hid (is = true → ∀ g, (Value.slice a n c).ownBlock = some g → g ≠ E) := Lib.hid (fun hi g hg => by have := (GO.out hi g hg).1; have := lt_of_block Z1.out; omega)
        clear hgot hown hb
        refine hK.out _ _ trivial (fun hHeld => ?_)
        clear hK K
        try go_frame
        first | refine tq0 8 rfl ?_ | refine tq1 8 rfl ?_
        try go_frame
        first | refine tq0 9 rfl ?_ | refine tq1 9 rfl ?_
        try go_frame
        refine wpAnyH_ready (rs := [10, 12]) (by kernel_rfl) (by simp) ?_
        refine AllReadyH.cons (o := ⟨_, _, _, _, _, _⟩) rfl (fun K hK => ?_) (AllReadyH.cons (o := ⟨_, _, _, _, _, _⟩) rfl (fun K hK => ?_) AllReadyH.nil)
        · go_simp
          refine hK.out _ _ trivial (fun hHeld => ?_)
          clear hK K
          try go_frame
          refine wpAnyH_ready (rs := [12]) (by kernel_rfl) (by simp) ?_
          refine AllReadyH.cons (o := ⟨_, _, _, _, _, _⟩) rfl (fun K hK => ?_) AllReadyH.nil
          · obtain ⟨z0, z1, z2⟩ := three_of Z2.out
            have zf : ∀ q, u2.frozen? ⟨E, q, none⟩ = false := fun q => Lib.frozen_of_heap Z2.out q
            have ZS3 := Lib.hid (put_three Z2.out (.int .i64 ep) (.int .i64 lg) (.slice a n c))
            have B3 := Lib.hid (B2.out.trans (put_below13 EC.out.2.2 [.int .i64 ep, .int .i64 lg, .slice a n c] 0 u2))
            have X3 := Lib.hid ((World.heap_setCells_other u2 E 0 [.int .i64 ep, .int .i64 lg, .slice a n c] (lt_of_block X2.out) EC.out.1).trans X2.out)
            have Y3 := Lib.hid ((World.heap_setCells_other u2 E 0 [.int .i64 ep, .int .i64 lg, .slice a n c] (lt_of_block Y2.out) EC.out.2.1).trans Y2.out)
            have GX3 : Hid (is = true → ∃ x, SaysR (sB.extract 0 k ++ sA.extract k 64) x ∧ x.ep = ep ∧ x.lg = lg ∧ LstI x.parts (.slice a n c) (u2.setCells E 0 [.int .i64 ep, .int .i64 lg, .slice a n c])) := Lib.hid (fun hi => by
              obtain ⟨x, h1, h2, h3, h4⟩ := GX2.out hi
              exact ⟨x, h1, h2, h3, h4.put (NO.out hi) _⟩)
            go_simp
            refine hK.out _ _ trivial (fun hHeld => ?_)
            clear hK K
            try go_frame
            change wpAnyH _ _ _ _ _ _ _ _ (World.setCells u2 E 0 [.int .i64 ep, .int .i64 lg, .slice a n c])
            generalize World.setCells u2 E 0 [.int .i64 ep, .int .i64 lg, .slice a n c] = u3 at *
            clear z0 z1 z2 zf
            first | refine tq0 13 rfl ?_ | refine tq1 13 rfl ?_
            try go_frame
            refine wpAnyH_done (by kernel_rfl) ?_ _
            clear hHeld
            try go_wp2_with fail
            go_meet
            exact ⟨E, is, ep, lg, a, n, c, rfl, rfl, ⟨ZS3.out, GX3.out, B3.out⟩, X3.out, Y3.out⟩
        · obtain ⟨z0, z1, z2⟩ := three_of Z2.out
          have zf : ∀ q, u2.frozen? ⟨E, q, none⟩ = false := fun q => Lib.frozen_of_heap Z2.out q
          have ZS3 := Lib.hid (put_three Z2.out (.int .i64 ep) (.int .i64 lg) (.slice a n c))
          have B3 := Lib.hid (B2.out.trans (put_below13 EC.out.2.2 [.int .i64 ep, .int .i64 lg, .slice a n c] 0 u2))
          have X3 := Lib.hid ((World.heap_setCells_other u2 E 0 [.int .i64 ep, .int .i64 lg, .slice a n c] (lt_of_block X2.out) EC.out.1).trans X2.out)
          have Y3 := Lib.hid ((World.heap_setCells_other u2 E 0 [.int .i64 ep, .int .i64 lg, .slice a n c] (lt_of_block Y2.out) EC.out.2.1).trans Y2.out)
          have GX3 : Hid (is = true → ∃ x, SaysR (sB.extract 0 k ++ sA.extract k 64) x ∧ x.ep = ep ∧ x.lg = lg ∧ LstI x.parts (.slice a n c) (u2.setCells E 0 [.int .i64 ep, .int .i64 lg, .slice a n c])) := Lib.hid (fun hi => by
            obtain ⟨x, h1, h2, h3, h4⟩ := GX2.out hi
            exact ⟨x, h1, h2, h3, h4.put (NO.out hi) _⟩)
          go_simp
          refine hK.out _ _ trivial (fun hHeld => ?_)
          clear hK K
          try go_frame
          change wpAnyH _ _ _ _ _ _ _ _ (World.setCells u2 E 0 [.int .i64 ep, .int .i64 lg, .slice a n c])
          generalize World.setCells u2 E 0 [.int .i64 ep, .int .i64 lg, .slice a n c] = u3 at *
          clear z0 z1 z2 zf
          first | refine tq0 10 rfl ?_ | refine tq1 10 rfl ?_
          try go_frame
          first | refine tq0 13 rfl ?_ | refine tq1 13 rfl ?_
          try go_frame
          refine wpAnyH_done (by kernel_rfl) ?_ _
          clear hHeld
          try go_wp2_with fail
          go_meet
          exact ⟨E, is, ep, lg, a, n, c, rfl, rfl, ⟨ZS3.out, GX3.out, B3.out⟩, X3.out, Y3.out⟩
  case rest =>
  obtain ⟨E, is, ep, lg, a, n, c, rfl, rfl, ht, hx, hy⟩ := hcut
  have KC := Lib.hid (fun (w : World) (kb : Below wc.heap.size wc w) => by
    obtain ⟨e0, e1, e2⟩ := three_of (heap_stays13 ht.box kb)
    obtain ⟨x0, x1, x2⟩ := three_of (heap_stays13 hx kb)
    obtain ⟨y0, y1, y2⟩ := three_of (heap_stays13 hy kb)
    exact And.intro e0 (And.intro e1 (And.intro e2 (And.intro x0 (And.intro x1 (And.intro x2 (And.intro y0 (And.intro y1 y2))))))))
  have BC := Lib.hid ht.b
  have GT := Lib.hid ht.got
  have WA := Lib.hid (show LstI lA (.slice aA nA cA) wc from Sl.below VA.out ht.b)
  have WB := Lib.hid (show LstI lB (.slice aB nB cB) wc from Sl.below VB.out ht.b)
  clear ht hx hy
  go_upto_region 9 with fail
  cases is with
  | false =>
    refine wp_region_held_drew (S := (fun w' => w'.cell? ⟨E, 0, none⟩ = some (.int .i64 ep) ∧ w'.cell? ⟨E, 1, none⟩ = some (.int .i64 lg) ∧ w'.cell? ⟨E, 2, none⟩ = some (.slice a n c) ∧ w'.cell? ⟨C, 0, none⟩ = some (.int .i64 ea) ∧ w'.cell? ⟨C, 1, none⟩ = some (.int .i64 la) ∧ w'.cell? ⟨C, 2, none⟩ = some (.slice aA nA cA) ∧ w'.cell? ⟨D, 0, none⟩ = some (.int .i64 eb) ∧ w'.cell? ⟨D, 1, none⟩ = some (.int .i64 lb) ∧ w'.cell? ⟨D, 2, none⟩ = some (.slice aB nB cB))) (by kernel_rfl) ?_ (fun hHeld => ?_)
    · exact KC.out _ (bdrew wc)
    have K0 := Lib.hid (bdrew wc)
    change wpAnyH _ _ _ _ _ _ _ _ (World.drew wc)
    generalize World.drew wc = y0 at *
    refine wpAnyH_ready (rs := [0]) (by kernel_rfl) (by simp) ?_
    refine AllReadyH.cons (o := ⟨_, _, _, _, _, _⟩) rfl (fun K hK => ?_) AllReadyH.nil
    go_simp
    refine (HA.out y0).mono ?_
    rintro e y1 ⟨rfl, hb⟩
    have K1 := Lib.hid (bthen K0.out hb)
    clear hb
    refine hK.out _ _ (KC.out _ K1.out) (fun hHeld => ?_)
    clear hK K
    try go_frame
    first | refine tq0 1 rfl ?_ | refine tq1 1 rfl ?_
    try go_frame
    first | refine tq0 2 rfl ?_ | refine tq1 2 rfl ?_
    try go_frame
    first | refine tq0 3 rfl ?_ | refine tq1 3 rfl ?_
    try go_frame
    first | refine tq0 4 rfl ?_ | refine tq1 4 rfl ?_
    try go_frame
    first | refine tq0 5 rfl ?_ | refine tq1 5 rfl ?_
    try go_frame
    first | refine tq0 6 rfl ?_ | refine tq1 6 rfl ?_
    try go_frame
    first | refine tq0 7 rfl ?_ | refine tq1 7 rfl ?_
    try go_frame
    first | refine tq0 8 rfl ?_ | refine tq1 8 rfl ?_
    try go_frame
    first | refine tq0 9 rfl ?_ | refine tq1 9 rfl ?_
    try go_frame
    first | refine tq0 10 rfl ?_ | refine tq1 10 rfl ?_
    try go_frame
    first | refine tq0 11 rfl ?_ | refine tq1 11 rfl ?_
    try go_frame
    first | refine tq0 12 rfl ?_ | refine tq1 12 rfl ?_
    try go_frame
    first | refine tq0 13 rfl ?_ | refine tq1 13 rfl ?_
    try go_frame
    first | refine tq0 14 rfl ?_ | refine tq1 14 rfl ?_
    try go_frame
    first | refine tq0 15 rfl ?_ | refine tq1 15 rfl ?_
    try go_frame
    first | refine tq0 16 rfl ?_ | refine tq1 16 rfl ?_
    try go_frame
    first | refine tq0 17 rfl ?_ | refine tq1 17 rfl ?_
    try go_frame
    refine wpAnyH_done (by kernel_rfl) ?_ _
    clear hHeld
    have BF := Lib.hid (bthen BC.out K1.out)
    go_wp2_with fail
    go_ret
    exact ⟨rfl, BF.out⟩
  | true =>
    obtain ⟨x, hs, h1, h2, hl⟩ := GT.out rfl
    have HSX := Lib.hid hs
    have HL := Lib.hid hl
    have HT : Hid (x = ⟨ea, la, lA⟩ ∨ x = ⟨eb, lb, lB⟩) := Lib.hid (by
      have h := HSX.out
      rw [SA.out, SB.out] at h
      exact torn_root GA.out GB.out Q3.out k hk64 h)
    clear hs hl GT HSX
    rcases HT.out with hx | hx
    · rw [hx] at h1 h2 HL
      change ea = ep at h1
      change la = lg at h2
      change Hid (LstI lA _ _) at HL
      subst h1 h2
      clear hx HT
      have OF : Hid (∀ w, Calls Try.prog 11 #[.agg #[.int .i64 ea, .int .i64 la, .slice a n c]] w fun e w' => e = .returned (.agg #[.int .i64 ea, .int .i64 la, .slice a n c]) ∧ Below w.heap.size w w') := Lib.hid (fun w => of13_any ea la a n c w)
      have SM : Hid (∀ w, Below wc.heap.size wc w → Calls Try.prog 10 #[.agg #[.int .i64 ea, .int .i64 la, .slice a n c], .agg #[.int .i64 ea, .int .i64 la, .slice aA nA cA]] w fun e w' => e = .returned (.bool true) ∧ Below w.heap.size w w') := Lib.hid (fun w k => rsame13_eq ea la lA _ _ w (HL.out.below k) (WA.out.below k))
      refine wp_region_held_drew (S := (fun w' => w'.cell? ⟨E, 0, none⟩ = some (.int .i64 ea) ∧ w'.cell? ⟨E, 1, none⟩ = some (.int .i64 la) ∧ w'.cell? ⟨E, 2, none⟩ = some (.slice a n c) ∧ w'.cell? ⟨C, 0, none⟩ = some (.int .i64 ea) ∧ w'.cell? ⟨C, 1, none⟩ = some (.int .i64 la) ∧ w'.cell? ⟨C, 2, none⟩ = some (.slice aA nA cA) ∧ w'.cell? ⟨D, 0, none⟩ = some (.int .i64 eb) ∧ w'.cell? ⟨D, 1, none⟩ = some (.int .i64 lb) ∧ w'.cell? ⟨D, 2, none⟩ = some (.slice aB nB cB))) (by kernel_rfl) ?_ (fun hHeld => ?_)
      · exact KC.out _ (bdrew wc)
      have K0 := Lib.hid (bdrew wc)
      change wpAnyH _ _ _ _ _ _ _ _ (World.drew wc)
      generalize World.drew wc = y0 at *
      refine wpAnyH_ready (rs := [0]) (by kernel_rfl) (by simp) ?_
      refine AllReadyH.cons (o := ⟨_, _, _, _, _, _⟩) rfl (fun K hK => ?_) AllReadyH.nil
      go_simp
      refine (HA.out y0).mono ?_
      rintro e y1 ⟨rfl, hb⟩
      have K1 := Lib.hid (bthen K0.out hb)
      clear hb
      refine hK.out _ _ (KC.out _ K1.out) (fun hHeld => ?_)
      clear hK K
      try go_frame
      first | refine tq0 1 rfl ?_ | refine tq1 1 rfl ?_
      try go_frame
      first | refine tq0 2 rfl ?_ | refine tq1 2 rfl ?_
      try go_frame
      first | refine tq0 3 rfl ?_ | refine tq1 3 rfl ?_
      try go_frame
      first | refine tq0 4 rfl ?_ | refine tq1 4 rfl ?_
      try go_frame
      first | refine tq0 5 rfl ?_ | refine tq1 5 rfl ?_
      try go_frame
      first | refine tq0 7 rfl ?_ | refine tq1 7 rfl ?_
      try go_frame
      refine wpAnyH_ready (rs := [6]) (by kernel_rfl) (by simp) ?_
      refine AllReadyH.cons (o := ⟨_, _, _, _, _, _⟩) rfl (fun K hK => ?_) AllReadyH.nil
      go_simp
      refine (OF.out y1).mono ?_
      rintro e y2 ⟨rfl, hb⟩
      have K2 := Lib.hid (bthen K1.out hb)
      clear hb
      refine hK.out _ _ (KC.out _ K2.out) (fun hHeld => ?_)
      clear hK K
      try go_frame
      refine wpAnyH_ready (rs := [8]) (by kernel_rfl) (by simp) ?_
      refine AllReadyH.cons (o := ⟨_, _, _, _, _, _⟩) rfl (fun K hK => ?_) AllReadyH.nil
      go_simp
      refine (SM.out y2 K2.out).mono ?_
      rintro e y3 ⟨rfl, hb⟩
      have K3 := Lib.hid (bthen K2.out hb)
      clear hb
      refine hK.out _ _ (KC.out _ K3.out) (fun hHeld => ?_)
      clear hK K
      try go_frame
      first | refine tq0 9 rfl ?_ | refine tq1 9 rfl ?_
      try go_frame
      first | refine tq0 10 rfl ?_ | refine tq1 10 rfl ?_
      try go_frame
      first | refine tq0 11 rfl ?_ | refine tq1 11 rfl ?_
      try go_frame
      first | refine tq0 12 rfl ?_ | refine tq1 12 rfl ?_
      try go_frame
      first | refine tq0 13 rfl ?_ | refine tq1 13 rfl ?_
      try go_frame
      first | refine tq0 14 rfl ?_ | refine tq1 14 rfl ?_
      try go_frame
      first | refine tq0 15 rfl ?_ | refine tq1 15 rfl ?_
      try go_frame
      first | refine tq0 16 rfl ?_ | refine tq1 16 rfl ?_
      try go_frame
      first | refine tq0 17 rfl ?_ | refine tq1 17 rfl ?_
      try go_frame
      refine wpAnyH_done (by kernel_rfl) ?_ _
      clear hHeld
      have BF := Lib.hid (bthen BC.out K3.out)
      go_wp2_with fail
      go_ret
      exact ⟨rfl, BF.out⟩
    · rw [hx] at h1 h2 HL
      change eb = ep at h1
      change lb = lg at h2
      change Hid (LstI lB _ _) at HL
      subst h1 h2
      clear hx HT
      have OF : Hid (∀ w, Calls Try.prog 11 #[.agg #[.int .i64 eb, .int .i64 lb, .slice a n c]] w fun e w' => e = .returned (.agg #[.int .i64 eb, .int .i64 lb, .slice a n c]) ∧ Below w.heap.size w w') := Lib.hid (fun w => of13_any eb lb a n c w)
      have SN : Hid (∀ w, Calls Try.prog 10 #[.agg #[.int .i64 eb, .int .i64 lb, .slice a n c], .agg #[.int .i64 ea, .int .i64 la, .slice aA nA cA]] w fun e w' => e = .returned (.bool false) ∧ Below w.heap.size w w') := Lib.hid (fun w => rsame13_ep eb ea lb la (fun h => Q3.out h.symm) a aA n c nA cA w)
      have SM : Hid (∀ w, Below wc.heap.size wc w → Calls Try.prog 10 #[.agg #[.int .i64 eb, .int .i64 lb, .slice a n c], .agg #[.int .i64 eb, .int .i64 lb, .slice aB nB cB]] w fun e w' => e = .returned (.bool true) ∧ Below w.heap.size w w') := Lib.hid (fun w k => rsame13_eq eb lb lB _ _ w (HL.out.below k) (WB.out.below k))
      refine wp_region_held_drew (S := (fun w' => w'.cell? ⟨E, 0, none⟩ = some (.int .i64 eb) ∧ w'.cell? ⟨E, 1, none⟩ = some (.int .i64 lb) ∧ w'.cell? ⟨E, 2, none⟩ = some (.slice a n c) ∧ w'.cell? ⟨C, 0, none⟩ = some (.int .i64 ea) ∧ w'.cell? ⟨C, 1, none⟩ = some (.int .i64 la) ∧ w'.cell? ⟨C, 2, none⟩ = some (.slice aA nA cA) ∧ w'.cell? ⟨D, 0, none⟩ = some (.int .i64 eb) ∧ w'.cell? ⟨D, 1, none⟩ = some (.int .i64 lb) ∧ w'.cell? ⟨D, 2, none⟩ = some (.slice aB nB cB))) (by kernel_rfl) ?_ (fun hHeld => ?_)
      · exact KC.out _ (bdrew wc)
      have K0 := Lib.hid (bdrew wc)
      change wpAnyH _ _ _ _ _ _ _ _ (World.drew wc)
      generalize World.drew wc = y0 at *
      refine wpAnyH_ready (rs := [0]) (by kernel_rfl) (by simp) ?_
      refine AllReadyH.cons (o := ⟨_, _, _, _, _, _⟩) rfl (fun K hK => ?_) AllReadyH.nil
      go_simp
      refine (HA.out y0).mono ?_
      rintro e y1 ⟨rfl, hb⟩
      have K1 := Lib.hid (bthen K0.out hb)
      clear hb
      refine hK.out _ _ (KC.out _ K1.out) (fun hHeld => ?_)
      clear hK K
      try go_frame
      first | refine tq0 1 rfl ?_ | refine tq1 1 rfl ?_
      try go_frame
      first | refine tq0 2 rfl ?_ | refine tq1 2 rfl ?_
      try go_frame
      first | refine tq0 3 rfl ?_ | refine tq1 3 rfl ?_
      try go_frame
      first | refine tq0 4 rfl ?_ | refine tq1 4 rfl ?_
      try go_frame
      first | refine tq0 5 rfl ?_ | refine tq1 5 rfl ?_
      try go_frame
      first | refine tq0 7 rfl ?_ | refine tq1 7 rfl ?_
      try go_frame
      refine wpAnyH_ready (rs := [6]) (by kernel_rfl) (by simp) ?_
      refine AllReadyH.cons (o := ⟨_, _, _, _, _, _⟩) rfl (fun K hK => ?_) AllReadyH.nil
      go_simp
      refine (OF.out y1).mono ?_
      rintro e y2 ⟨rfl, hb⟩
      have K2 := Lib.hid (bthen K1.out hb)
      clear hb
      refine hK.out _ _ (KC.out _ K2.out) (fun hHeld => ?_)
      clear hK K
      try go_frame
      refine wpAnyH_ready (rs := [8]) (by kernel_rfl) (by simp) ?_
      refine AllReadyH.cons (o := ⟨_, _, _, _, _, _⟩) rfl (fun K hK => ?_) AllReadyH.nil
      go_simp
      refine (SN.out y2).mono ?_
      rintro e y3 ⟨rfl, hb⟩
      have K3 := Lib.hid (bthen K2.out hb)
      clear hb
      refine hK.out _ _ (KC.out _ K3.out) (fun hHeld => ?_)
      clear hK K
      try go_frame
      first | refine tq0 9 rfl ?_ | refine tq1 9 rfl ?_
      try go_frame
      first | refine tq0 10 rfl ?_ | refine tq1 10 rfl ?_
      try go_frame
      first | refine tq0 11 rfl ?_ | refine tq1 11 rfl ?_
      try go_frame
      first | refine tq0 13 rfl ?_ | refine tq1 13 rfl ?_
      try go_frame
      refine wpAnyH_ready (rs := [12]) (by kernel_rfl) (by simp) ?_
      refine AllReadyH.cons (o := ⟨_, _, _, _, _, _⟩) rfl (fun K hK => ?_) AllReadyH.nil
      go_simp
      refine (OF.out y3).mono ?_
      rintro e y4 ⟨rfl, hb⟩
      have K4 := Lib.hid (bthen K3.out hb)
      clear hb
      refine hK.out _ _ (KC.out _ K4.out) (fun hHeld => ?_)
      clear hK K
      try go_frame
      refine wpAnyH_ready (rs := [14]) (by kernel_rfl) (by simp) ?_
      refine AllReadyH.cons (o := ⟨_, _, _, _, _, _⟩) rfl (fun K hK => ?_) AllReadyH.nil
      go_simp
      refine (SM.out y4 K4.out).mono ?_
      rintro e y5 ⟨rfl, hb⟩
      have K5 := Lib.hid (bthen K4.out hb)
      clear hb
      refine hK.out _ _ (KC.out _ K5.out) (fun hHeld => ?_)
      clear hK K
      try go_frame
      first | refine tq0 15 rfl ?_ | refine tq1 15 rfl ?_
      try go_frame
      first | refine tq0 16 rfl ?_ | refine tq1 16 rfl ?_
      try go_frame
      first | refine tq0 17 rfl ?_ | refine tq1 17 rfl ?_
      try go_frame
      refine wpAnyH_done (by kernel_rfl) ?_ _
      clear hHeld
      have BF := Lib.hid (bthen BC.out K5.out)
      go_wp2_with fail
      go_ret
      exact ⟨rfl, BF.out⟩

end Go.Proofs.Ytaaagmcdbmppmaa
