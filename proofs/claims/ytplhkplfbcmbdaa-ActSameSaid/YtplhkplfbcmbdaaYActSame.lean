/- The walk of the law ActSame, over whatever the program's Same and Copy are known to answer. -/
import Derived.Test.YtplhkplfbcmbdaaYZ27
import Derived.Test.YtplhkplfbcmbdaaYZ3
namespace Go.Proofs.Ytplhkplfbcmbdaa
open Go.RowKit Go.Deep
set_option linter.unusedVariables false
set_option maxRecDepth 100000

/-- one more, round the end -/
def incI (x : Int) : Int := wrap64 (x + 1)
theorem incI_ne (x : Int) : incI x ≠ x := by unfold incI wrap64; omega
def incF (f : Nat → Int) (j : Nat) : Nat → Int := fun i => if i < j then incI (f i) else f i
theorem incF_zero (f : Nat → Int) : incF f 0 = f := by funext i; unfold incF; rw [if_neg (Nat.not_lt_zero i)]
theorem incF_at (f : Nat → Int) (j : Nat) : incF f j j = f j := by unfold incF; rw [if_neg (Nat.lt_irrefl j)]
theorem incF_succ (f : Nat → Int) (j : Nat) : upd (incF f j) j (incI (f j)) = incF f (j + 1) := by
  funext i
  unfold upd incF
  by_cases h : i = j
  · subst h; rw [if_pos rfl, if_pos (by omega)]
  · rw [if_neg h]
    by_cases h2 : i < j
    · rw [if_pos h2, if_pos (by omega)]
    · rw [if_neg h2, if_neg (by omega)]
/-- what stays: the two states boxed, the two copies -/
structure SSt (w : World) (a b : Sta) (aA : Option Addr) (cA : Nat) (aB : Option Addr) (cB : Nat) (ba bb : Nat) (x1 : Option Addr) (y1 : Nat) (x2 : Option Addr) (y2 : Nat) (fd : Nat → Int) (u : World) : Prop where
  ka : u.heap[w.heap.size]? = some (.cells #[.slice aA a.nw cA, .int .i64 a.sent, .int .i64 a.dice] 37)
  kb : u.heap[w.heap.size + 1]? = some (.cells #[.slice aB b.nw cB, .int .i64 b.sent, .int .i64 b.dice] 37)
  kc : u.heap[ba]? = some (.cells #[.slice x1 a.nw y1, .int .i64 a.sent, .int .i64 a.dice] 37 (0, 0))
  kd : u.heap[bb]? = some (.cells #[.slice x2 a.nw y2, .int .i64 a.sent, .int .i64 a.dice] 37 (0, 0))
  r1 : u.ownsRow w.heap.size 3 1 (.slice x1 a.nw y1) a.nw (rowCells 1 (gW a.w) a.nw)
  r2 : u.ownsRow w.heap.size 3 1 (.slice x2 a.nw y2) a.nw (rowCells 1 (gW fd) a.nw)
  ap : ∀ g, (Value.slice x1 a.nw y1).ownBlock = some g → (Value.slice x2 a.nw y2).ownBlock ≠ some g
  low : Below w.heap.size w u
section
variable {w : World} {a b : Sta} {aA : Option Addr} {cA : Nat} {aB : Option Addr} {cB : Nat} {ba bb : Nat} {x1 : Option Addr} {y1 : Nat} {x2 : Option Addr} {y2 : Nat} {fd : Nat → Int} {u u2 : World}
theorem SSt.below (h : SSt w a b aA cA aB cB ba bb x1 y1 x2 y2 fd u) (k : Below u.heap.size u u2) : SSt w a b aA cA aB cB ba bb x1 y1 x2 y2 fd u2 :=
  ⟨(k.block _ (lt_of_block h.ka)).trans h.ka, (k.block _ (lt_of_block h.kb)).trans h.kb, (k.block _ (lt_of_block h.kc)).trans h.kc, (k.block _ (lt_of_block h.kd)).trans h.kd, own_below h.r1 k, own_below h.r2 k, h.ap, bthen h.low k⟩
theorem SSt.set (h : SSt w a b aA cA aB cB ba bb x1 y1 x2 y2 fd u) {j : Nat} (hj : j < a.nw) : ∃ bw, x2 = some ⟨bw, 0, none⟩ ∧ u.cell? ⟨bw, j, none⟩ = some (.int .i64 (fd j)) ∧ (∀ q, u.frozen? ⟨bw, q, none⟩ = false) ∧ a.nw ≤ y2 ∧
    ∀ x, SSt w a b aA cA aB cB ba bb x1 y1 x2 y2 (upd fd j x) (u.setCell ⟨bw, j, none⟩ (.int .i64 x)) := by
  obtain ⟨_, _, e9, hle, _, _⟩ := own_sl h.r2
  simp only [Value.slice.injEq, true_and] at e9
  obtain ⟨bw, cap, e1, e2, e3, e4, e5⟩ := own_set h.r2 hj
  simp only [Value.slice.injEq, true_and] at e1
  obtain ⟨rfl, rfl⟩ := e1
  have n : ∀ k {c : Array Value} {f : Nat × Nat}, u.heap[k]? = some (.cells c 37 f) → k ≠ bw := fun k c f hk => by
    rintro rfl
    exact own_not h.r2 hk (by decide) rfl
  refine ⟨bw, rfl, e3, e4, by rw [e9.2]; exact hle, fun x => ⟨?_, ?_, ?_, ?_, own_setCell h.r1 (fun e => h.ap _ e rfl), e5 x, h.ap, h.low.setCell (p := ⟨bw, j, none⟩) e2 _⟩⟩
  · exact (Below.heap_setCell u ⟨bw, j, none⟩ _ _ (n _ h.ka)).trans h.ka
  · exact (Below.heap_setCell u ⟨bw, j, none⟩ _ _ (n _ h.kb)).trans h.kb
  · exact (Below.heap_setCell u ⟨bw, j, none⟩ _ _ (n _ h.kc)).trans h.kc
  · exact (Below.heap_setCell u ⟨bw, j, none⟩ _ _ (n _ h.kd)).trans h.kd
end
set_option maxHeartbeats 6400000 in
theorem actSame_core (HAW : Hid (∀ w, Calls Try.prog 10 #[] w fun e w' => e = .returned (.bool true) ∧ Below w.heap.size w w')) (HSA : Hid SameAny8) (HCA : Hid CopyAny8)
    (a b : Sta) (va vb : Value) (w : World) (ha : Sl 1 (gW a.w) a.nw va w) (hb : Sl 1 (gW b.w) b.nw vb w) :
    Calls Try.prog 7 #[sval a va, sval b vb] w fun e w' => e = .returned (.bool true) ∧ Below w.heap.size w w' := by
  obtain ⟨aA, cA, rfl, _, _, _⟩ := id ha
  obtain ⟨aB, cB, rfl, _, _, _⟩ := id hb
  unfold sval
  have XA : Hid (((w.alloc (.cells #[.slice aA a.nw cA, .int .i64 a.sent, .int .i64 a.dice] 37)).alloc (.cells #[.slice aB b.nw cB, .int .i64 b.sent, .int .i64 b.dice] 37)).heap[w.heap.size]? = some (.cells #[.slice aA a.nw cA, .int .i64 a.sent, .int .i64 a.dice] 37)) := (Below.heap_alloc _ _ _ (by rw [World.size_alloc]; omega)).trans (heap_alloc_new w _)
  have XB : Hid (((w.alloc (.cells #[.slice aA a.nw cA, .int .i64 a.sent, .int .i64 a.dice] 37)).alloc (.cells #[.slice aB b.nw cB, .int .i64 b.sent, .int .i64 b.dice] 37)).heap[w.heap.size + 1]? = some (.cells #[.slice aB b.nw cB, .int .i64 b.sent, .int .i64 b.dice] 37)) := by
    have := heap_alloc_new (w.alloc (.cells #[.slice aA a.nw cA, .int .i64 a.sent, .int .i64 a.dice] 37)) (.cells #[.slice aB b.nw cB, .int .i64 b.sent, .int .i64 b.dice] 37)
    rwa [World.size_alloc] at this
  have SZ : Hid (((w.alloc (.cells #[.slice aA a.nw cA, .int .i64 a.sent, .int .i64 a.dice] 37)).alloc (.cells #[.slice aB b.nw cB, .int .i64 b.sent, .int .i64 b.dice] 37)).heap.size = w.heap.size + 2) := by show _ = _; rw [World.size_alloc, World.size_alloc]
  have B1 := Lib.hid (bthen (balloc w (.cells #[.slice aA a.nw cA, .int .i64 a.sent, .int .i64 a.dice] 37)) (balloc _ (.cells #[.slice aB b.nw cB, .int .i64 b.sent, .int .i64 b.dice] 37)))
  have HA := Lib.hid ha
  have HB := Lib.hid hb
  clear ha hb
  obtain ⟨a0, a1, a2⟩ := three_cells8 XA.out
  obtain ⟨b0, b1, b2⟩ := three_cells8 XB.out
  generalize hu : ((w.alloc (.cells #[.slice aA a.nw cA, .int .i64 a.sent, .int .i64 a.dice] 37)).alloc (.cells #[.slice aB b.nw cB, .int .i64 b.sent, .int .i64 b.dice] 37)) = u at *
  go_enter Try.func7, Try.ntmps7
  go_upto_region 1 with fail
  try rw [hu]
  clear hu
  by_cases h1 : 100 < a.nw
  · have d1 : decide ((100 : Int) < (a.nw : Int)) = true := by simp; omega
    clear h1
    go_wp2_with (go_at_call 10; refine (HAW.out _).mono ?_; rintro x w9 ⟨rfl, hb9⟩; have BU := Lib.hid (bthen B1.out hb9); clear hb9)
    go_ret
    exact ⟨rfl, BU.out⟩
  have d1 : decide ((100 : Int) < (a.nw : Int)) = false := by simp; omega
  by_cases h2 : 100 < b.nw
  · have d2 : decide ((100 : Int) < (b.nw : Int)) = true := by simp; omega
    clear h1 h2
    go_wp2_with (go_at_call 10; refine (HAW.out _).mono ?_; rintro x w9 ⟨rfl, hb9⟩; have BU := Lib.hid (bthen B1.out hb9); clear hb9)
    go_ret
    exact ⟨rfl, BU.out⟩
  have d2 : decide ((100 : Int) < (b.nw : Int)) = false := by simp; omega
  have H100 := Lib.hid (Nat.le_of_not_lt h1)
  clear h1 h2
  go_upto_region 3 with fail
  go_cut [5, 6] (fun v5 v6 wx => ∃ ba bb x1 y1 x2 y2, v5 = .pointer (some ⟨ba, 0, none⟩) ∧ v6 = .pointer (some ⟨bb, 0, none⟩) ∧ SSt w a b aA cA aB cB ba bb x1 y1 x2 y2 a.w wx)
  case first =>
    have HC : Hid (∀ u2, Below w.heap.size w u2 → Calls Try.prog 24 #[.agg #[.slice aA a.nw cA, .int .i64 a.sent, .int .i64 a.dice]] u2 fun e w' => ∃ v, e = .returned v ∧ StaAt u2.heap.size a v w' ∧ Below u2.heap.size u2 w') := fun u2 k => HCA.out a _ u2 H100.out (HA.out.below k)
    have SS : ∀ u2, Below (w.heap.size + 2) u u2 → (fun w' => w'.cell? ⟨w.heap.size, 0, none⟩ = some (.slice aA a.nw cA) ∧ w'.cell? ⟨w.heap.size, 1, none⟩ = some (.int .i64 a.sent) ∧ w'.cell? ⟨w.heap.size, 2, none⟩ = some (.int .i64 a.dice)) u2 := fun u2 k => three_cells8 ((k.block _ (by omega)).trans XA.out)
    have SS := Lib.hid SS
    have LL : ∀ u2, Below (w.heap.size + 2) u u2 → Below w.heap.size w u2 := fun u2 k => B1.out.trans (k.mono (by omega))
    have LL := Lib.hid LL
    have L0 : Hid (Below (w.heap.size + 2) u u.drew) := (Below.refl _ _).drew
    have G0 : Hid (w.heap.size + 2 ≤ u.drew.heap.size) := by show _ ≤ u.heap.size; rw [SZ.out]; exact Nat.le_refl _
    refine wp_region_held_drew (S := (fun w' => w'.cell? ⟨w.heap.size, 0, none⟩ = some (.slice aA a.nw cA) ∧ w'.cell? ⟨w.heap.size, 1, none⟩ = some (.int .i64 a.sent) ∧ w'.cell? ⟨w.heap.size, 2, none⟩ = some (.int .i64 a.dice))) (by kernel_rfl) ?_ (fun hHeld => ?_)
    · exact SS.out _ L0.out
    change wpAnyH _ _ _ _ _ _ _ _ (World.drew u)
    clear a0 a1 a2 b0 b1 b2
    generalize u.drew = u0 at *
    first
      | refine tk0 0 (oi := ⟨_, _, _, _, _, _⟩) rfl ?_
      | refine tk1 0 (oi := ⟨_, _, _, _, _, _⟩) (v := ?_) rfl ?_ ?_; rotate_left; · (intro w5 hSw; (try dsimp only at hSw); go_simp; (try with_reducible rfl))
    try simp only [Act.put, List.setIfInBounds_toArray, List.set_cons_zero, List.set_cons_succ]
    first
      | refine tk0 2 (oi := ⟨_, _, _, _, _, _⟩) rfl ?_
      | refine tk1 2 (oi := ⟨_, _, _, _, _, _⟩) (v := ?_) rfl ?_ ?_; rotate_left; · (intro w5 hSw; (try dsimp only at hSw); go_simp; (try with_reducible rfl))
    try simp only [Act.put, List.setIfInBounds_toArray, List.set_cons_zero, List.set_cons_succ]
    refine wpAnyH_ready (rs := [1, 4, 5]) (by kernel_rfl) (by simp) ?_
    refine AllReadyH.cons (o := ⟨_, _, _, _, _, _⟩) rfl (fun K hK => ?_) (AllReadyH.cons (o := ⟨_, _, _, _, _, _⟩) rfl (fun K hK => ?_) (AllReadyH.cons (o := ⟨_, _, _, _, _, _⟩) rfl (fun K hK => ?_) AllReadyH.nil))
    · go_simp
      go_at_call 24
      refine (HC.out _ (LL.out _ L0.out)).mono ?_
      rintro x u1 ⟨v, rfl, hv, hb9⟩
      obtain ⟨vW, rfl, hw9⟩ := hv
      obtain ⟨x1, y1, rfl, _, _, _⟩ := id (own_sl hw9)
      have L1 := Lib.hid (L0.out.trans (hb9.mono G0.out))
      have G1 := Lib.hid (Nat.le_trans G0.out hb9.size)
      have R1_1 := Lib.hid (own_lower hw9 (show w.heap.size ≤ u0.heap.size from Nat.le_trans (by omega) G0.out))
      unfold sval
      refine hK.out _ _ ?_ (fun hHeld => ?_)
      · exact SS.out _ L1.out
      clear hK K
      try simp only [Act.put, List.setIfInBounds_toArray, List.set_cons_zero, List.set_cons_succ]
      clear hb9 hw9
      refine wpAnyH_ready (rs := [3, 4, 5]) (by kernel_rfl) (by simp) ?_
      refine AllReadyH.cons (o := ⟨_, _, _, _, _, _⟩) rfl (fun K hK => ?_) (AllReadyH.cons (o := ⟨_, _, _, _, _, _⟩) rfl (fun K hK => ?_) (AllReadyH.cons (o := ⟨_, _, _, _, _, _⟩) rfl (fun K hK => ?_) AllReadyH.nil))
      · go_simp
        go_at_call 24
        refine (HC.out _ (LL.out _ L1.out)).mono ?_
        rintro x u2 ⟨v, rfl, hv, hb9⟩
        obtain ⟨vW, rfl, hw9⟩ := hv
        obtain ⟨x2, y2, rfl, _, _, _⟩ := id (own_sl hw9)
        have L2 := Lib.hid (L1.out.trans (hb9.mono G1.out))
        have G2 := Lib.hid (Nat.le_trans G1.out hb9.size)
        have R2_2 := Lib.hid (own_lower hw9 (show w.heap.size ≤ u1.heap.size from Nat.le_trans (by omega) G1.out))
        have AP : Hid (∀ g, (Value.slice x1 a.nw y1).ownBlock = some g → (Value.slice x2 a.nw y2).ownBlock ≠ some g) := fun g q1 q2 => by have := (own_lt R1_1.out q1).2; have := (own_lt hw9 q2).1; omega
        have R1_2 := Lib.hid (own_below R1_1.out hb9)
        unfold sval
        refine hK.out _ _ ?_ (fun hHeld => ?_)
        · exact SS.out _ L2.out
        clear hK K
        try simp only [Act.put, List.setIfInBounds_toArray, List.set_cons_zero, List.set_cons_succ]
        clear hb9 hw9
        refine wpAnyH_ready (rs := [4, 5]) (by kernel_rfl) (by simp) ?_
        refine AllReadyH.cons (o := ⟨_, _, _, _, _, _⟩) rfl (fun K hK => ?_) (AllReadyH.cons (o := ⟨_, _, _, _, _, _⟩) rfl (fun K hK => ?_) AllReadyH.nil)
        · go_simp
          have L3 := Lib.hid (L2.out.trans ((balloc u2 (.cells #[.slice none 0 0, .int .i64 0, .int .i64 0] 37)).mono G2.out))
          have G3 := Lib.hid (Nat.le_trans G2.out (balloc u2 (.cells #[.slice none 0 0, .int .i64 0, .int .i64 0] 37)).size)
          have Pc_3 := Lib.hid (heap_alloc_new u2 (.cells #[.slice none 0 0, .int .i64 0, .int .i64 0] 37))
          have Oc := Lib.hid G2.out
          have R1_3 := Lib.hid (own_below R1_2.out (balloc u2 (.cells #[.slice none 0 0, .int .i64 0, .int .i64 0] 37)))
          have R2_3 := Lib.hid (own_below R2_2.out (balloc u2 (.cells #[.slice none 0 0, .int .i64 0, .int .i64 0] 37)))
          refine hK.out _ _ ?_ (fun hHeld => ?_)
          · exact SS.out _ L3.out
          clear hK K
          try simp only [Act.put, List.setIfInBounds_toArray, List.set_cons_zero, List.set_cons_succ]
          generalize u2.alloc (.cells #[.slice none 0 0, .int .i64 0, .int .i64 0] 37) = u3 at *
          generalize u2.heap.size = ba at *
          refine wpAnyH_ready (rs := [5]) (by kernel_rfl) (by simp) ?_
          refine AllReadyH.cons (o := ⟨_, _, _, _, _, _⟩) rfl (fun K hK => ?_) AllReadyH.nil
          go_simp
          have L4 := Lib.hid (L3.out.trans ((balloc u3 (.cells #[.slice none 0 0, .int .i64 0, .int .i64 0] 37)).mono G3.out))
          have G4 := Lib.hid (Nat.le_trans G3.out (balloc u3 (.cells #[.slice none 0 0, .int .i64 0, .int .i64 0] 37)).size)
          have Pd_4 := Lib.hid (heap_alloc_new u3 (.cells #[.slice none 0 0, .int .i64 0, .int .i64 0] 37))
          have Od := Lib.hid G3.out
          have R1_4 := Lib.hid (own_below R1_3.out (balloc u3 (.cells #[.slice none 0 0, .int .i64 0, .int .i64 0] 37)))
          have R2_4 := Lib.hid (own_below R2_3.out (balloc u3 (.cells #[.slice none 0 0, .int .i64 0, .int .i64 0] 37)))
          have Pc_4 := Lib.hid ((Below.heap_alloc u3 (.cells #[.slice none 0 0, .int .i64 0, .int .i64 0] 37) _ (lt_of_block Pc_3.out)).trans Pc_3.out)
          have NE : Hid (ba ≠ u3.heap.size) := Nat.ne_of_lt (lt_of_block Pc_3.out)
          refine hK.out _ _ ?_ (fun hHeld => ?_)
          · exact SS.out _ L4.out
          clear hK K
          try simp only [Act.put, List.setIfInBounds_toArray, List.set_cons_zero, List.set_cons_succ]
          generalize u3.alloc (.cells #[.slice none 0 0, .int .i64 0, .int .i64 0] 37) = u4 at *
          generalize u3.heap.size = bb at *
          have hne : bb ≠ ba := NE.out.symm
          obtain ⟨q0, q1, q2⟩ := three_cells8 Pc_4.out
          have qf : ∀ q, u4.frozen? ⟨ba, q, none⟩ = false := fun q => Lib.frozen_of_heap Pc_4.out q
          have LA : Hid (Below (w.heap.size + 2) u (World.setCells u4 ba 0 [.slice x1 a.nw y1, .int .i64 a.sent, .int .i64 a.dice])) := L4.out.trans (put_low7 Oc.out [.slice x1 a.nw y1, .int .i64 a.sent, .int .i64 a.dice] 0 u4)
          have CA : Hid ((World.setCells u4 ba 0 [.slice x1 a.nw y1, .int .i64 a.sent, .int .i64 a.dice]).heap[ba]? = some (.cells #[.slice x1 a.nw y1, .int .i64 a.sent, .int .i64 a.dice] 37 (0, 0))) := put_three8 Pc_4.out _ _ _
          have DA : Hid ((World.setCells u4 ba 0 [.slice x1 a.nw y1, .int .i64 a.sent, .int .i64 a.dice]).heap[bb]? = some (.cells #[.slice none 0 0, .int .i64 0, .int .i64 0] 37)) := (setCells_other8 hne _ 0 _).trans Pd_4.out
          have RA := Lib.hid (own_setCells (own_not R1_4.out Pc_4.out (by decide)) [.slice x1 a.nw y1, .int .i64 a.sent, .int .i64 a.dice] 0 _ R1_4.out)
          have RB := Lib.hid (own_setCells (own_not R2_4.out Pc_4.out (by decide)) [.slice x1 a.nw y1, .int .i64 a.sent, .int .i64 a.dice] 0 _ R2_4.out)
          refine wpAnyH_ready (rs := [6]) (by kernel_rfl) (by simp) ?_
          refine AllReadyH.cons (o := ⟨_, _, _, _, _, _⟩) rfl (fun K hK => ?_) AllReadyH.nil
          go_simp
          change K _ (World.setCells u4 ba 0 [.slice x1 a.nw y1, .int .i64 a.sent, .int .i64 a.dice])
          refine hK.out _ _ ?_ (fun hHeld => ?_)
          · exact SS.out _ LA.out
          clear hK K q0 q1 q2 qf
          try simp only [Act.put, List.setIfInBounds_toArray, List.set_cons_zero, List.set_cons_succ]
          generalize (World.setCells u4 ba 0 [.slice x1 a.nw y1, .int .i64 a.sent, .int .i64 a.dice]) = v1 at *
          obtain ⟨q0, q1, q2⟩ := three_cells8 DA.out
          have qf : ∀ q, v1.frozen? ⟨bb, q, none⟩ = false := fun q => Lib.frozen_of_heap DA.out q
          have LB : Hid (Below (w.heap.size + 2) u (World.setCells v1 bb 0 [.slice x2 a.nw y2, .int .i64 a.sent, .int .i64 a.dice])) := LA.out.trans (put_low7 Od.out [.slice x2 a.nw y2, .int .i64 a.sent, .int .i64 a.dice] 0 v1)
          have FIN : Hid (SSt w a b aA cA aB cB ba bb x1 y1 x2 y2 a.w (World.setCells v1 bb 0 [.slice x2 a.nw y2, .int .i64 a.sent, .int .i64 a.dice])) := ⟨(LB.out.block _ (by omega)).trans XA.out, (LB.out.block _ (by omega)).trans XB.out, (setCells_other8 hne.symm _ 0 _).trans CA.out, put_three8 DA.out _ _ _, own_setCells (own_not RA.out DA.out (by decide)) [.slice x2 a.nw y2, .int .i64 a.sent, .int .i64 a.dice] 0 _ RA.out, own_setCells (own_not RB.out DA.out (by decide)) [.slice x2 a.nw y2, .int .i64 a.sent, .int .i64 a.dice] 0 _ RB.out, AP.out, LL.out _ LB.out⟩
          refine wpAnyH_ready (rs := [7]) (by kernel_rfl) (by simp) ?_
          refine AllReadyH.cons (o := ⟨_, _, _, _, _, _⟩) rfl (fun K hK => ?_) AllReadyH.nil
          go_simp
          change K _ (World.setCells v1 bb 0 [.slice x2 a.nw y2, .int .i64 a.sent, .int .i64 a.dice])
          refine hK.out _ _ ?_ (fun hHeld => ?_)
          · exact SS.out _ LB.out
          clear hK K q0 q1 q2 qf
          try simp only [Act.put, List.setIfInBounds_toArray, List.set_cons_zero, List.set_cons_succ]
          refine wpAnyH_done (by kernel_rfl) ?_ _
          change Exit.then _ _ _ _ (World.setCells v1 bb 0 [.slice x2 a.nw y2, .int .i64 a.sent, .int .i64 a.dice])
          generalize World.setCells v1 bb 0 [.slice x2 a.nw y2, .int .i64 a.sent, .int .i64 a.dice] = v2 at *
          go_wp2_with fail
          go_meet
          exact ⟨_, _, _, _, _, _, rfl, rfl, FIN.out⟩
        · go_simp
          have L3 := Lib.hid (L2.out.trans ((balloc u2 (.cells #[.slice none 0 0, .int .i64 0, .int .i64 0] 37)).mono G2.out))
          have G3 := Lib.hid (Nat.le_trans G2.out (balloc u2 (.cells #[.slice none 0 0, .int .i64 0, .int .i64 0] 37)).size)
          have Pd_3 := Lib.hid (heap_alloc_new u2 (.cells #[.slice none 0 0, .int .i64 0, .int .i64 0] 37))
          have Od := Lib.hid G2.out
          have R1_3 := Lib.hid (own_below R1_2.out (balloc u2 (.cells #[.slice none 0 0, .int .i64 0, .int .i64 0] 37)))
          have R2_3 := Lib.hid (own_below R2_2.out (balloc u2 (.cells #[.slice none 0 0, .int .i64 0, .int .i64 0] 37)))
          refine hK.out _ _ ?_ (fun hHeld => ?_)
          · exact SS.out _ L3.out
          clear hK K
          try simp only [Act.put, List.setIfInBounds_toArray, List.set_cons_zero, List.set_cons_succ]
          generalize u2.alloc (.cells #[.slice none 0 0, .int .i64 0, .int .i64 0] 37) = u3 at *
          generalize u2.heap.size = bb at *
          refine wpAnyH_ready (rs := [4]) (by kernel_rfl) (by simp) ?_
          refine AllReadyH.cons (o := ⟨_, _, _, _, _, _⟩) rfl (fun K hK => ?_) AllReadyH.nil
          go_simp
          have L4 := Lib.hid (L3.out.trans ((balloc u3 (.cells #[.slice none 0 0, .int .i64 0, .int .i64 0] 37)).mono G3.out))
          have G4 := Lib.hid (Nat.le_trans G3.out (balloc u3 (.cells #[.slice none 0 0, .int .i64 0, .int .i64 0] 37)).size)
          have Pc_4 := Lib.hid (heap_alloc_new u3 (.cells #[.slice none 0 0, .int .i64 0, .int .i64 0] 37))
          have Oc := Lib.hid G3.out
          have R1_4 := Lib.hid (own_below R1_3.out (balloc u3 (.cells #[.slice none 0 0, .int .i64 0, .int .i64 0] 37)))
          have R2_4 := Lib.hid (own_below R2_3.out (balloc u3 (.cells #[.slice none 0 0, .int .i64 0, .int .i64 0] 37)))
          have Pd_4 := Lib.hid ((Below.heap_alloc u3 (.cells #[.slice none 0 0, .int .i64 0, .int .i64 0] 37) _ (lt_of_block Pd_3.out)).trans Pd_3.out)
          have NE : Hid (bb ≠ u3.heap.size) := Nat.ne_of_lt (lt_of_block Pd_3.out)
          refine hK.out _ _ ?_ (fun hHeld => ?_)
          · exact SS.out _ L4.out
          clear hK K
          try simp only [Act.put, List.setIfInBounds_toArray, List.set_cons_zero, List.set_cons_succ]
          generalize u3.alloc (.cells #[.slice none 0 0, .int .i64 0, .int .i64 0] 37) = u4 at *
          generalize u3.heap.size = ba at *
          have hne : bb ≠ ba := NE.out
          obtain ⟨q0, q1, q2⟩ := three_cells8 Pc_4.out
          have qf : ∀ q, u4.frozen? ⟨ba, q, none⟩ = false := fun q => Lib.frozen_of_heap Pc_4.out q
          have LA : Hid (Below (w.heap.size + 2) u (World.setCells u4 ba 0 [.slice x1 a.nw y1, .int .i64 a.sent, .int .i64 a.dice])) := L4.out.trans (put_low7 Oc.out [.slice x1 a.nw y1, .int .i64 a.sent, .int .i64 a.dice] 0 u4)
          have CA : Hid ((World.setCells u4 ba 0 [.slice x1 a.nw y1, .int .i64 a.sent, .int .i64 a.dice]).heap[ba]? = some (.cells #[.slice x1 a.nw y1, .int .i64 a.sent, .int .i64 a.dice] 37 (0, 0))) := put_three8 Pc_4.out _ _ _
          have DA : Hid ((World.setCells u4 ba 0 [.slice x1 a.nw y1, .int .i64 a.sent, .int .i64 a.dice]).heap[bb]? = some (.cells #[.slice none 0 0, .int .i64 0, .int .i64 0] 37)) := (setCells_other8 hne _ 0 _).trans Pd_4.out
          have RA := Lib.hid (own_setCells (own_not R1_4.out Pc_4.out (by decide)) [.slice x1 a.nw y1, .int .i64 a.sent, .int .i64 a.dice] 0 _ R1_4.out)
          have RB := Lib.hid (own_setCells (own_not R2_4.out Pc_4.out (by decide)) [.slice x1 a.nw y1, .int .i64 a.sent, .int .i64 a.dice] 0 _ R2_4.out)
          refine wpAnyH_ready (rs := [6]) (by kernel_rfl) (by simp) ?_
          refine AllReadyH.cons (o := ⟨_, _, _, _, _, _⟩) rfl (fun K hK => ?_) AllReadyH.nil
          go_simp
          change K _ (World.setCells u4 ba 0 [.slice x1 a.nw y1, .int .i64 a.sent, .int .i64 a.dice])
          refine hK.out _ _ ?_ (fun hHeld => ?_)
          · exact SS.out _ LA.out
          clear hK K q0 q1 q2 qf
          try simp only [Act.put, List.setIfInBounds_toArray, List.set_cons_zero, List.set_cons_succ]
          generalize (World.setCells u4 ba 0 [.slice x1 a.nw y1, .int .i64 a.sent, .int .i64 a.dice]) = v1 at *
          obtain ⟨q0, q1, q2⟩ := three_cells8 DA.out
          have qf : ∀ q, v1.frozen? ⟨bb, q, none⟩ = false := fun q => Lib.frozen_of_heap DA.out q
          have LB : Hid (Below (w.heap.size + 2) u (World.setCells v1 bb 0 [.slice x2 a.nw y2, .int .i64 a.sent, .int .i64 a.dice])) := LA.out.trans (put_low7 Od.out [.slice x2 a.nw y2, .int .i64 a.sent, .int .i64 a.dice] 0 v1)
          have FIN : Hid (SSt w a b aA cA aB cB ba bb x1 y1 x2 y2 a.w (World.setCells v1 bb 0 [.slice x2 a.nw y2, .int .i64 a.sent, .int .i64 a.dice])) := ⟨(LB.out.block _ (by omega)).trans XA.out, (LB.out.block _ (by omega)).trans XB.out, (setCells_other8 hne.symm _ 0 _).trans CA.out, put_three8 DA.out _ _ _, own_setCells (own_not RA.out DA.out (by decide)) [.slice x2 a.nw y2, .int .i64 a.sent, .int .i64 a.dice] 0 _ RA.out, own_setCells (own_not RB.out DA.out (by decide)) [.slice x2 a.nw y2, .int .i64 a.sent, .int .i64 a.dice] 0 _ RB.out, AP.out, LL.out _ LB.out⟩
          refine wpAnyH_ready (rs := [7]) (by kernel_rfl) (by simp) ?_
          refine AllReadyH.cons (o := ⟨_, _, _, _, _, _⟩) rfl (fun K hK => ?_) AllReadyH.nil
          go_simp
          change K _ (World.setCells v1 bb 0 [.slice x2 a.nw y2, .int .i64 a.sent, .int .i64 a.dice])
          refine hK.out _ _ ?_ (fun hHeld => ?_)
          · exact SS.out _ LB.out
          clear hK K q0 q1 q2 qf
          try simp only [Act.put, List.setIfInBounds_toArray, List.set_cons_zero, List.set_cons_succ]
          refine wpAnyH_done (by kernel_rfl) ?_ _
          change Exit.then _ _ _ _ (World.setCells v1 bb 0 [.slice x2 a.nw y2, .int .i64 a.sent, .int .i64 a.dice])
          generalize World.setCells v1 bb 0 [.slice x2 a.nw y2, .int .i64 a.sent, .int .i64 a.dice] = v2 at *
          go_wp2_with fail
          go_meet
          exact ⟨_, _, _, _, _, _, rfl, rfl, FIN.out⟩
      · go_simp
        have L2 := Lib.hid (L1.out.trans ((balloc u1 (.cells #[.slice none 0 0, .int .i64 0, .int .i64 0] 37)).mono G1.out))
        have G2 := Lib.hid (Nat.le_trans G1.out (balloc u1 (.cells #[.slice none 0 0, .int .i64 0, .int .i64 0] 37)).size)
        have Pc_2 := Lib.hid (heap_alloc_new u1 (.cells #[.slice none 0 0, .int .i64 0, .int .i64 0] 37))
        have Oc := Lib.hid G1.out
        have R1_2 := Lib.hid (own_below R1_1.out (balloc u1 (.cells #[.slice none 0 0, .int .i64 0, .int .i64 0] 37)))
        refine hK.out _ _ ?_ (fun hHeld => ?_)
        · exact SS.out _ L2.out
        clear hK K
        try simp only [Act.put, List.setIfInBounds_toArray, List.set_cons_zero, List.set_cons_succ]
        generalize u1.alloc (.cells #[.slice none 0 0, .int .i64 0, .int .i64 0] 37) = u2 at *
        generalize u1.heap.size = ba at *
        refine wpAnyH_ready (rs := [3, 5]) (by kernel_rfl) (by simp) ?_
        refine AllReadyH.cons (o := ⟨_, _, _, _, _, _⟩) rfl (fun K hK => ?_) (AllReadyH.cons (o := ⟨_, _, _, _, _, _⟩) rfl (fun K hK => ?_) AllReadyH.nil)
        · go_simp
          go_at_call 24
          refine (HC.out _ (LL.out _ L2.out)).mono ?_
          rintro x u3 ⟨v, rfl, hv, hb9⟩
          obtain ⟨vW, rfl, hw9⟩ := hv
          obtain ⟨x2, y2, rfl, _, _, _⟩ := id (own_sl hw9)
          have L3 := Lib.hid (L2.out.trans (hb9.mono G2.out))
          have G3 := Lib.hid (Nat.le_trans G2.out hb9.size)
          have R2_3 := Lib.hid (own_lower hw9 (show w.heap.size ≤ u2.heap.size from Nat.le_trans (by omega) G2.out))
          have AP : Hid (∀ g, (Value.slice x1 a.nw y1).ownBlock = some g → (Value.slice x2 a.nw y2).ownBlock ≠ some g) := fun g q1 q2 => by have := (own_lt R1_2.out q1).2; have := (own_lt hw9 q2).1; omega
          have R1_3 := Lib.hid (own_below R1_2.out hb9)
          have Pc_3 := Lib.hid ((hb9.block _ (lt_of_block Pc_2.out)).trans Pc_2.out)
          unfold sval
          refine hK.out _ _ ?_ (fun hHeld => ?_)
          · exact SS.out _ L3.out
          clear hK K
          try simp only [Act.put, List.setIfInBounds_toArray, List.set_cons_zero, List.set_cons_succ]
          clear hb9 hw9
          refine wpAnyH_ready (rs := [5]) (by kernel_rfl) (by simp) ?_
          refine AllReadyH.cons (o := ⟨_, _, _, _, _, _⟩) rfl (fun K hK => ?_) AllReadyH.nil
          go_simp
          have L4 := Lib.hid (L3.out.trans ((balloc u3 (.cells #[.slice none 0 0, .int .i64 0, .int .i64 0] 37)).mono G3.out))
          have G4 := Lib.hid (Nat.le_trans G3.out (balloc u3 (.cells #[.slice none 0 0, .int .i64 0, .int .i64 0] 37)).size)
          have Pd_4 := Lib.hid (heap_alloc_new u3 (.cells #[.slice none 0 0, .int .i64 0, .int .i64 0] 37))
          have Od := Lib.hid G3.out
          have R1_4 := Lib.hid (own_below R1_3.out (balloc u3 (.cells #[.slice none 0 0, .int .i64 0, .int .i64 0] 37)))
          have R2_4 := Lib.hid (own_below R2_3.out (balloc u3 (.cells #[.slice none 0 0, .int .i64 0, .int .i64 0] 37)))
          have Pc_4 := Lib.hid ((Below.heap_alloc u3 (.cells #[.slice none 0 0, .int .i64 0, .int .i64 0] 37) _ (lt_of_block Pc_3.out)).trans Pc_3.out)
          have NE : Hid (ba ≠ u3.heap.size) := Nat.ne_of_lt (lt_of_block Pc_3.out)
          refine hK.out _ _ ?_ (fun hHeld => ?_)
          · exact SS.out _ L4.out
          clear hK K
          try simp only [Act.put, List.setIfInBounds_toArray, List.set_cons_zero, List.set_cons_succ]
          generalize u3.alloc (.cells #[.slice none 0 0, .int .i64 0, .int .i64 0] 37) = u4 at *
          generalize u3.heap.size = bb at *
          have hne : bb ≠ ba := NE.out.symm
          obtain ⟨q0, q1, q2⟩ := three_cells8 Pc_4.out
          have qf : ∀ q, u4.frozen? ⟨ba, q, none⟩ = false := fun q => Lib.frozen_of_heap Pc_4.out q
          have LA : Hid (Below (w.heap.size + 2) u (World.setCells u4 ba 0 [.slice x1 a.nw y1, .int .i64 a.sent, .int .i64 a.dice])) := L4.out.trans (put_low7 Oc.out [.slice x1 a.nw y1, .int .i64 a.sent, .int .i64 a.dice] 0 u4)
          have CA : Hid ((World.setCells u4 ba 0 [.slice x1 a.nw y1, .int .i64 a.sent, .int .i64 a.dice]).heap[ba]? = some (.cells #[.slice x1 a.nw y1, .int .i64 a.sent, .int .i64 a.dice] 37 (0, 0))) := put_three8 Pc_4.out _ _ _
          have DA : Hid ((World.setCells u4 ba 0 [.slice x1 a.nw y1, .int .i64 a.sent, .int .i64 a.dice]).heap[bb]? = some (.cells #[.slice none 0 0, .int .i64 0, .int .i64 0] 37)) := (setCells_other8 hne _ 0 _).trans Pd_4.out
          have RA := Lib.hid (own_setCells (own_not R1_4.out Pc_4.out (by decide)) [.slice x1 a.nw y1, .int .i64 a.sent, .int .i64 a.dice] 0 _ R1_4.out)
          have RB := Lib.hid (own_setCells (own_not R2_4.out Pc_4.out (by decide)) [.slice x1 a.nw y1, .int .i64 a.sent, .int .i64 a.dice] 0 _ R2_4.out)
          refine wpAnyH_ready (rs := [6]) (by kernel_rfl) (by simp) ?_
          refine AllReadyH.cons (o := ⟨_, _, _, _, _, _⟩) rfl (fun K hK => ?_) AllReadyH.nil
          go_simp
          change K _ (World.setCells u4 ba 0 [.slice x1 a.nw y1, .int .i64 a.sent, .int .i64 a.dice])
          refine hK.out _ _ ?_ (fun hHeld => ?_)
          · exact SS.out _ LA.out
          clear hK K q0 q1 q2 qf
          try simp only [Act.put, List.setIfInBounds_toArray, List.set_cons_zero, List.set_cons_succ]
          generalize (World.setCells u4 ba 0 [.slice x1 a.nw y1, .int .i64 a.sent, .int .i64 a.dice]) = v1 at *
          obtain ⟨q0, q1, q2⟩ := three_cells8 DA.out
          have qf : ∀ q, v1.frozen? ⟨bb, q, none⟩ = false := fun q => Lib.frozen_of_heap DA.out q
          have LB : Hid (Below (w.heap.size + 2) u (World.setCells v1 bb 0 [.slice x2 a.nw y2, .int .i64 a.sent, .int .i64 a.dice])) := LA.out.trans (put_low7 Od.out [.slice x2 a.nw y2, .int .i64 a.sent, .int .i64 a.dice] 0 v1)
          have FIN : Hid (SSt w a b aA cA aB cB ba bb x1 y1 x2 y2 a.w (World.setCells v1 bb 0 [.slice x2 a.nw y2, .int .i64 a.sent, .int .i64 a.dice])) := ⟨(LB.out.block _ (by omega)).trans XA.out, (LB.out.block _ (by omega)).trans XB.out, (setCells_other8 hne.symm _ 0 _).trans CA.out, put_three8 DA.out _ _ _, own_setCells (own_not RA.out DA.out (by decide)) [.slice x2 a.nw y2, .int .i64 a.sent, .int .i64 a.dice] 0 _ RA.out, own_setCells (own_not RB.out DA.out (by decide)) [.slice x2 a.nw y2, .int .i64 a.sent, .int .i64 a.dice] 0 _ RB.out, AP.out, LL.out _ LB.out⟩
          refine wpAnyH_ready (rs := [7]) (by kernel_rfl) (by simp) ?_
          refine AllReadyH.cons (o := ⟨_, _, _, _, _, _⟩) rfl (fun K hK => ?_) AllReadyH.nil
          go_simp
          change K _ (World.setCells v1 bb 0 [.slice x2 a.nw y2, .int .i64 a.sent, .int .i64 a.dice])
          refine hK.out _ _ ?_ (fun hHeld => ?_)
          · exact SS.out _ LB.out
          clear hK K q0 q1 q2 qf
          try simp only [Act.put, List.setIfInBounds_toArray, List.set_cons_zero, List.set_cons_succ]
          refine wpAnyH_done (by kernel_rfl) ?_ _
          change Exit.then _ _ _ _ (World.setCells v1 bb 0 [.slice x2 a.nw y2, .int .i64 a.sent, .int .i64 a.dice])
          generalize World.setCells v1 bb 0 [.slice x2 a.nw y2, .int .i64 a.sent, .int .i64 a.dice] = v2 at *
          go_wp2_with fail
          go_meet
          exact ⟨_, _, _, _, _, _, rfl, rfl, FIN.out⟩
        · go_simp
          have L3 := Lib.hid (L2.out.trans ((balloc u2 (.cells #[.slice none 0 0, .int .i64 0, .int .i64 0] 37)).mono G2.out))
          have G3 := Lib.hid (Nat.le_trans G2.out (balloc u2 (.cells #[.slice none 0 0, .int .i64 0, .int .i64 0] 37)).size)
          have Pd_3 := Lib.hid (heap_alloc_new u2 (.cells #[.slice none 0 0, .int .i64 0, .int .i64 0] 37))
          have Od := Lib.hid G2.out
          have R1_3 := Lib.hid (own_below R1_2.out (balloc u2 (.cells #[.slice none 0 0, .int .i64 0, .int .i64 0] 37)))
          have Pc_3 := Lib.hid ((Below.heap_alloc u2 (.cells #[.slice none 0 0, .int .i64 0, .int .i64 0] 37) _ (lt_of_block Pc_2.out)).trans Pc_2.out)
          have NE : Hid (ba ≠ u2.heap.size) := Nat.ne_of_lt (lt_of_block Pc_2.out)
          refine hK.out _ _ ?_ (fun hHeld => ?_)
          · exact SS.out _ L3.out
          clear hK K
          try simp only [Act.put, List.setIfInBounds_toArray, List.set_cons_zero, List.set_cons_succ]
          generalize u2.alloc (.cells #[.slice none 0 0, .int .i64 0, .int .i64 0] 37) = u3 at *
          generalize u2.heap.size = bb at *
          refine wpAnyH_ready (rs := [3]) (by kernel_rfl) (by simp) ?_
          refine AllReadyH.cons (o := ⟨_, _, _, _, _, _⟩) rfl (fun K hK => ?_) AllReadyH.nil
          go_simp
          go_at_call 24
          refine (HC.out _ (LL.out _ L3.out)).mono ?_
          rintro x u4 ⟨v, rfl, hv, hb9⟩
          obtain ⟨vW, rfl, hw9⟩ := hv
          obtain ⟨x2, y2, rfl, _, _, _⟩ := id (own_sl hw9)
          have L4 := Lib.hid (L3.out.trans (hb9.mono G3.out))
          have G4 := Lib.hid (Nat.le_trans G3.out hb9.size)
          have R2_4 := Lib.hid (own_lower hw9 (show w.heap.size ≤ u3.heap.size from Nat.le_trans (by omega) G3.out))
          have AP : Hid (∀ g, (Value.slice x1 a.nw y1).ownBlock = some g → (Value.slice x2 a.nw y2).ownBlock ≠ some g) := fun g q1 q2 => by have := (own_lt R1_3.out q1).2; have := (own_lt hw9 q2).1; omega
          have R1_4 := Lib.hid (own_below R1_3.out hb9)
          have Pc_4 := Lib.hid ((hb9.block _ (lt_of_block Pc_3.out)).trans Pc_3.out)
          have Pd_4 := Lib.hid ((hb9.block _ (lt_of_block Pd_3.out)).trans Pd_3.out)
          unfold sval
          refine hK.out _ _ ?_ (fun hHeld => ?_)
          · exact SS.out _ L4.out
          clear hK K
          try simp only [Act.put, List.setIfInBounds_toArray, List.set_cons_zero, List.set_cons_succ]
          clear hb9 hw9
          have hne : bb ≠ ba := NE.out.symm
          obtain ⟨q0, q1, q2⟩ := three_cells8 Pc_4.out
          have qf : ∀ q, u4.frozen? ⟨ba, q, none⟩ = false := fun q => Lib.frozen_of_heap Pc_4.out q
          have LA : Hid (Below (w.heap.size + 2) u (World.setCells u4 ba 0 [.slice x1 a.nw y1, .int .i64 a.sent, .int .i64 a.dice])) := L4.out.trans (put_low7 Oc.out [.slice x1 a.nw y1, .int .i64 a.sent, .int .i64 a.dice] 0 u4)
          have CA : Hid ((World.setCells u4 ba 0 [.slice x1 a.nw y1, .int .i64 a.sent, .int .i64 a.dice]).heap[ba]? = some (.cells #[.slice x1 a.nw y1, .int .i64 a.sent, .int .i64 a.dice] 37 (0, 0))) := put_three8 Pc_4.out _ _ _
          have DA : Hid ((World.setCells u4 ba 0 [.slice x1 a.nw y1, .int .i64 a.sent, .int .i64 a.dice]).heap[bb]? = some (.cells #[.slice none 0 0, .int .i64 0, .int .i64 0] 37)) := (setCells_other8 hne _ 0 _).trans Pd_4.out
          have RA := Lib.hid (own_setCells (own_not R1_4.out Pc_4.out (by decide)) [.slice x1 a.nw y1, .int .i64 a.sent, .int .i64 a.dice] 0 _ R1_4.out)
          have RB := Lib.hid (own_setCells (own_not R2_4.out Pc_4.out (by decide)) [.slice x1 a.nw y1, .int .i64 a.sent, .int .i64 a.dice] 0 _ R2_4.out)
          refine wpAnyH_ready (rs := [6]) (by kernel_rfl) (by simp) ?_
          refine AllReadyH.cons (o := ⟨_, _, _, _, _, _⟩) rfl (fun K hK => ?_) AllReadyH.nil
          go_simp
          change K _ (World.setCells u4 ba 0 [.slice x1 a.nw y1, .int .i64 a.sent, .int .i64 a.dice])
          refine hK.out _ _ ?_ (fun hHeld => ?_)
          · exact SS.out _ LA.out
          clear hK K q0 q1 q2 qf
          try simp only [Act.put, List.setIfInBounds_toArray, List.set_cons_zero, List.set_cons_succ]
          generalize (World.setCells u4 ba 0 [.slice x1 a.nw y1, .int .i64 a.sent, .int .i64 a.dice]) = v1 at *
          obtain ⟨q0, q1, q2⟩ := three_cells8 DA.out
          have qf : ∀ q, v1.frozen? ⟨bb, q, none⟩ = false := fun q => Lib.frozen_of_heap DA.out q
          have LB : Hid (Below (w.heap.size + 2) u (World.setCells v1 bb 0 [.slice x2 a.nw y2, .int .i64 a.sent, .int .i64 a.dice])) := LA.out.trans (put_low7 Od.out [.slice x2 a.nw y2, .int .i64 a.sent, .int .i64 a.dice] 0 v1)
          have FIN : Hid (SSt w a b aA cA aB cB ba bb x1 y1 x2 y2 a.w (World.setCells v1 bb 0 [.slice x2 a.nw y2, .int .i64 a.sent, .int .i64 a.dice])) := ⟨(LB.out.block _ (by omega)).trans XA.out, (LB.out.block _ (by omega)).trans XB.out, (setCells_other8 hne.symm _ 0 _).trans CA.out, put_three8 DA.out _ _ _, own_setCells (own_not RA.out DA.out (by decide)) [.slice x2 a.nw y2, .int .i64 a.sent, .int .i64 a.dice] 0 _ RA.out, own_setCells (own_not RB.out DA.out (by decide)) [.slice x2 a.nw y2, .int .i64 a.sent, .int .i64 a.dice] 0 _ RB.out, AP.out, LL.out _ LB.out⟩
          refine wpAnyH_ready (rs := [7]) (by kernel_rfl) (by simp) ?_
          refine AllReadyH.cons (o := ⟨_, _, _, _, _, _⟩) rfl (fun K hK => ?_) AllReadyH.nil
          go_simp
          change K _ (World.setCells v1 bb 0 [.slice x2 a.nw y2, .int .i64 a.sent, .int .i64 a.dice])
          refine hK.out _ _ ?_ (fun hHeld => ?_)
          · exact SS.out _ LB.out
          clear hK K q0 q1 q2 qf
          try simp only [Act.put, List.setIfInBounds_toArray, List.set_cons_zero, List.set_cons_succ]
          refine wpAnyH_done (by kernel_rfl) ?_ _
          change Exit.then _ _ _ _ (World.setCells v1 bb 0 [.slice x2 a.nw y2, .int .i64 a.sent, .int .i64 a.dice])
          generalize World.setCells v1 bb 0 [.slice x2 a.nw y2, .int .i64 a.sent, .int .i64 a.dice] = v2 at *
          go_wp2_with fail
          go_meet
          exact ⟨_, _, _, _, _, _, rfl, rfl, FIN.out⟩
      · go_simp
        have L2 := Lib.hid (L1.out.trans ((balloc u1 (.cells #[.slice none 0 0, .int .i64 0, .int .i64 0] 37)).mono G1.out))
        have G2 := Lib.hid (Nat.le_trans G1.out (balloc u1 (.cells #[.slice none 0 0, .int .i64 0, .int .i64 0] 37)).size)
        have Pd_2 := Lib.hid (heap_alloc_new u1 (.cells #[.slice none 0 0, .int .i64 0, .int .i64 0] 37))
        have Od := Lib.hid G1.out
        have R1_2 := Lib.hid (own_below R1_1.out (balloc u1 (.cells #[.slice none 0 0, .int .i64 0, .int .i64 0] 37)))
        refine hK.out _ _ ?_ (fun hHeld => ?_)
        · exact SS.out _ L2.out
        clear hK K
        try simp only [Act.put, List.setIfInBounds_toArray, List.set_cons_zero, List.set_cons_succ]
        generalize u1.alloc (.cells #[.slice none 0 0, .int .i64 0, .int .i64 0] 37) = u2 at *
        generalize u1.heap.size = bb at *
        refine wpAnyH_ready (rs := [3, 4]) (by kernel_rfl) (by simp) ?_
        refine AllReadyH.cons (o := ⟨_, _, _, _, _, _⟩) rfl (fun K hK => ?_) (AllReadyH.cons (o := ⟨_, _, _, _, _, _⟩) rfl (fun K hK => ?_) AllReadyH.nil)
        · go_simp
          go_at_call 24
          refine (HC.out _ (LL.out _ L2.out)).mono ?_
          rintro x u3 ⟨v, rfl, hv, hb9⟩
          obtain ⟨vW, rfl, hw9⟩ := hv
          obtain ⟨x2, y2, rfl, _, _, _⟩ := id (own_sl hw9)
          have L3 := Lib.hid (L2.out.trans (hb9.mono G2.out))
          have G3 := Lib.hid (Nat.le_trans G2.out hb9.size)
          have R2_3 := Lib.hid (own_lower hw9 (show w.heap.size ≤ u2.heap.size from Nat.le_trans (by omega) G2.out))
          have AP : Hid (∀ g, (Value.slice x1 a.nw y1).ownBlock = some g → (Value.slice x2 a.nw y2).ownBlock ≠ some g) := fun g q1 q2 => by have := (own_lt R1_2.out q1).2; have := (own_lt hw9 q2).1; omega
          have R1_3 := Lib.hid (own_below R1_2.out hb9)
          have Pd_3 := Lib.hid ((hb9.block _ (lt_of_block Pd_2.out)).trans Pd_2.out)
          unfold sval
          refine hK.out _ _ ?_ (fun hHeld => ?_)
          · exact SS.out _ L3.out
          clear hK K
          try simp only [Act.put, List.setIfInBounds_toArray, List.set_cons_zero, List.set_cons_succ]
          clear hb9 hw9
          refine wpAnyH_ready (rs := [4]) (by kernel_rfl) (by simp) ?_
          refine AllReadyH.cons (o := ⟨_, _, _, _, _, _⟩) rfl (fun K hK => ?_) AllReadyH.nil
          go_simp
          have L4 := Lib.hid (L3.out.trans ((balloc u3 (.cells #[.slice none 0 0, .int .i64 0, .int .i64 0] 37)).mono G3.out))
          have G4 := Lib.hid (Nat.le_trans G3.out (balloc u3 (.cells #[.slice none 0 0, .int .i64 0, .int .i64 0] 37)).size)
          have Pc_4 := Lib.hid (heap_alloc_new u3 (.cells #[.slice none 0 0, .int .i64 0, .int .i64 0] 37))
          have Oc := Lib.hid G3.out
          have R1_4 := Lib.hid (own_below R1_3.out (balloc u3 (.cells #[.slice none 0 0, .int .i64 0, .int .i64 0] 37)))
          have R2_4 := Lib.hid (own_below R2_3.out (balloc u3 (.cells #[.slice none 0 0, .int .i64 0, .int .i64 0] 37)))
          have Pd_4 := Lib.hid ((Below.heap_alloc u3 (.cells #[.slice none 0 0, .int .i64 0, .int .i64 0] 37) _ (lt_of_block Pd_3.out)).trans Pd_3.out)
          have NE : Hid (bb ≠ u3.heap.size) := Nat.ne_of_lt (lt_of_block Pd_3.out)
          refine hK.out _ _ ?_ (fun hHeld => ?_)
          · exact SS.out _ L4.out
          clear hK K
          try simp only [Act.put, List.setIfInBounds_toArray, List.set_cons_zero, List.set_cons_succ]
          generalize u3.alloc (.cells #[.slice none 0 0, .int .i64 0, .int .i64 0] 37) = u4 at *
          generalize u3.heap.size = ba at *
          have hne : bb ≠ ba := NE.out
          obtain ⟨q0, q1, q2⟩ := three_cells8 Pc_4.out
          have qf : ∀ q, u4.frozen? ⟨ba, q, none⟩ = false := fun q => Lib.frozen_of_heap Pc_4.out q
          have LA : Hid (Below (w.heap.size + 2) u (World.setCells u4 ba 0 [.slice x1 a.nw y1, .int .i64 a.sent, .int .i64 a.dice])) := L4.out.trans (put_low7 Oc.out [.slice x1 a.nw y1, .int .i64 a.sent, .int .i64 a.dice] 0 u4)
          have CA : Hid ((World.setCells u4 ba 0 [.slice x1 a.nw y1, .int .i64 a.sent, .int .i64 a.dice]).heap[ba]? = some (.cells #[.slice x1 a.nw y1, .int .i64 a.sent, .int .i64 a.dice] 37 (0, 0))) := put_three8 Pc_4.out _ _ _
          have DA : Hid ((World.setCells u4 ba 0 [.slice x1 a.nw y1, .int .i64 a.sent, .int .i64 a.dice]).heap[bb]? = some (.cells #[.slice none 0 0, .int .i64 0, .int .i64 0] 37)) := (setCells_other8 hne _ 0 _).trans Pd_4.out
          have RA := Lib.hid (own_setCells (own_not R1_4.out Pc_4.out (by decide)) [.slice x1 a.nw y1, .int .i64 a.sent, .int .i64 a.dice] 0 _ R1_4.out)
          have RB := Lib.hid (own_setCells (own_not R2_4.out Pc_4.out (by decide)) [.slice x1 a.nw y1, .int .i64 a.sent, .int .i64 a.dice] 0 _ R2_4.out)
          refine wpAnyH_ready (rs := [6]) (by kernel_rfl) (by simp) ?_
          refine AllReadyH.cons (o := ⟨_, _, _, _, _, _⟩) rfl (fun K hK => ?_) AllReadyH.nil
          go_simp
          change K _ (World.setCells u4 ba 0 [.slice x1 a.nw y1, .int .i64 a.sent, .int .i64 a.dice])
          refine hK.out _ _ ?_ (fun hHeld => ?_)
          · exact SS.out _ LA.out
          clear hK K q0 q1 q2 qf
          try simp only [Act.put, List.setIfInBounds_toArray, List.set_cons_zero, List.set_cons_succ]
          generalize (World.setCells u4 ba 0 [.slice x1 a.nw y1, .int .i64 a.sent, .int .i64 a.dice]) = v1 at *
          obtain ⟨q0, q1, q2⟩ := three_cells8 DA.out
          have qf : ∀ q, v1.frozen? ⟨bb, q, none⟩ = false := fun q => Lib.frozen_of_heap DA.out q
          have LB : Hid (Below (w.heap.size + 2) u (World.setCells v1 bb 0 [.slice x2 a.nw y2, .int .i64 a.sent, .int .i64 a.dice])) := LA.out.trans (put_low7 Od.out [.slice x2 a.nw y2, .int .i64 a.sent, .int .i64 a.dice] 0 v1)
          have FIN : Hid (SSt w a b aA cA aB cB ba bb x1 y1 x2 y2 a.w (World.setCells v1 bb 0 [.slice x2 a.nw y2, .int .i64 a.sent, .int .i64 a.dice])) := ⟨(LB.out.block _ (by omega)).trans XA.out, (LB.out.block _ (by omega)).trans XB.out, (setCells_other8 hne.symm _ 0 _).trans CA.out, put_three8 DA.out _ _ _, own_setCells (own_not RA.out DA.out (by decide)) [.slice x2 a.nw y2, .int .i64 a.sent, .int .i64 a.dice] 0 _ RA.out, own_setCells (own_not RB.out DA.out (by decide)) [.slice x2 a.nw y2, .int .i64 a.sent, .int .i64 a.dice] 0 _ RB.out, AP.out, LL.out _ LB.out⟩
          refine wpAnyH_ready (rs := [7]) (by kernel_rfl) (by simp) ?_
          refine AllReadyH.cons (o := ⟨_, _, _, _, _, _⟩) rfl (fun K hK => ?_) AllReadyH.nil
          go_simp
          change K _ (World.setCells v1 bb 0 [.slice x2 a.nw y2, .int .i64 a.sent, .int .i64 a.dice])
          refine hK.out _ _ ?_ (fun hHeld => ?_)
          · exact SS.out _ LB.out
          clear hK K q0 q1 q2 qf
          try simp only [Act.put, List.setIfInBounds_toArray, List.set_cons_zero, List.set_cons_succ]
          refine wpAnyH_done (by kernel_rfl) ?_ _
          change Exit.then _ _ _ _ (World.setCells v1 bb 0 [.slice x2 a.nw y2, .int .i64 a.sent, .int .i64 a.dice])
          generalize World.setCells v1 bb 0 [.slice x2 a.nw y2, .int .i64 a.sent, .int .i64 a.dice] = v2 at *
          go_wp2_with fail
          go_meet
          exact ⟨_, _, _, _, _, _, rfl, rfl, FIN.out⟩
        · go_simp
          have L3 := Lib.hid (L2.out.trans ((balloc u2 (.cells #[.slice none 0 0, .int .i64 0, .int .i64 0] 37)).mono G2.out))
          have G3 := Lib.hid (Nat.le_trans G2.out (balloc u2 (.cells #[.slice none 0 0, .int .i64 0, .int .i64 0] 37)).size)
          have Pc_3 := Lib.hid (heap_alloc_new u2 (.cells #[.slice none 0 0, .int .i64 0, .int .i64 0] 37))
          have Oc := Lib.hid G2.out
          have R1_3 := Lib.hid (own_below R1_2.out (balloc u2 (.cells #[.slice none 0 0, .int .i64 0, .int .i64 0] 37)))
          have Pd_3 := Lib.hid ((Below.heap_alloc u2 (.cells #[.slice none 0 0, .int .i64 0, .int .i64 0] 37) _ (lt_of_block Pd_2.out)).trans Pd_2.out)
          have NE : Hid (bb ≠ u2.heap.size) := Nat.ne_of_lt (lt_of_block Pd_2.out)
          refine hK.out _ _ ?_ (fun hHeld => ?_)
          · exact SS.out _ L3.out
          clear hK K
          try simp only [Act.put, List.setIfInBounds_toArray, List.set_cons_zero, List.set_cons_succ]
          generalize u2.alloc (.cells #[.slice none 0 0, .int .i64 0, .int .i64 0] 37) = u3 at *
          generalize u2.heap.size = ba at *
          refine wpAnyH_ready (rs := [3]) (by kernel_rfl) (by simp) ?_
          refine AllReadyH.cons (o := ⟨_, _, _, _, _, _⟩) rfl (fun K hK => ?_) AllReadyH.nil
          go_simp
          go_at_call 24
          refine (HC.out _ (LL.out _ L3.out)).mono ?_
          rintro x u4 ⟨v, rfl, hv, hb9⟩
          obtain ⟨vW, rfl, hw9⟩ := hv
          obtain ⟨x2, y2, rfl, _, _, _⟩ := id (own_sl hw9)
          have L4 := Lib.hid (L3.out.trans (hb9.mono G3.out))
          have G4 := Lib.hid (Nat.le_trans G3.out hb9.size)
          have R2_4 := Lib.hid (own_lower hw9 (show w.heap.size ≤ u3.heap.size from Nat.le_trans (by omega) G3.out))
          have AP : Hid (∀ g, (Value.slice x1 a.nw y1).ownBlock = some g → (Value.slice x2 a.nw y2).ownBlock ≠ some g) := fun g q1 q2 => by have := (own_lt R1_3.out q1).2; have := (own_lt hw9 q2).1; omega
          have R1_4 := Lib.hid (own_below R1_3.out hb9)
          have Pc_4 := Lib.hid ((hb9.block _ (lt_of_block Pc_3.out)).trans Pc_3.out)
          have Pd_4 := Lib.hid ((hb9.block _ (lt_of_block Pd_3.out)).trans Pd_3.out)
          unfold sval
          refine hK.out _ _ ?_ (fun hHeld => ?_)
          · exact SS.out _ L4.out
          clear hK K
          try simp only [Act.put, List.setIfInBounds_toArray, List.set_cons_zero, List.set_cons_succ]
          clear hb9 hw9
          have hne : bb ≠ ba := NE.out
          obtain ⟨q0, q1, q2⟩ := three_cells8 Pc_4.out
          have qf : ∀ q, u4.frozen? ⟨ba, q, none⟩ = false := fun q => Lib.frozen_of_heap Pc_4.out q
          have LA : Hid (Below (w.heap.size + 2) u (World.setCells u4 ba 0 [.slice x1 a.nw y1, .int .i64 a.sent, .int .i64 a.dice])) := L4.out.trans (put_low7 Oc.out [.slice x1 a.nw y1, .int .i64 a.sent, .int .i64 a.dice] 0 u4)
          have CA : Hid ((World.setCells u4 ba 0 [.slice x1 a.nw y1, .int .i64 a.sent, .int .i64 a.dice]).heap[ba]? = some (.cells #[.slice x1 a.nw y1, .int .i64 a.sent, .int .i64 a.dice] 37 (0, 0))) := put_three8 Pc_4.out _ _ _
          have DA : Hid ((World.setCells u4 ba 0 [.slice x1 a.nw y1, .int .i64 a.sent, .int .i64 a.dice]).heap[bb]? = some (.cells #[.slice none 0 0, .int .i64 0, .int .i64 0] 37)) := (setCells_other8 hne _ 0 _).trans Pd_4.out
          have RA := Lib.hid (own_setCells (own_not R1_4.out Pc_4.out (by decide)) [.slice x1 a.nw y1, .int .i64 a.sent, .int .i64 a.dice] 0 _ R1_4.out)
          have RB := Lib.hid (own_setCells (own_not R2_4.out Pc_4.out (by decide)) [.slice x1 a.nw y1, .int .i64 a.sent, .int .i64 a.dice] 0 _ R2_4.out)
          refine wpAnyH_ready (rs := [6]) (by kernel_rfl) (by simp) ?_
          refine AllReadyH.cons (o := ⟨_, _, _, _, _, _⟩) rfl (fun K hK => ?_) AllReadyH.nil
          go_simp
          change K _ (World.setCells u4 ba 0 [.slice x1 a.nw y1, .int .i64 a.sent, .int .i64 a.dice])
          refine hK.out _ _ ?_ (fun hHeld => ?_)
          · exact SS.out _ LA.out
          clear hK K q0 q1 q2 qf
          try simp only [Act.put, List.setIfInBounds_toArray, List.set_cons_zero, List.set_cons_succ]
          generalize (World.setCells u4 ba 0 [.slice x1 a.nw y1, .int .i64 a.sent, .int .i64 a.dice]) = v1 at *
          obtain ⟨q0, q1, q2⟩ := three_cells8 DA.out
          have qf : ∀ q, v1.frozen? ⟨bb, q, none⟩ = false := fun q => Lib.frozen_of_heap DA.out q
          have LB : Hid (Below (w.heap.size + 2) u (World.setCells v1 bb 0 [.slice x2 a.nw y2, .int .i64 a.sent, .int .i64 a.dice])) := LA.out.trans (put_low7 Od.out [.slice x2 a.nw y2, .int .i64 a.sent, .int .i64 a.dice] 0 v1)
          have FIN : Hid (SSt w a b aA cA aB cB ba bb x1 y1 x2 y2 a.w (World.setCells v1 bb 0 [.slice x2 a.nw y2, .int .i64 a.sent, .int .i64 a.dice])) := ⟨(LB.out.block _ (by omega)).trans XA.out, (LB.out.block _ (by omega)).trans XB.out, (setCells_other8 hne.symm _ 0 _).trans CA.out, put_three8 DA.out _ _ _, own_setCells (own_not RA.out DA.out (by decide)) [.slice x2 a.nw y2, .int .i64 a.sent, .int .i64 a.dice] 0 _ RA.out, own_setCells (own_not RB.out DA.out (by decide)) [.slice x2 a.nw y2, .int .i64 a.sent, .int .i64 a.dice] 0 _ RB.out, AP.out, LL.out _ LB.out⟩
          refine wpAnyH_ready (rs := [7]) (by kernel_rfl) (by simp) ?_
          refine AllReadyH.cons (o := ⟨_, _, _, _, _, _⟩) rfl (fun K hK => ?_) AllReadyH.nil
          go_simp
          change K _ (World.setCells v1 bb 0 [.slice x2 a.nw y2, .int .i64 a.sent, .int .i64 a.dice])
          refine hK.out _ _ ?_ (fun hHeld => ?_)
          · exact SS.out _ LB.out
          clear hK K q0 q1 q2 qf
          try simp only [Act.put, List.setIfInBounds_toArray, List.set_cons_zero, List.set_cons_succ]
          refine wpAnyH_done (by kernel_rfl) ?_ _
          change Exit.then _ _ _ _ (World.setCells v1 bb 0 [.slice x2 a.nw y2, .int .i64 a.sent, .int .i64 a.dice])
          generalize World.setCells v1 bb 0 [.slice x2 a.nw y2, .int .i64 a.sent, .int .i64 a.dice] = v2 at *
          go_wp2_with fail
          go_meet
          exact ⟨_, _, _, _, _, _, rfl, rfl, FIN.out⟩
    · go_simp
      have L1 := Lib.hid (L0.out.trans ((balloc u0 (.cells #[.slice none 0 0, .int .i64 0, .int .i64 0] 37)).mono G0.out))
      have G1 := Lib.hid (Nat.le_trans G0.out (balloc u0 (.cells #[.slice none 0 0, .int .i64 0, .int .i64 0] 37)).size)
      have Pc_1 := Lib.hid (heap_alloc_new u0 (.cells #[.slice none 0 0, .int .i64 0, .int .i64 0] 37))
      have Oc := Lib.hid G0.out
      refine hK.out _ _ ?_ (fun hHeld => ?_)
      · exact SS.out _ L1.out
      clear hK K
      try simp only [Act.put, List.setIfInBounds_toArray, List.set_cons_zero, List.set_cons_succ]
      generalize u0.alloc (.cells #[.slice none 0 0, .int .i64 0, .int .i64 0] 37) = u1 at *
      generalize u0.heap.size = ba at *
      refine wpAnyH_ready (rs := [1, 5]) (by kernel_rfl) (by simp) ?_
      refine AllReadyH.cons (o := ⟨_, _, _, _, _, _⟩) rfl (fun K hK => ?_) (AllReadyH.cons (o := ⟨_, _, _, _, _, _⟩) rfl (fun K hK => ?_) AllReadyH.nil)
      · go_simp
        go_at_call 24
        refine (HC.out _ (LL.out _ L1.out)).mono ?_
        rintro x u2 ⟨v, rfl, hv, hb9⟩
        obtain ⟨vW, rfl, hw9⟩ := hv
        obtain ⟨x1, y1, rfl, _, _, _⟩ := id (own_sl hw9)
        have L2 := Lib.hid (L1.out.trans (hb9.mono G1.out))
        have G2 := Lib.hid (Nat.le_trans G1.out hb9.size)
        have R1_2 := Lib.hid (own_lower hw9 (show w.heap.size ≤ u1.heap.size from Nat.le_trans (by omega) G1.out))
        have Pc_2 := Lib.hid ((hb9.block _ (lt_of_block Pc_1.out)).trans Pc_1.out)
        unfold sval
        refine hK.out _ _ ?_ (fun hHeld => ?_)
        · exact SS.out _ L2.out
        clear hK K
        try simp only [Act.put, List.setIfInBounds_toArray, List.set_cons_zero, List.set_cons_succ]
        clear hb9 hw9
        refine wpAnyH_ready (rs := [3, 5]) (by kernel_rfl) (by simp) ?_
        refine AllReadyH.cons (o := ⟨_, _, _, _, _, _⟩) rfl (fun K hK => ?_) (AllReadyH.cons (o := ⟨_, _, _, _, _, _⟩) rfl (fun K hK => ?_) AllReadyH.nil)
        · go_simp
          go_at_call 24
          refine (HC.out _ (LL.out _ L2.out)).mono ?_
          rintro x u3 ⟨v, rfl, hv, hb9⟩
          obtain ⟨vW, rfl, hw9⟩ := hv
          obtain ⟨x2, y2, rfl, _, _, _⟩ := id (own_sl hw9)
          have L3 := Lib.hid (L2.out.trans (hb9.mono G2.out))
          have G3 := Lib.hid (Nat.le_trans G2.out hb9.size)
          have R2_3 := Lib.hid (own_lower hw9 (show w.heap.size ≤ u2.heap.size from Nat.le_trans (by omega) G2.out))
          have AP : Hid (∀ g, (Value.slice x1 a.nw y1).ownBlock = some g → (Value.slice x2 a.nw y2).ownBlock ≠ some g) := fun g q1 q2 => by have := (own_lt R1_2.out q1).2; have := (own_lt hw9 q2).1; omega
          have R1_3 := Lib.hid (own_below R1_2.out hb9)
          have Pc_3 := Lib.hid ((hb9.block _ (lt_of_block Pc_2.out)).trans Pc_2.out)
          unfold sval
          refine hK.out _ _ ?_ (fun hHeld => ?_)
          · exact SS.out _ L3.out
          clear hK K
          try simp only [Act.put, List.setIfInBounds_toArray, List.set_cons_zero, List.set_cons_succ]
          clear hb9 hw9
          refine wpAnyH_ready (rs := [5]) (by kernel_rfl) (by simp) ?_
          refine AllReadyH.cons (o := ⟨_, _, _, _, _, _⟩) rfl (fun K hK => ?_) AllReadyH.nil
          go_simp
          have L4 := Lib.hid (L3.out.trans ((balloc u3 (.cells #[.slice none 0 0, .int .i64 0, .int .i64 0] 37)).mono G3.out))
          have G4 := Lib.hid (Nat.le_trans G3.out (balloc u3 (.cells #[.slice none 0 0, .int .i64 0, .int .i64 0] 37)).size)
          have Pd_4 := Lib.hid (heap_alloc_new u3 (.cells #[.slice none 0 0, .int .i64 0, .int .i64 0] 37))
          have Od := Lib.hid G3.out
          have R1_4 := Lib.hid (own_below R1_3.out (balloc u3 (.cells #[.slice none 0 0, .int .i64 0, .int .i64 0] 37)))
          have R2_4 := Lib.hid (own_below R2_3.out (balloc u3 (.cells #[.slice none 0 0, .int .i64 0, .int .i64 0] 37)))
          have Pc_4 := Lib.hid ((Below.heap_alloc u3 (.cells #[.slice none 0 0, .int .i64 0, .int .i64 0] 37) _ (lt_of_block Pc_3.out)).trans Pc_3.out)
          have NE : Hid (ba ≠ u3.heap.size) := Nat.ne_of_lt (lt_of_block Pc_3.out)
          refine hK.out _ _ ?_ (fun hHeld => ?_)
          · exact SS.out _ L4.out
          clear hK K
          try simp only [Act.put, List.setIfInBounds_toArray, List.set_cons_zero, List.set_cons_succ]
          generalize u3.alloc (.cells #[.slice none 0 0, .int .i64 0, .int .i64 0] 37) = u4 at *
          generalize u3.heap.size = bb at *
          have hne : bb ≠ ba := NE.out.symm
          obtain ⟨q0, q1, q2⟩ := three_cells8 Pc_4.out
          have qf : ∀ q, u4.frozen? ⟨ba, q, none⟩ = false := fun q => Lib.frozen_of_heap Pc_4.out q
          have LA : Hid (Below (w.heap.size + 2) u (World.setCells u4 ba 0 [.slice x1 a.nw y1, .int .i64 a.sent, .int .i64 a.dice])) := L4.out.trans (put_low7 Oc.out [.slice x1 a.nw y1, .int .i64 a.sent, .int .i64 a.dice] 0 u4)
          have CA : Hid ((World.setCells u4 ba 0 [.slice x1 a.nw y1, .int .i64 a.sent, .int .i64 a.dice]).heap[ba]? = some (.cells #[.slice x1 a.nw y1, .int .i64 a.sent, .int .i64 a.dice] 37 (0, 0))) := put_three8 Pc_4.out _ _ _
          have DA : Hid ((World.setCells u4 ba 0 [.slice x1 a.nw y1, .int .i64 a.sent, .int .i64 a.dice]).heap[bb]? = some (.cells #[.slice none 0 0, .int .i64 0, .int .i64 0] 37)) := (setCells_other8 hne _ 0 _).trans Pd_4.out
          have RA := Lib.hid (own_setCells (own_not R1_4.out Pc_4.out (by decide)) [.slice x1 a.nw y1, .int .i64 a.sent, .int .i64 a.dice] 0 _ R1_4.out)
          have RB := Lib.hid (own_setCells (own_not R2_4.out Pc_4.out (by decide)) [.slice x1 a.nw y1, .int .i64 a.sent, .int .i64 a.dice] 0 _ R2_4.out)
          refine wpAnyH_ready (rs := [6]) (by kernel_rfl) (by simp) ?_
          refine AllReadyH.cons (o := ⟨_, _, _, _, _, _⟩) rfl (fun K hK => ?_) AllReadyH.nil
          go_simp
          change K _ (World.setCells u4 ba 0 [.slice x1 a.nw y1, .int .i64 a.sent, .int .i64 a.dice])
          refine hK.out _ _ ?_ (fun hHeld => ?_)
          · exact SS.out _ LA.out
          clear hK K q0 q1 q2 qf
          try simp only [Act.put, List.setIfInBounds_toArray, List.set_cons_zero, List.set_cons_succ]
          generalize (World.setCells u4 ba 0 [.slice x1 a.nw y1, .int .i64 a.sent, .int .i64 a.dice]) = v1 at *
          obtain ⟨q0, q1, q2⟩ := three_cells8 DA.out
          have qf : ∀ q, v1.frozen? ⟨bb, q, none⟩ = false := fun q => Lib.frozen_of_heap DA.out q
          have LB : Hid (Below (w.heap.size + 2) u (World.setCells v1 bb 0 [.slice x2 a.nw y2, .int .i64 a.sent, .int .i64 a.dice])) := LA.out.trans (put_low7 Od.out [.slice x2 a.nw y2, .int .i64 a.sent, .int .i64 a.dice] 0 v1)
          have FIN : Hid (SSt w a b aA cA aB cB ba bb x1 y1 x2 y2 a.w (World.setCells v1 bb 0 [.slice x2 a.nw y2, .int .i64 a.sent, .int .i64 a.dice])) := ⟨(LB.out.block _ (by omega)).trans XA.out, (LB.out.block _ (by omega)).trans XB.out, (setCells_other8 hne.symm _ 0 _).trans CA.out, put_three8 DA.out _ _ _, own_setCells (own_not RA.out DA.out (by decide)) [.slice x2 a.nw y2, .int .i64 a.sent, .int .i64 a.dice] 0 _ RA.out, own_setCells (own_not RB.out DA.out (by decide)) [.slice x2 a.nw y2, .int .i64 a.sent, .int .i64 a.dice] 0 _ RB.out, AP.out, LL.out _ LB.out⟩
          refine wpAnyH_ready (rs := [7]) (by kernel_rfl) (by simp) ?_
          refine AllReadyH.cons (o := ⟨_, _, _, _, _, _⟩) rfl (fun K hK => ?_) AllReadyH.nil
          go_simp
          change K _ (World.setCells v1 bb 0 [.slice x2 a.nw y2, .int .i64 a.sent, .int .i64 a.dice])
          refine hK.out _ _ ?_ (fun hHeld => ?_)
          · exact SS.out _ LB.out
          clear hK K q0 q1 q2 qf
          try simp only [Act.put, List.setIfInBounds_toArray, List.set_cons_zero, List.set_cons_succ]
          refine wpAnyH_done (by kernel_rfl) ?_ _
          change Exit.then _ _ _ _ (World.setCells v1 bb 0 [.slice x2 a.nw y2, .int .i64 a.sent, .int .i64 a.dice])
          generalize World.setCells v1 bb 0 [.slice x2 a.nw y2, .int .i64 a.sent, .int .i64 a.dice] = v2 at *
          go_wp2_with fail
          go_meet
          exact ⟨_, _, _, _, _, _, rfl, rfl, FIN.out⟩
        · go_simp
          have L3 := Lib.hid (L2.out.trans ((balloc u2 (.cells #[.slice none 0 0, .int .i64 0, .int .i64 0] 37)).mono G2.out))
          have G3 := Lib.hid (Nat.le_trans G2.out (balloc u2 (.cells #[.slice none 0 0, .int .i64 0, .int .i64 0] 37)).size)
          have Pd_3 := Lib.hid (heap_alloc_new u2 (.cells #[.slice none 0 0, .int .i64 0, .int .i64 0] 37))
          have Od := Lib.hid G2.out
          have R1_3 := Lib.hid (own_below R1_2.out (balloc u2 (.cells #[.slice none 0 0, .int .i64 0, .int .i64 0] 37)))
          have Pc_3 := Lib.hid ((Below.heap_alloc u2 (.cells #[.slice none 0 0, .int .i64 0, .int .i64 0] 37) _ (lt_of_block Pc_2.out)).trans Pc_2.out)
          have NE : Hid (ba ≠ u2.heap.size) := Nat.ne_of_lt (lt_of_block Pc_2.out)
          refine hK.out _ _ ?_ (fun hHeld => ?_)
          · exact SS.out _ L3.out
          clear hK K
          try simp only [Act.put, List.setIfInBounds_toArray, List.set_cons_zero, List.set_cons_succ]
          generalize u2.alloc (.cells #[.slice none 0 0, .int .i64 0, .int .i64 0] 37) = u3 at *
          generalize u2.heap.size = bb at *
          refine wpAnyH_ready (rs := [3]) (by kernel_rfl) (by simp) ?_
          refine AllReadyH.cons (o := ⟨_, _, _, _, _, _⟩) rfl (fun K hK => ?_) AllReadyH.nil
          go_simp
          go_at_call 24
          refine (HC.out _ (LL.out _ L3.out)).mono ?_
          rintro x u4 ⟨v, rfl, hv, hb9⟩
          obtain ⟨vW, rfl, hw9⟩ := hv
          obtain ⟨x2, y2, rfl, _, _, _⟩ := id (own_sl hw9)
          have L4 := Lib.hid (L3.out.trans (hb9.mono G3.out))
          have G4 := Lib.hid (Nat.le_trans G3.out hb9.size)
          have R2_4 := Lib.hid (own_lower hw9 (show w.heap.size ≤ u3.heap.size from Nat.le_trans (by omega) G3.out))
          have AP : Hid (∀ g, (Value.slice x1 a.nw y1).ownBlock = some g → (Value.slice x2 a.nw y2).ownBlock ≠ some g) := fun g q1 q2 => by have := (own_lt R1_3.out q1).2; have := (own_lt hw9 q2).1; omega
          have R1_4 := Lib.hid (own_below R1_3.out hb9)
          have Pc_4 := Lib.hid ((hb9.block _ (lt_of_block Pc_3.out)).trans Pc_3.out)
          have Pd_4 := Lib.hid ((hb9.block _ (lt_of_block Pd_3.out)).trans Pd_3.out)
          unfold sval
          refine hK.out _ _ ?_ (fun hHeld => ?_)
          · exact SS.out _ L4.out
          clear hK K
          try simp only [Act.put, List.setIfInBounds_toArray, List.set_cons_zero, List.set_cons_succ]
          clear hb9 hw9
          have hne : bb ≠ ba := NE.out.symm
          obtain ⟨q0, q1, q2⟩ := three_cells8 Pc_4.out
          have qf : ∀ q, u4.frozen? ⟨ba, q, none⟩ = false := fun q => Lib.frozen_of_heap Pc_4.out q
          have LA : Hid (Below (w.heap.size + 2) u (World.setCells u4 ba 0 [.slice x1 a.nw y1, .int .i64 a.sent, .int .i64 a.dice])) := L4.out.trans (put_low7 Oc.out [.slice x1 a.nw y1, .int .i64 a.sent, .int .i64 a.dice] 0 u4)
          have CA : Hid ((World.setCells u4 ba 0 [.slice x1 a.nw y1, .int .i64 a.sent, .int .i64 a.dice]).heap[ba]? = some (.cells #[.slice x1 a.nw y1, .int .i64 a.sent, .int .i64 a.dice] 37 (0, 0))) := put_three8 Pc_4.out _ _ _
          have DA : Hid ((World.setCells u4 ba 0 [.slice x1 a.nw y1, .int .i64 a.sent, .int .i64 a.dice]).heap[bb]? = some (.cells #[.slice none 0 0, .int .i64 0, .int .i64 0] 37)) := (setCells_other8 hne _ 0 _).trans Pd_4.out
          have RA := Lib.hid (own_setCells (own_not R1_4.out Pc_4.out (by decide)) [.slice x1 a.nw y1, .int .i64 a.sent, .int .i64 a.dice] 0 _ R1_4.out)
          have RB := Lib.hid (own_setCells (own_not R2_4.out Pc_4.out (by decide)) [.slice x1 a.nw y1, .int .i64 a.sent, .int .i64 a.dice] 0 _ R2_4.out)
          refine wpAnyH_ready (rs := [6]) (by kernel_rfl) (by simp) ?_
          refine AllReadyH.cons (o := ⟨_, _, _, _, _, _⟩) rfl (fun K hK => ?_) AllReadyH.nil
          go_simp
          change K _ (World.setCells u4 ba 0 [.slice x1 a.nw y1, .int .i64 a.sent, .int .i64 a.dice])
          refine hK.out _ _ ?_ (fun hHeld => ?_)
          · exact SS.out _ LA.out
          clear hK K q0 q1 q2 qf
          try simp only [Act.put, List.setIfInBounds_toArray, List.set_cons_zero, List.set_cons_succ]
          generalize (World.setCells u4 ba 0 [.slice x1 a.nw y1, .int .i64 a.sent, .int .i64 a.dice]) = v1 at *
          obtain ⟨q0, q1, q2⟩ := three_cells8 DA.out
          have qf : ∀ q, v1.frozen? ⟨bb, q, none⟩ = false := fun q => Lib.frozen_of_heap DA.out q
          have LB : Hid (Below (w.heap.size + 2) u (World.setCells v1 bb 0 [.slice x2 a.nw y2, .int .i64 a.sent, .int .i64 a.dice])) := LA.out.trans (put_low7 Od.out [.slice x2 a.nw y2, .int .i64 a.sent, .int .i64 a.dice] 0 v1)
          have FIN : Hid (SSt w a b aA cA aB cB ba bb x1 y1 x2 y2 a.w (World.setCells v1 bb 0 [.slice x2 a.nw y2, .int .i64 a.sent, .int .i64 a.dice])) := ⟨(LB.out.block _ (by omega)).trans XA.out, (LB.out.block _ (by omega)).trans XB.out, (setCells_other8 hne.symm _ 0 _).trans CA.out, put_three8 DA.out _ _ _, own_setCells (own_not RA.out DA.out (by decide)) [.slice x2 a.nw y2, .int .i64 a.sent, .int .i64 a.dice] 0 _ RA.out, own_setCells (own_not RB.out DA.out (by decide)) [.slice x2 a.nw y2, .int .i64 a.sent, .int .i64 a.dice] 0 _ RB.out, AP.out, LL.out _ LB.out⟩
          refine wpAnyH_ready (rs := [7]) (by kernel_rfl) (by simp) ?_
          refine AllReadyH.cons (o := ⟨_, _, _, _, _, _⟩) rfl (fun K hK => ?_) AllReadyH.nil
          go_simp
          change K _ (World.setCells v1 bb 0 [.slice x2 a.nw y2, .int .i64 a.sent, .int .i64 a.dice])
          refine hK.out _ _ ?_ (fun hHeld => ?_)
          · exact SS.out _ LB.out
          clear hK K q0 q1 q2 qf
          try simp only [Act.put, List.setIfInBounds_toArray, List.set_cons_zero, List.set_cons_succ]
          refine wpAnyH_done (by kernel_rfl) ?_ _
          change Exit.then _ _ _ _ (World.setCells v1 bb 0 [.slice x2 a.nw y2, .int .i64 a.sent, .int .i64 a.dice])
          generalize World.setCells v1 bb 0 [.slice x2 a.nw y2, .int .i64 a.sent, .int .i64 a.dice] = v2 at *
          go_wp2_with fail
          go_meet
          exact ⟨_, _, _, _, _, _, rfl, rfl, FIN.out⟩
      · go_simp
        have L2 := Lib.hid (L1.out.trans ((balloc u1 (.cells #[.slice none 0 0, .int .i64 0, .int .i64 0] 37)).mono G1.out))
        have G2 := Lib.hid (Nat.le_trans G1.out (balloc u1 (.cells #[.slice none 0 0, .int .i64 0, .int .i64 0] 37)).size)
        have Pd_2 := Lib.hid (heap_alloc_new u1 (.cells #[.slice none 0 0, .int .i64 0, .int .i64 0] 37))
        have Od := Lib.hid G1.out
        have Pc_2 := Lib.hid ((Below.heap_alloc u1 (.cells #[.slice none 0 0, .int .i64 0, .int .i64 0] 37) _ (lt_of_block Pc_1.out)).trans Pc_1.out)
        have NE : Hid (ba ≠ u1.heap.size) := Nat.ne_of_lt (lt_of_block Pc_1.out)
        refine hK.out _ _ ?_ (fun hHeld => ?_)
        · exact SS.out _ L2.out
        clear hK K
        try simp only [Act.put, List.setIfInBounds_toArray, List.set_cons_zero, List.set_cons_succ]
        generalize u1.alloc (.cells #[.slice none 0 0, .int .i64 0, .int .i64 0] 37) = u2 at *
        generalize u1.heap.size = bb at *
        refine wpAnyH_ready (rs := [1]) (by kernel_rfl) (by simp) ?_
        refine AllReadyH.cons (o := ⟨_, _, _, _, _, _⟩) rfl (fun K hK => ?_) AllReadyH.nil
        go_simp
        go_at_call 24
        refine (HC.out _ (LL.out _ L2.out)).mono ?_
        rintro x u3 ⟨v, rfl, hv, hb9⟩
        obtain ⟨vW, rfl, hw9⟩ := hv
        obtain ⟨x1, y1, rfl, _, _, _⟩ := id (own_sl hw9)
        have L3 := Lib.hid (L2.out.trans (hb9.mono G2.out))
        have G3 := Lib.hid (Nat.le_trans G2.out hb9.size)
        have R1_3 := Lib.hid (own_lower hw9 (show w.heap.size ≤ u2.heap.size from Nat.le_trans (by omega) G2.out))
        have Pc_3 := Lib.hid ((hb9.block _ (lt_of_block Pc_2.out)).trans Pc_2.out)
        have Pd_3 := Lib.hid ((hb9.block _ (lt_of_block Pd_2.out)).trans Pd_2.out)
        unfold sval
        refine hK.out _ _ ?_ (fun hHeld => ?_)
        · exact SS.out _ L3.out
        clear hK K
        try simp only [Act.put, List.setIfInBounds_toArray, List.set_cons_zero, List.set_cons_succ]
        clear hb9 hw9
        refine wpAnyH_ready (rs := [3]) (by kernel_rfl) (by simp) ?_
        refine AllReadyH.cons (o := ⟨_, _, _, _, _, _⟩) rfl (fun K hK => ?_) AllReadyH.nil
        go_simp
        go_at_call 24
        refine (HC.out _ (LL.out _ L3.out)).mono ?_
        rintro x u4 ⟨v, rfl, hv, hb9⟩
        obtain ⟨vW, rfl, hw9⟩ := hv
        obtain ⟨x2, y2, rfl, _, _, _⟩ := id (own_sl hw9)
        have L4 := Lib.hid (L3.out.trans (hb9.mono G3.out))
        have G4 := Lib.hid (Nat.le_trans G3.out hb9.size)
        have R2_4 := Lib.hid (own_lower hw9 (show w.heap.size ≤ u3.heap.size from Nat.le_trans (by omega) G3.out))
        have AP : Hid (∀ g, (Value.slice x1 a.nw y1).ownBlock = some g → (Value.slice x2 a.nw y2).ownBlock ≠ some g) := fun g q1 q2 => by have := (own_lt R1_3.out q1).2; have := (own_lt hw9 q2).1; omega
        have R1_4 := Lib.hid (own_below R1_3.out hb9)
        have Pc_4 := Lib.hid ((hb9.block _ (lt_of_block Pc_3.out)).trans Pc_3.out)
        have Pd_4 := Lib.hid ((hb9.block _ (lt_of_block Pd_3.out)).trans Pd_3.out)
        unfold sval
        refine hK.out _ _ ?_ (fun hHeld => ?_)
        · exact SS.out _ L4.out
        clear hK K
        try simp only [Act.put, List.setIfInBounds_toArray, List.set_cons_zero, List.set_cons_succ]
        clear hb9 hw9
        have hne : bb ≠ ba := NE.out.symm
        obtain ⟨q0, q1, q2⟩ := three_cells8 Pc_4.out
        have qf : ∀ q, u4.frozen? ⟨ba, q, none⟩ = false := fun q => Lib.frozen_of_heap Pc_4.out q
        have LA : Hid (Below (w.heap.size + 2) u (World.setCells u4 ba 0 [.slice x1 a.nw y1, .int .i64 a.sent, .int .i64 a.dice])) := L4.out.trans (put_low7 Oc.out [.slice x1 a.nw y1, .int .i64 a.sent, .int .i64 a.dice] 0 u4)
        have CA : Hid ((World.setCells u4 ba 0 [.slice x1 a.nw y1, .int .i64 a.sent, .int .i64 a.dice]).heap[ba]? = some (.cells #[.slice x1 a.nw y1, .int .i64 a.sent, .int .i64 a.dice] 37 (0, 0))) := put_three8 Pc_4.out _ _ _
        have DA : Hid ((World.setCells u4 ba 0 [.slice x1 a.nw y1, .int .i64 a.sent, .int .i64 a.dice]).heap[bb]? = some (.cells #[.slice none 0 0, .int .i64 0, .int .i64 0] 37)) := (setCells_other8 hne _ 0 _).trans Pd_4.out
        have RA := Lib.hid (own_setCells (own_not R1_4.out Pc_4.out (by decide)) [.slice x1 a.nw y1, .int .i64 a.sent, .int .i64 a.dice] 0 _ R1_4.out)
        have RB := Lib.hid (own_setCells (own_not R2_4.out Pc_4.out (by decide)) [.slice x1 a.nw y1, .int .i64 a.sent, .int .i64 a.dice] 0 _ R2_4.out)
        refine wpAnyH_ready (rs := [6]) (by kernel_rfl) (by simp) ?_
        refine AllReadyH.cons (o := ⟨_, _, _, _, _, _⟩) rfl (fun K hK => ?_) AllReadyH.nil
        go_simp
        change K _ (World.setCells u4 ba 0 [.slice x1 a.nw y1, .int .i64 a.sent, .int .i64 a.dice])
        refine hK.out _ _ ?_ (fun hHeld => ?_)
        · exact SS.out _ LA.out
        clear hK K q0 q1 q2 qf
        try simp only [Act.put, List.setIfInBounds_toArray, List.set_cons_zero, List.set_cons_succ]
        generalize (World.setCells u4 ba 0 [.slice x1 a.nw y1, .int .i64 a.sent, .int .i64 a.dice]) = v1 at *
        obtain ⟨q0, q1, q2⟩ := three_cells8 DA.out
        have qf : ∀ q, v1.frozen? ⟨bb, q, none⟩ = false := fun q => Lib.frozen_of_heap DA.out q
        have LB : Hid (Below (w.heap.size + 2) u (World.setCells v1 bb 0 [.slice x2 a.nw y2, .int .i64 a.sent, .int .i64 a.dice])) := LA.out.trans (put_low7 Od.out [.slice x2 a.nw y2, .int .i64 a.sent, .int .i64 a.dice] 0 v1)
        have FIN : Hid (SSt w a b aA cA aB cB ba bb x1 y1 x2 y2 a.w (World.setCells v1 bb 0 [.slice x2 a.nw y2, .int .i64 a.sent, .int .i64 a.dice])) := ⟨(LB.out.block _ (by omega)).trans XA.out, (LB.out.block _ (by omega)).trans XB.out, (setCells_other8 hne.symm _ 0 _).trans CA.out, put_three8 DA.out _ _ _, own_setCells (own_not RA.out DA.out (by decide)) [.slice x2 a.nw y2, .int .i64 a.sent, .int .i64 a.dice] 0 _ RA.out, own_setCells (own_not RB.out DA.out (by decide)) [.slice x2 a.nw y2, .int .i64 a.sent, .int .i64 a.dice] 0 _ RB.out, AP.out, LL.out _ LB.out⟩
        refine wpAnyH_ready (rs := [7]) (by kernel_rfl) (by simp) ?_
        refine AllReadyH.cons (o := ⟨_, _, _, _, _, _⟩) rfl (fun K hK => ?_) AllReadyH.nil
        go_simp
        change K _ (World.setCells v1 bb 0 [.slice x2 a.nw y2, .int .i64 a.sent, .int .i64 a.dice])
        refine hK.out _ _ ?_ (fun hHeld => ?_)
        · exact SS.out _ LB.out
        clear hK K q0 q1 q2 qf
        try simp only [Act.put, List.setIfInBounds_toArray, List.set_cons_zero, List.set_cons_succ]
        refine wpAnyH_done (by kernel_rfl) ?_ _
        change Exit.then _ _ _ _ (World.setCells v1 bb 0 [.slice x2 a.nw y2, .int .i64 a.sent, .int .i64 a.dice])
        generalize World.setCells v1 bb 0 [.slice x2 a.nw y2, .int .i64 a.sent, .int .i64 a.dice] = v2 at *
        go_wp2_with fail
        go_meet
        exact ⟨_, _, _, _, _, _, rfl, rfl, FIN.out⟩
    · go_simp
      have L1 := Lib.hid (L0.out.trans ((balloc u0 (.cells #[.slice none 0 0, .int .i64 0, .int .i64 0] 37)).mono G0.out))
      have G1 := Lib.hid (Nat.le_trans G0.out (balloc u0 (.cells #[.slice none 0 0, .int .i64 0, .int .i64 0] 37)).size)
      have Pd_1 := Lib.hid (heap_alloc_new u0 (.cells #[.slice none 0 0, .int .i64 0, .int .i64 0] 37))
      have Od := Lib.hid G0.out
      refine hK.out _ _ ?_ (fun hHeld => ?_)
      · exact SS.out _ L1.out
      clear hK K
      try simp only [Act.put, List.setIfInBounds_toArray, List.set_cons_zero, List.set_cons_succ]
      generalize u0.alloc (.cells #[.slice none 0 0, .int .i64 0, .int .i64 0] 37) = u1 at *
      generalize u0.heap.size = bb at *
      refine wpAnyH_ready (rs := [1, 4]) (by kernel_rfl) (by simp) ?_
      refine AllReadyH.cons (o := ⟨_, _, _, _, _, _⟩) rfl (fun K hK => ?_) (AllReadyH.cons (o := ⟨_, _, _, _, _, _⟩) rfl (fun K hK => ?_) AllReadyH.nil)
      · go_simp
        go_at_call 24
        refine (HC.out _ (LL.out _ L1.out)).mono ?_
        rintro x u2 ⟨v, rfl, hv, hb9⟩
        obtain ⟨vW, rfl, hw9⟩ := hv
        obtain ⟨x1, y1, rfl, _, _, _⟩ := id (own_sl hw9)
        have L2 := Lib.hid (L1.out.trans (hb9.mono G1.out))
        have G2 := Lib.hid (Nat.le_trans G1.out hb9.size)
        have R1_2 := Lib.hid (own_lower hw9 (show w.heap.size ≤ u1.heap.size from Nat.le_trans (by omega) G1.out))
        have Pd_2 := Lib.hid ((hb9.block _ (lt_of_block Pd_1.out)).trans Pd_1.out)
        unfold sval
        refine hK.out _ _ ?_ (fun hHeld => ?_)
        · exact SS.out _ L2.out
        clear hK K
        try simp only [Act.put, List.setIfInBounds_toArray, List.set_cons_zero, List.set_cons_succ]
        clear hb9 hw9
        refine wpAnyH_ready (rs := [3, 4]) (by kernel_rfl) (by simp) ?_
        refine AllReadyH.cons (o := ⟨_, _, _, _, _, _⟩) rfl (fun K hK => ?_) (AllReadyH.cons (o := ⟨_, _, _, _, _, _⟩) rfl (fun K hK => ?_) AllReadyH.nil)
        · go_simp
          go_at_call 24
          refine (HC.out _ (LL.out _ L2.out)).mono ?_
          rintro x u3 ⟨v, rfl, hv, hb9⟩
          obtain ⟨vW, rfl, hw9⟩ := hv
          obtain ⟨x2, y2, rfl, _, _, _⟩ := id (own_sl hw9)
          have L3 := Lib.hid (L2.out.trans (hb9.mono G2.out))
          have G3 := Lib.hid (Nat.le_trans G2.out hb9.size)
          have R2_3 := Lib.hid (own_lower hw9 (show w.heap.size ≤ u2.heap.size from Nat.le_trans (by omega) G2.out))
          have AP : Hid (∀ g, (Value.slice x1 a.nw y1).ownBlock = some g → (Value.slice x2 a.nw y2).ownBlock ≠ some g) := fun g q1 q2 => by have := (own_lt R1_2.out q1).2; have := (own_lt hw9 q2).1; omega
          have R1_3 := Lib.hid (own_below R1_2.out hb9)
          have Pd_3 := Lib.hid ((hb9.block _ (lt_of_block Pd_2.out)).trans Pd_2.out)
          unfold sval
          refine hK.out _ _ ?_ (fun hHeld => ?_)
          · exact SS.out _ L3.out
          clear hK K
          try simp only [Act.put, List.setIfInBounds_toArray, List.set_cons_zero, List.set_cons_succ]
          clear hb9 hw9
          refine wpAnyH_ready (rs := [4]) (by kernel_rfl) (by simp) ?_
          refine AllReadyH.cons (o := ⟨_, _, _, _, _, _⟩) rfl (fun K hK => ?_) AllReadyH.nil
          go_simp
          have L4 := Lib.hid (L3.out.trans ((balloc u3 (.cells #[.slice none 0 0, .int .i64 0, .int .i64 0] 37)).mono G3.out))
          have G4 := Lib.hid (Nat.le_trans G3.out (balloc u3 (.cells #[.slice none 0 0, .int .i64 0, .int .i64 0] 37)).size)
          have Pc_4 := Lib.hid (heap_alloc_new u3 (.cells #[.slice none 0 0, .int .i64 0, .int .i64 0] 37))
          have Oc := Lib.hid G3.out
          have R1_4 := Lib.hid (own_below R1_3.out (balloc u3 (.cells #[.slice none 0 0, .int .i64 0, .int .i64 0] 37)))
          have R2_4 := Lib.hid (own_below R2_3.out (balloc u3 (.cells #[.slice none 0 0, .int .i64 0, .int .i64 0] 37)))
          have Pd_4 := Lib.hid ((Below.heap_alloc u3 (.cells #[.slice none 0 0, .int .i64 0, .int .i64 0] 37) _ (lt_of_block Pd_3.out)).trans Pd_3.out)
          have NE : Hid (bb ≠ u3.heap.size) := Nat.ne_of_lt (lt_of_block Pd_3.out)
          refine hK.out _ _ ?_ (fun hHeld => ?_)
          · exact SS.out _ L4.out
          clear hK K
          try simp only [Act.put, List.setIfInBounds_toArray, List.set_cons_zero, List.set_cons_succ]
          generalize u3.alloc (.cells #[.slice none 0 0, .int .i64 0, .int .i64 0] 37) = u4 at *
          generalize u3.heap.size = ba at *
          have hne : bb ≠ ba := NE.out
          obtain ⟨q0, q1, q2⟩ := three_cells8 Pc_4.out
          have qf : ∀ q, u4.frozen? ⟨ba, q, none⟩ = false := fun q => Lib.frozen_of_heap Pc_4.out q
          have LA : Hid (Below (w.heap.size + 2) u (World.setCells u4 ba 0 [.slice x1 a.nw y1, .int .i64 a.sent, .int .i64 a.dice])) := L4.out.trans (put_low7 Oc.out [.slice x1 a.nw y1, .int .i64 a.sent, .int .i64 a.dice] 0 u4)
          have CA : Hid ((World.setCells u4 ba 0 [.slice x1 a.nw y1, .int .i64 a.sent, .int .i64 a.dice]).heap[ba]? = some (.cells #[.slice x1 a.nw y1, .int .i64 a.sent, .int .i64 a.dice] 37 (0, 0))) := put_three8 Pc_4.out _ _ _
          have DA : Hid ((World.setCells u4 ba 0 [.slice x1 a.nw y1, .int .i64 a.sent, .int .i64 a.dice]).heap[bb]? = some (.cells #[.slice none 0 0, .int .i64 0, .int .i64 0] 37)) := (setCells_other8 hne _ 0 _).trans Pd_4.out
          have RA := Lib.hid (own_setCells (own_not R1_4.out Pc_4.out (by decide)) [.slice x1 a.nw y1, .int .i64 a.sent, .int .i64 a.dice] 0 _ R1_4.out)
          have RB := Lib.hid (own_setCells (own_not R2_4.out Pc_4.out (by decide)) [.slice x1 a.nw y1, .int .i64 a.sent, .int .i64 a.dice] 0 _ R2_4.out)
          refine wpAnyH_ready (rs := [6]) (by kernel_rfl) (by simp) ?_
          refine AllReadyH.cons (o := ⟨_, _, _, _, _, _⟩) rfl (fun K hK => ?_) AllReadyH.nil
          go_simp
          change K _ (World.setCells u4 ba 0 [.slice x1 a.nw y1, .int .i64 a.sent, .int .i64 a.dice])
          refine hK.out _ _ ?_ (fun hHeld => ?_)
          · exact SS.out _ LA.out
          clear hK K q0 q1 q2 qf
          try simp only [Act.put, List.setIfInBounds_toArray, List.set_cons_zero, List.set_cons_succ]
          generalize (World.setCells u4 ba 0 [.slice x1 a.nw y1, .int .i64 a.sent, .int .i64 a.dice]) = v1 at *
          obtain ⟨q0, q1, q2⟩ := three_cells8 DA.out
          have qf : ∀ q, v1.frozen? ⟨bb, q, none⟩ = false := fun q => Lib.frozen_of_heap DA.out q
          have LB : Hid (Below (w.heap.size + 2) u (World.setCells v1 bb 0 [.slice x2 a.nw y2, .int .i64 a.sent, .int .i64 a.dice])) := LA.out.trans (put_low7 Od.out [.slice x2 a.nw y2, .int .i64 a.sent, .int .i64 a.dice] 0 v1)
          have FIN : Hid (SSt w a b aA cA aB cB ba bb x1 y1 x2 y2 a.w (World.setCells v1 bb 0 [.slice x2 a.nw y2, .int .i64 a.sent, .int .i64 a.dice])) := ⟨(LB.out.block _ (by omega)).trans XA.out, (LB.out.block _ (by omega)).trans XB.out, (setCells_other8 hne.symm _ 0 _).trans CA.out, put_three8 DA.out _ _ _, own_setCells (own_not RA.out DA.out (by decide)) [.slice x2 a.nw y2, .int .i64 a.sent, .int .i64 a.dice] 0 _ RA.out, own_setCells (own_not RB.out DA.out (by decide)) [.slice x2 a.nw y2, .int .i64 a.sent, .int .i64 a.dice] 0 _ RB.out, AP.out, LL.out _ LB.out⟩
          refine wpAnyH_ready (rs := [7]) (by kernel_rfl) (by simp) ?_
          refine AllReadyH.cons (o := ⟨_, _, _, _, _, _⟩) rfl (fun K hK => ?_) AllReadyH.nil
          go_simp
          change K _ (World.setCells v1 bb 0 [.slice x2 a.nw y2, .int .i64 a.sent, .int .i64 a.dice])
          refine hK.out _ _ ?_ (fun hHeld => ?_)
          · exact SS.out _ LB.out
          clear hK K q0 q1 q2 qf
          try simp only [Act.put, List.setIfInBounds_toArray, List.set_cons_zero, List.set_cons_succ]
          refine wpAnyH_done (by kernel_rfl) ?_ _
          change Exit.then _ _ _ _ (World.setCells v1 bb 0 [.slice x2 a.nw y2, .int .i64 a.sent, .int .i64 a.dice])
          generalize World.setCells v1 bb 0 [.slice x2 a.nw y2, .int .i64 a.sent, .int .i64 a.dice] = v2 at *
          go_wp2_with fail
          go_meet
          exact ⟨_, _, _, _, _, _, rfl, rfl, FIN.out⟩
        · go_simp
          have L3 := Lib.hid (L2.out.trans ((balloc u2 (.cells #[.slice none 0 0, .int .i64 0, .int .i64 0] 37)).mono G2.out))
          have G3 := Lib.hid (Nat.le_trans G2.out (balloc u2 (.cells #[.slice none 0 0, .int .i64 0, .int .i64 0] 37)).size)
          have Pc_3 := Lib.hid (heap_alloc_new u2 (.cells #[.slice none 0 0, .int .i64 0, .int .i64 0] 37))
          have Oc := Lib.hid G2.out
          have R1_3 := Lib.hid (own_below R1_2.out (balloc u2 (.cells #[.slice none 0 0, .int .i64 0, .int .i64 0] 37)))
          have Pd_3 := Lib.hid ((Below.heap_alloc u2 (.cells #[.slice none 0 0, .int .i64 0, .int .i64 0] 37) _ (lt_of_block Pd_2.out)).trans Pd_2.out)
          have NE : Hid (bb ≠ u2.heap.size) := Nat.ne_of_lt (lt_of_block Pd_2.out)
          refine hK.out _ _ ?_ (fun hHeld => ?_)
          · exact SS.out _ L3.out
          clear hK K
          try simp only [Act.put, List.setIfInBounds_toArray, List.set_cons_zero, List.set_cons_succ]
          generalize u2.alloc (.cells #[.slice none 0 0, .int .i64 0, .int .i64 0] 37) = u3 at *
          generalize u2.heap.size = ba at *
          refine wpAnyH_ready (rs := [3]) (by kernel_rfl) (by simp) ?_
          refine AllReadyH.cons (o := ⟨_, _, _, _, _, _⟩) rfl (fun K hK => ?_) AllReadyH.nil
          go_simp
          go_at_call 24
          refine (HC.out _ (LL.out _ L3.out)).mono ?_
          rintro x u4 ⟨v, rfl, hv, hb9⟩
          obtain ⟨vW, rfl, hw9⟩ := hv
          obtain ⟨x2, y2, rfl, _, _, _⟩ := id (own_sl hw9)
          have L4 := Lib.hid (L3.out.trans (hb9.mono G3.out))
          have G4 := Lib.hid (Nat.le_trans G3.out hb9.size)
          have R2_4 := Lib.hid (own_lower hw9 (show w.heap.size ≤ u3.heap.size from Nat.le_trans (by omega) G3.out))
          have AP : Hid (∀ g, (Value.slice x1 a.nw y1).ownBlock = some g → (Value.slice x2 a.nw y2).ownBlock ≠ some g) := fun g q1 q2 => by have := (own_lt R1_3.out q1).2; have := (own_lt hw9 q2).1; omega
          have R1_4 := Lib.hid (own_below R1_3.out hb9)
          have Pc_4 := Lib.hid ((hb9.block _ (lt_of_block Pc_3.out)).trans Pc_3.out)
          have Pd_4 := Lib.hid ((hb9.block _ (lt_of_block Pd_3.out)).trans Pd_3.out)
          unfold sval
          refine hK.out _ _ ?_ (fun hHeld => ?_)
          · exact SS.out _ L4.out
          clear hK K
          try simp only [Act.put, List.setIfInBounds_toArray, List.set_cons_zero, List.set_cons_succ]
          clear hb9 hw9
          have hne : bb ≠ ba := NE.out
          obtain ⟨q0, q1, q2⟩ := three_cells8 Pc_4.out
          have qf : ∀ q, u4.frozen? ⟨ba, q, none⟩ = false := fun q => Lib.frozen_of_heap Pc_4.out q
          have LA : Hid (Below (w.heap.size + 2) u (World.setCells u4 ba 0 [.slice x1 a.nw y1, .int .i64 a.sent, .int .i64 a.dice])) := L4.out.trans (put_low7 Oc.out [.slice x1 a.nw y1, .int .i64 a.sent, .int .i64 a.dice] 0 u4)
          have CA : Hid ((World.setCells u4 ba 0 [.slice x1 a.nw y1, .int .i64 a.sent, .int .i64 a.dice]).heap[ba]? = some (.cells #[.slice x1 a.nw y1, .int .i64 a.sent, .int .i64 a.dice] 37 (0, 0))) := put_three8 Pc_4.out _ _ _
          have DA : Hid ((World.setCells u4 ba 0 [.slice x1 a.nw y1, .int .i64 a.sent, .int .i64 a.dice]).heap[bb]? = some (.cells #[.slice none 0 0, .int .i64 0, .int .i64 0] 37)) := (setCells_other8 hne _ 0 _).trans Pd_4.out
          have RA := Lib.hid (own_setCells (own_not R1_4.out Pc_4.out (by decide)) [.slice x1 a.nw y1, .int .i64 a.sent, .int .i64 a.dice] 0 _ R1_4.out)
          have RB := Lib.hid (own_setCells (own_not R2_4.out Pc_4.out (by decide)) [.slice x1 a.nw y1, .int .i64 a.sent, .int .i64 a.dice] 0 _ R2_4.out)
          refine wpAnyH_ready (rs := [6]) (by kernel_rfl) (by simp) ?_
          refine AllReadyH.cons (o := ⟨_, _, _, _, _, _⟩) rfl (fun K hK => ?_) AllReadyH.nil
          go_simp
          change K _ (World.setCells u4 ba 0 [.slice x1 a.nw y1, .int .i64 a.sent, .int .i64 a.dice])
          refine hK.out _ _ ?_ (fun hHeld => ?_)
          · exact SS.out _ LA.out
          clear hK K q0 q1 q2 qf
          try simp only [Act.put, List.setIfInBounds_toArray, List.set_cons_zero, List.set_cons_succ]
          generalize (World.setCells u4 ba 0 [.slice x1 a.nw y1, .int .i64 a.sent, .int .i64 a.dice]) = v1 at *
          obtain ⟨q0, q1, q2⟩ := three_cells8 DA.out
          have qf : ∀ q, v1.frozen? ⟨bb, q, none⟩ = false := fun q => Lib.frozen_of_heap DA.out q
          have LB : Hid (Below (w.heap.size + 2) u (World.setCells v1 bb 0 [.slice x2 a.nw y2, .int .i64 a.sent, .int .i64 a.dice])) := LA.out.trans (put_low7 Od.out [.slice x2 a.nw y2, .int .i64 a.sent, .int .i64 a.dice] 0 v1)
          have FIN : Hid (SSt w a b aA cA aB cB ba bb x1 y1 x2 y2 a.w (World.setCells v1 bb 0 [.slice x2 a.nw y2, .int .i64 a.sent, .int .i64 a.dice])) := ⟨(LB.out.block _ (by omega)).trans XA.out, (LB.out.block _ (by omega)).trans XB.out, (setCells_other8 hne.symm _ 0 _).trans CA.out, put_three8 DA.out _ _ _, own_setCells (own_not RA.out DA.out (by decide)) [.slice x2 a.nw y2, .int .i64 a.sent, .int .i64 a.dice] 0 _ RA.out, own_setCells (own_not RB.out DA.out (by decide)) [.slice x2 a.nw y2, .int .i64 a.sent, .int .i64 a.dice] 0 _ RB.out, AP.out, LL.out _ LB.out⟩
          refine wpAnyH_ready (rs := [7]) (by kernel_rfl) (by simp) ?_
          refine AllReadyH.cons (o := ⟨_, _, _, _, _, _⟩) rfl (fun K hK => ?_) AllReadyH.nil
          go_simp
          change K _ (World.setCells v1 bb 0 [.slice x2 a.nw y2, .int .i64 a.sent, .int .i64 a.dice])
          refine hK.out _ _ ?_ (fun hHeld => ?_)
          · exact SS.out _ LB.out
          clear hK K q0 q1 q2 qf
          try simp only [Act.put, List.setIfInBounds_toArray, List.set_cons_zero, List.set_cons_succ]
          refine wpAnyH_done (by kernel_rfl) ?_ _
          change Exit.then _ _ _ _ (World.setCells v1 bb 0 [.slice x2 a.nw y2, .int .i64 a.sent, .int .i64 a.dice])
          generalize World.setCells v1 bb 0 [.slice x2 a.nw y2, .int .i64 a.sent, .int .i64 a.dice] = v2 at *
          go_wp2_with fail
          go_meet
          exact ⟨_, _, _, _, _, _, rfl, rfl, FIN.out⟩
      · go_simp
        have L2 := Lib.hid (L1.out.trans ((balloc u1 (.cells #[.slice none 0 0, .int .i64 0, .int .i64 0] 37)).mono G1.out))
        have G2 := Lib.hid (Nat.le_trans G1.out (balloc u1 (.cells #[.slice none 0 0, .int .i64 0, .int .i64 0] 37)).size)
        have Pc_2 := Lib.hid (heap_alloc_new u1 (.cells #[.slice none 0 0, .int .i64 0, .int .i64 0] 37))
        have Oc := Lib.hid G1.out
        have Pd_2 := Lib.hid ((Below.heap_alloc u1 (.cells #[.slice none 0 0, .int .i64 0, .int .i64 0] 37) _ (lt_of_block Pd_1.out)).trans Pd_1.out)
        have NE : Hid (bb ≠ u1.heap.size) := Nat.ne_of_lt (lt_of_block Pd_1.out)
        refine hK.out _ _ ?_ (fun hHeld => ?_)
        · exact SS.out _ L2.out
        clear hK K
        try simp only [Act.put, List.setIfInBounds_toArray, List.set_cons_zero, List.set_cons_succ]
        generalize u1.alloc (.cells #[.slice none 0 0, .int .i64 0, .int .i64 0] 37) = u2 at *
        generalize u1.heap.size = ba at *
        refine wpAnyH_ready (rs := [1]) (by kernel_rfl) (by simp) ?_
        refine AllReadyH.cons (o := ⟨_, _, _, _, _, _⟩) rfl (fun K hK => ?_) AllReadyH.nil
        go_simp
        go_at_call 24
        refine (HC.out _ (LL.out _ L2.out)).mono ?_
        rintro x u3 ⟨v, rfl, hv, hb9⟩
        obtain ⟨vW, rfl, hw9⟩ := hv
        obtain ⟨x1, y1, rfl, _, _, _⟩ := id (own_sl hw9)
        have L3 := Lib.hid (L2.out.trans (hb9.mono G2.out))
        have G3 := Lib.hid (Nat.le_trans G2.out hb9.size)
        have R1_3 := Lib.hid (own_lower hw9 (show w.heap.size ≤ u2.heap.size from Nat.le_trans (by omega) G2.out))
        have Pc_3 := Lib.hid ((hb9.block _ (lt_of_block Pc_2.out)).trans Pc_2.out)
        have Pd_3 := Lib.hid ((hb9.block _ (lt_of_block Pd_2.out)).trans Pd_2.out)
        unfold sval
        refine hK.out _ _ ?_ (fun hHeld => ?_)
        · exact SS.out _ L3.out
        clear hK K
        try simp only [Act.put, List.setIfInBounds_toArray, List.set_cons_zero, List.set_cons_succ]
        clear hb9 hw9
        refine wpAnyH_ready (rs := [3]) (by kernel_rfl) (by simp) ?_
        refine AllReadyH.cons (o := ⟨_, _, _, _, _, _⟩) rfl (fun K hK => ?_) AllReadyH.nil
        go_simp
        go_at_call 24
        refine (HC.out _ (LL.out _ L3.out)).mono ?_
        rintro x u4 ⟨v, rfl, hv, hb9⟩
        obtain ⟨vW, rfl, hw9⟩ := hv
        obtain ⟨x2, y2, rfl, _, _, _⟩ := id (own_sl hw9)
        have L4 := Lib.hid (L3.out.trans (hb9.mono G3.out))
        have G4 := Lib.hid (Nat.le_trans G3.out hb9.size)
        have R2_4 := Lib.hid (own_lower hw9 (show w.heap.size ≤ u3.heap.size from Nat.le_trans (by omega) G3.out))
        have AP : Hid (∀ g, (Value.slice x1 a.nw y1).ownBlock = some g → (Value.slice x2 a.nw y2).ownBlock ≠ some g) := fun g q1 q2 => by have := (own_lt R1_3.out q1).2; have := (own_lt hw9 q2).1; omega
        have R1_4 := Lib.hid (own_below R1_3.out hb9)
        have Pc_4 := Lib.hid ((hb9.block _ (lt_of_block Pc_3.out)).trans Pc_3.out)
        have Pd_4 := Lib.hid ((hb9.block _ (lt_of_block Pd_3.out)).trans Pd_3.out)
        unfold sval
        refine hK.out _ _ ?_ (fun hHeld => ?_)
        · exact SS.out _ L4.out
        clear hK K
        try simp only [Act.put, List.setIfInBounds_toArray, List.set_cons_zero, List.set_cons_succ]
        clear hb9 hw9
        have hne : bb ≠ ba := NE.out
        obtain ⟨q0, q1, q2⟩ := three_cells8 Pc_4.out
        have qf : ∀ q, u4.frozen? ⟨ba, q, none⟩ = false := fun q => Lib.frozen_of_heap Pc_4.out q
        have LA : Hid (Below (w.heap.size + 2) u (World.setCells u4 ba 0 [.slice x1 a.nw y1, .int .i64 a.sent, .int .i64 a.dice])) := L4.out.trans (put_low7 Oc.out [.slice x1 a.nw y1, .int .i64 a.sent, .int .i64 a.dice] 0 u4)
        have CA : Hid ((World.setCells u4 ba 0 [.slice x1 a.nw y1, .int .i64 a.sent, .int .i64 a.dice]).heap[ba]? = some (.cells #[.slice x1 a.nw y1, .int .i64 a.sent, .int .i64 a.dice] 37 (0, 0))) := put_three8 Pc_4.out _ _ _
        have DA : Hid ((World.setCells u4 ba 0 [.slice x1 a.nw y1, .int .i64 a.sent, .int .i64 a.dice]).heap[bb]? = some (.cells #[.slice none 0 0, .int .i64 0, .int .i64 0] 37)) := (setCells_other8 hne _ 0 _).trans Pd_4.out
        have RA := Lib.hid (own_setCells (own_not R1_4.out Pc_4.out (by decide)) [.slice x1 a.nw y1, .int .i64 a.sent, .int .i64 a.dice] 0 _ R1_4.out)
        have RB := Lib.hid (own_setCells (own_not R2_4.out Pc_4.out (by decide)) [.slice x1 a.nw y1, .int .i64 a.sent, .int .i64 a.dice] 0 _ R2_4.out)
        refine wpAnyH_ready (rs := [6]) (by kernel_rfl) (by simp) ?_
        refine AllReadyH.cons (o := ⟨_, _, _, _, _, _⟩) rfl (fun K hK => ?_) AllReadyH.nil
        go_simp
        change K _ (World.setCells u4 ba 0 [.slice x1 a.nw y1, .int .i64 a.sent, .int .i64 a.dice])
        refine hK.out _ _ ?_ (fun hHeld => ?_)
        · exact SS.out _ LA.out
        clear hK K q0 q1 q2 qf
        try simp only [Act.put, List.setIfInBounds_toArray, List.set_cons_zero, List.set_cons_succ]
        generalize (World.setCells u4 ba 0 [.slice x1 a.nw y1, .int .i64 a.sent, .int .i64 a.dice]) = v1 at *
        obtain ⟨q0, q1, q2⟩ := three_cells8 DA.out
        have qf : ∀ q, v1.frozen? ⟨bb, q, none⟩ = false := fun q => Lib.frozen_of_heap DA.out q
        have LB : Hid (Below (w.heap.size + 2) u (World.setCells v1 bb 0 [.slice x2 a.nw y2, .int .i64 a.sent, .int .i64 a.dice])) := LA.out.trans (put_low7 Od.out [.slice x2 a.nw y2, .int .i64 a.sent, .int .i64 a.dice] 0 v1)
        have FIN : Hid (SSt w a b aA cA aB cB ba bb x1 y1 x2 y2 a.w (World.setCells v1 bb 0 [.slice x2 a.nw y2, .int .i64 a.sent, .int .i64 a.dice])) := ⟨(LB.out.block _ (by omega)).trans XA.out, (LB.out.block _ (by omega)).trans XB.out, (setCells_other8 hne.symm _ 0 _).trans CA.out, put_three8 DA.out _ _ _, own_setCells (own_not RA.out DA.out (by decide)) [.slice x2 a.nw y2, .int .i64 a.sent, .int .i64 a.dice] 0 _ RA.out, own_setCells (own_not RB.out DA.out (by decide)) [.slice x2 a.nw y2, .int .i64 a.sent, .int .i64 a.dice] 0 _ RB.out, AP.out, LL.out _ LB.out⟩
        refine wpAnyH_ready (rs := [7]) (by kernel_rfl) (by simp) ?_
        refine AllReadyH.cons (o := ⟨_, _, _, _, _, _⟩) rfl (fun K hK => ?_) AllReadyH.nil
        go_simp
        change K _ (World.setCells v1 bb 0 [.slice x2 a.nw y2, .int .i64 a.sent, .int .i64 a.dice])
        refine hK.out _ _ ?_ (fun hHeld => ?_)
        · exact SS.out _ LB.out
        clear hK K q0 q1 q2 qf
        try simp only [Act.put, List.setIfInBounds_toArray, List.set_cons_zero, List.set_cons_succ]
        refine wpAnyH_done (by kernel_rfl) ?_ _
        change Exit.then _ _ _ _ (World.setCells v1 bb 0 [.slice x2 a.nw y2, .int .i64 a.sent, .int .i64 a.dice])
        generalize World.setCells v1 bb 0 [.slice x2 a.nw y2, .int .i64 a.sent, .int .i64 a.dice] = v2 at *
        go_wp2_with fail
        go_meet
        exact ⟨_, _, _, _, _, _, rfl, rfl, FIN.out⟩
  case rest =>
    obtain ⟨ba, bb, x1, y1, x2, y2, rfl, rfl, hS⟩ := hcut
    have HS := Lib.hid hS
    clear hS XA XB SZ B1 a0 a1 a2 b0 b1 b2
    go_wp2_with fail
    go_loopw [7] (fun i wr => ∃ j : Nat, j ≤ a.nw ∧ i = .int .i64 j ∧ SSt w a b aA cA aB cB ba bb x1 y1 x2 y2 (incF a.w j) wr) (fun i _ => a.nw - (intOf i).toNat)
    case atStart => exact ⟨0, Nat.zero_le _, rfl, by rw [incF_zero]; exact HS.out⟩
    case round =>
      obtain ⟨j, hj, rfl, hr⟩ := hrel
      have HR := Lib.hid hr
      have h100 := H100.out
      clear hr HS
      by_cases hlt : j < a.nw
      · obtain ⟨bw, rfl, c0, cfz, hy2, hset⟩ := HR.out.set hlt
        rw [incF_at] at c0
        have SE := Lib.hid (hset (incI (a.w j)))
        rw [incF_succ] at SE
        unfold incI at SE
        obtain ⟨d0, d1', d2'⟩ := three_cells8 HR.out.kd
        have c0d : wr.drew.cell? ⟨bw, j, none⟩ = some (.int .i64 (a.w j)) := c0
        have d0d : wr.drew.cell? ⟨bb, 0, none⟩ = some (.slice (some ⟨bw, 0, none⟩) a.nw y2) := d0
        have cfd : ∀ q, wr.drew.frozen? ⟨bw, q, none⟩ = false := cfz
        have hj2 : (j : Int) < (a.nw : Int) := by omega
        have hj0 : (0 : Int) ≤ (j : Int) := by omega
        have hjt : ((j : Nat) : Int).toNat = j := by omega
        clear hset
        go_upto_region 7 with fail
        go_region
        have H9 := Lib.hid (SE.out.below (bdrew _))
        change Exit.inBlock _ _ _ _ (World.drew (World.setCell wr ⟨bw, j, none⟩ (.int .i64 (wrap64 (a.w j + 1)))))
        generalize (wr.setCell ⟨bw, j, none⟩ (.int .i64 (wrap64 (a.w j + 1)))).drew = w9 at *
        go_wp2_with fail
        go_roundw
        case rel => exact ⟨j + 1, by omega, by go_num, H9.out⟩
        case measure => simp [intOf]; omega
      · obtain rfl : j = a.nw := by omega
        have HV := Lib.hid HB
        have HA5 := Lib.hid HA
        clear hlt hj
        obtain ⟨d0, d1', d2'⟩ := three_cells8 HR.out.kd
        go_upto_region 8 with fail
        have SS : ∀ u2, SSt w a b aA cA aB cB ba bb x1 y1 x2 y2 (incF a.w a.nw) u2 → (fun w' => w'.cell? ⟨w.heap.size, 0, none⟩ = some (.slice aA a.nw cA) ∧ w'.cell? ⟨w.heap.size, 1, none⟩ = some (.int .i64 a.sent) ∧ w'.cell? ⟨w.heap.size, 2, none⟩ = some (.int .i64 a.dice) ∧ w'.cell? ⟨w.heap.size + 1, 0, none⟩ = some (.slice aB b.nw cB) ∧ w'.cell? ⟨w.heap.size + 1, 1, none⟩ = some (.int .i64 b.sent) ∧ w'.cell? ⟨w.heap.size + 1, 2, none⟩ = some (.int .i64 b.dice) ∧ w'.cell? ⟨ba, 0, none⟩ = some (.slice x1 a.nw y1) ∧ w'.cell? ⟨ba, 1, none⟩ = some (.int .i64 a.sent) ∧ w'.cell? ⟨ba, 2, none⟩ = some (.int .i64 a.dice) ∧ w'.cell? ⟨bb, 0, none⟩ = some (.slice x2 a.nw y2) ∧ w'.cell? ⟨bb, 1, none⟩ = some (.int .i64 a.sent) ∧ w'.cell? ⟨bb, 2, none⟩ = some (.int .i64 a.dice)) u2 := fun u2 h => by
          obtain ⟨q0, q1, q2⟩ := three_cells8 h.ka
          obtain ⟨r0, r1, r2⟩ := three_cells8 h.kb
          obtain ⟨s0, s1, s2⟩ := three_cells8 h.kc
          obtain ⟨t0, t1, t2⟩ := three_cells8 h.kd
          exact ⟨q0, q1, q2, r0, r1, r2, s0, s1, s2, t0, t1, t2⟩
        have SS := Lib.hid SS
        obtain ⟨bb', hbb⟩ : ∃ x, x = (sameW a.w b.w a.nw b.nw && decide (a.sent = b.sent) && decide (a.dice = b.dice)) := ⟨_, rfl⟩
        have C1 : Hid (∀ u2, SSt w a b aA cA aB cB ba bb x1 y1 x2 y2 (incF a.w a.nw) u2 → Calls Try.prog 14 #[.agg #[.slice aA a.nw cA, .int .i64 a.sent, .int .i64 a.dice], .agg #[.slice aB b.nw cB, .int .i64 b.sent, .int .i64 b.dice]] u2 fun e w' => e = .returned (.bool bb') ∧ Below u2.heap.size u2 w') := fun u2 h => by rw [hbb]; exact HSA.out a b _ _ u2 (HA.out.below h.low) (HB.out.below h.low)
        have C2 : Hid (∀ u2, SSt w a b aA cA aB cB ba bb x1 y1 x2 y2 (incF a.w a.nw) u2 → Calls Try.prog 17 #[.agg #[.slice aA a.nw cA, .int .i64 a.sent, .int .i64 a.dice], .agg #[.slice aB b.nw cB, .int .i64 b.sent, .int .i64 b.dice]] u2 fun e w' => e = .returned (.bool bb') ∧ Below u2.heap.size u2 w') := fun u2 h => by rw [hbb]; exact refSame8_any a b _ _ u2 (HA.out.below h.low) (HB.out.below h.low)
        have C3 : Hid (∀ u2, SSt w a b aA cA aB cB ba bb x1 y1 x2 y2 (incF a.w a.nw) u2 → Calls Try.prog 17 #[.agg #[.slice x1 a.nw y1, .int .i64 a.sent, .int .i64 a.dice], .agg #[.slice aA a.nw cA, .int .i64 a.sent, .int .i64 a.dice]] u2 fun e w' => e = .returned (.bool true) ∧ Below u2.heap.size u2 w') := fun u2 h => by
          have := refSame8_any a a _ _ u2 (own_sl h.r1) (HA.out.below h.low)
          rw [sameW_refl, decide_eq_true rfl, decide_eq_true rfl] at this
          exact this
        have C4 : Hid (∀ u2, SSt w a b aA cA aB cB ba bb x1 y1 x2 y2 (incF a.w a.nw) u2 → Calls Try.prog 14 #[.agg #[.slice aA a.nw cA, .int .i64 a.sent, .int .i64 a.dice], .agg #[.slice aA a.nw cA, .int .i64 a.sent, .int .i64 a.dice]] u2 fun e w' => e = .returned (.bool true) ∧ Below u2.heap.size u2 w') := fun u2 h => by
          have := HSA.out a a _ _ u2 (HA.out.below h.low) (HA.out.below h.low)
          rw [sameW_refl, decide_eq_true rfl, decide_eq_true rfl] at this
          exact this
        have C5 : Hid (0 < a.nw → ∀ u2, SSt w a b aA cA aB cB ba bb x1 y1 x2 y2 (incF a.w a.nw) u2 → Calls Try.prog 14 #[.agg #[.slice aA a.nw cA, .int .i64 a.sent, .int .i64 a.dice], .agg #[.slice x2 a.nw y2, .int .i64 a.sent, .int .i64 a.dice]] u2 fun e w' => e = .returned (.bool false) ∧ Below u2.heap.size u2 w') := fun h0 u2 h => by
          have := HSA.out a ⟨a.nw, incF a.w a.nw, a.sent, a.dice⟩ _ (.slice x2 a.nw y2) u2 (HA.out.below h.low) (own_sl h.r2)
          rw [show sameW a.w (incF a.w a.nw) a.nw a.nw = false from by
            unfold sameW sameL
            rw [allN_false (j := 0) h0 (by rw [decide_eq_false_iff_not]; unfold incF; rw [if_pos h0]; exact fun e => incI_ne _ e.symm)]
            simp] at this
          exact this
        have gq : (bb' == bb') = true := by simp
        have HD := Lib.hid (HR.out.below (bdrew wr))
        refine wp_region_held_drew (S := (fun w' => w'.cell? ⟨w.heap.size, 0, none⟩ = some (.slice aA a.nw cA) ∧ w'.cell? ⟨w.heap.size, 1, none⟩ = some (.int .i64 a.sent) ∧ w'.cell? ⟨w.heap.size, 2, none⟩ = some (.int .i64 a.dice) ∧ w'.cell? ⟨w.heap.size + 1, 0, none⟩ = some (.slice aB b.nw cB) ∧ w'.cell? ⟨w.heap.size + 1, 1, none⟩ = some (.int .i64 b.sent) ∧ w'.cell? ⟨w.heap.size + 1, 2, none⟩ = some (.int .i64 b.dice) ∧ w'.cell? ⟨ba, 0, none⟩ = some (.slice x1 a.nw y1) ∧ w'.cell? ⟨ba, 1, none⟩ = some (.int .i64 a.sent) ∧ w'.cell? ⟨ba, 2, none⟩ = some (.int .i64 a.dice) ∧ w'.cell? ⟨bb, 0, none⟩ = some (.slice x2 a.nw y2) ∧ w'.cell? ⟨bb, 1, none⟩ = some (.int .i64 a.sent) ∧ w'.cell? ⟨bb, 2, none⟩ = some (.int .i64 a.dice))) (by kernel_rfl) ?_ (fun hHeld => ?_)
        · exact SS.out _ HD.out
        change wpAnyH _ _ _ _ _ _ _ _ (World.drew wr)
        clear d0 d1' d2' HR hbb HV HA5
        generalize wr.drew = u0 at *
        rcases Nat.eq_zero_or_pos a.nw with hz | hnz
        · have dz : ((a.nw : Int) == 0) = true := by simp [hz]
          have HZ := Lib.hid hz
          clear hz C5
          refine wpAnyH_ready (rs := [0]) (by kernel_rfl) (by simp) ?_
          refine AllReadyH.cons (o := ⟨_, _, _, _, _, _⟩) rfl (fun K hK => ?_) AllReadyH.nil
          go_simp
          go_at_call 10
          refine (HAW.out _).mono ?_
          rintro x f1 ⟨rfl, hb9⟩
          have Hf1 := Lib.hid (HD.out.below hb9)
          refine hK.out _ _ ?_ (fun hHeld => ?_)
          · exact SS.out _ Hf1.out
          clear hK K
          try simp only [Act.put, List.setIfInBounds_toArray, List.set_cons_zero, List.set_cons_succ]
          clear hb9
          first
            | refine tk0 1 (oi := ⟨_, _, _, _, _, _⟩) rfl ?_
            | refine tk1 1 (oi := ⟨_, _, _, _, _, _⟩) (v := ?_) rfl ?_ ?_; rotate_left; · (intro w5 hSw; (try dsimp only at hSw); go_simp; (try with_reducible rfl))
          try simp only [Act.put, List.setIfInBounds_toArray, List.set_cons_zero, List.set_cons_succ]
          first
            | refine tk0 2 (oi := ⟨_, _, _, _, _, _⟩) rfl ?_
            | refine tk1 2 (oi := ⟨_, _, _, _, _, _⟩) (v := ?_) rfl ?_ ?_; rotate_left; · (intro w5 hSw; (try dsimp only at hSw); go_simp; (try with_reducible rfl))
          try simp only [Act.put, List.setIfInBounds_toArray, List.set_cons_zero, List.set_cons_succ]
          first
            | refine tk0 3 (oi := ⟨_, _, _, _, _, _⟩) rfl ?_
            | refine tk1 3 (oi := ⟨_, _, _, _, _, _⟩) (v := ?_) rfl ?_ ?_; rotate_left; · (intro w5 hSw; (try dsimp only at hSw); go_simp; (try with_reducible rfl))
          try simp only [Act.put, List.setIfInBounds_toArray, List.set_cons_zero, List.set_cons_succ]
          first
            | refine tk0 5 (oi := ⟨_, _, _, _, _, _⟩) rfl ?_
            | refine tk1 5 (oi := ⟨_, _, _, _, _, _⟩) (v := ?_) rfl ?_ ?_; rotate_left; · (intro w5 hSw; (try dsimp only at hSw); go_simp; (try with_reducible rfl))
          try simp only [Act.put, List.setIfInBounds_toArray, List.set_cons_zero, List.set_cons_succ]
          first
            | refine tk0 6 (oi := ⟨_, _, _, _, _, _⟩) rfl ?_
            | refine tk1 6 (oi := ⟨_, _, _, _, _, _⟩) (v := ?_) rfl ?_ ?_; rotate_left; · (intro w5 hSw; (try dsimp only at hSw); go_simp; (try with_reducible rfl))
          try simp only [Act.put, List.setIfInBounds_toArray, List.set_cons_zero, List.set_cons_succ]
          refine wpAnyH_ready (rs := [4]) (by kernel_rfl) (by simp) ?_
          refine AllReadyH.cons (o := ⟨_, _, _, _, _, _⟩) rfl (fun K hK => ?_) AllReadyH.nil
          go_simp
          go_at_call 14
          refine (C1.out _ Hf1.out).mono ?_
          rintro x f2 ⟨rfl, hb9⟩
          have Hf2 := Lib.hid (Hf1.out.below hb9)
          refine hK.out _ _ ?_ (fun hHeld => ?_)
          · exact SS.out _ Hf2.out
          clear hK K
          try simp only [Act.put, List.setIfInBounds_toArray, List.set_cons_zero, List.set_cons_succ]
          clear hb9
          refine wpAnyH_ready (rs := [7]) (by kernel_rfl) (by simp) ?_
          refine AllReadyH.cons (o := ⟨_, _, _, _, _, _⟩) rfl (fun K hK => ?_) AllReadyH.nil
          go_simp
          go_at_call 17
          refine (C2.out _ Hf2.out).mono ?_
          rintro x f3 ⟨rfl, hb9⟩
          have Hf3 := Lib.hid (Hf2.out.below hb9)
          refine hK.out _ _ ?_ (fun hHeld => ?_)
          · exact SS.out _ Hf3.out
          clear hK K
          try simp only [Act.put, List.setIfInBounds_toArray, List.set_cons_zero, List.set_cons_succ]
          clear hb9
          first
            | refine tk0 8 (oi := ⟨_, _, _, _, _, _⟩) rfl ?_
            | refine tk1 8 (oi := ⟨_, _, _, _, _, _⟩) (v := ?_) rfl ?_ ?_; rotate_left; · (intro w5 hSw; (try dsimp only at hSw); go_simp; (try with_reducible rfl))
          try simp only [Act.put, List.setIfInBounds_toArray, List.set_cons_zero, List.set_cons_succ]
          first
            | refine tk0 9 (oi := ⟨_, _, _, _, _, _⟩) rfl ?_
            | refine tk1 9 (oi := ⟨_, _, _, _, _, _⟩) (v := ?_) rfl ?_ ?_; rotate_left; · (intro w5 hSw; (try dsimp only at hSw); go_simp; (try with_reducible rfl))
          try simp only [Act.put, List.setIfInBounds_toArray, List.set_cons_zero, List.set_cons_succ]
          first
            | refine tk0 10 (oi := ⟨_, _, _, _, _, _⟩) rfl ?_
            | refine tk1 10 (oi := ⟨_, _, _, _, _, _⟩) (v := ?_) rfl ?_ ?_; rotate_left; · (intro w5 hSw; (try dsimp only at hSw); go_simp; (try with_reducible rfl))
          try simp only [Act.put, List.setIfInBounds_toArray, List.set_cons_zero, List.set_cons_succ]
          first
            | refine tk0 11 (oi := ⟨_, _, _, _, _, _⟩) rfl ?_
            | refine tk1 11 (oi := ⟨_, _, _, _, _, _⟩) (v := ?_) rfl ?_ ?_; rotate_left; · (intro w5 hSw; (try dsimp only at hSw); go_simp; (try with_reducible rfl))
          try simp only [Act.put, List.setIfInBounds_toArray, List.set_cons_zero, List.set_cons_succ]
          first
            | refine tk0 12 (oi := ⟨_, _, _, _, _, _⟩) rfl ?_
            | refine tk1 12 (oi := ⟨_, _, _, _, _, _⟩) (v := ?_) rfl ?_ ?_; rotate_left; · (intro w5 hSw; (try dsimp only at hSw); go_simp; (try with_reducible rfl))
          try simp only [Act.put, List.setIfInBounds_toArray, List.set_cons_zero, List.set_cons_succ]
          refine wpAnyH_ready (rs := [13]) (by kernel_rfl) (by simp) ?_
          refine AllReadyH.cons (o := ⟨_, _, _, _, _, _⟩) rfl (fun K hK => ?_) AllReadyH.nil
          go_simp
          go_at_call 17
          refine (C3.out _ Hf3.out).mono ?_
          rintro x f4 ⟨rfl, hb9⟩
          have Hf4 := Lib.hid (Hf3.out.below hb9)
          refine hK.out _ _ ?_ (fun hHeld => ?_)
          · exact SS.out _ Hf4.out
          clear hK K
          try simp only [Act.put, List.setIfInBounds_toArray, List.set_cons_zero, List.set_cons_succ]
          clear hb9
          first
            | refine tk0 14 (oi := ⟨_, _, _, _, _, _⟩) rfl ?_
            | refine tk1 14 (oi := ⟨_, _, _, _, _, _⟩) (v := ?_) rfl ?_ ?_; rotate_left; · (intro w5 hSw; (try dsimp only at hSw); go_simp; (try with_reducible rfl))
          try simp only [Act.put, List.setIfInBounds_toArray, List.set_cons_zero, List.set_cons_succ]
          first
            | refine tk0 15 (oi := ⟨_, _, _, _, _, _⟩) rfl ?_
            | refine tk1 15 (oi := ⟨_, _, _, _, _, _⟩) (v := ?_) rfl ?_ ?_; rotate_left; · (intro w5 hSw; (try dsimp only at hSw); go_simp; (try with_reducible rfl))
          try simp only [Act.put, List.setIfInBounds_toArray, List.set_cons_zero, List.set_cons_succ]
          first
            | refine tk0 16 (oi := ⟨_, _, _, _, _, _⟩) rfl ?_
            | refine tk1 16 (oi := ⟨_, _, _, _, _, _⟩) (v := ?_) rfl ?_ ?_; rotate_left; · (intro w5 hSw; (try dsimp only at hSw); go_simp; (try with_reducible rfl))
          try simp only [Act.put, List.setIfInBounds_toArray, List.set_cons_zero, List.set_cons_succ]
          first
            | refine tk0 17 (oi := ⟨_, _, _, _, _, _⟩) rfl ?_
            | refine tk1 17 (oi := ⟨_, _, _, _, _, _⟩) (v := ?_) rfl ?_ ?_; rotate_left; · (intro w5 hSw; (try dsimp only at hSw); go_simp; (try with_reducible rfl))
          try simp only [Act.put, List.setIfInBounds_toArray, List.set_cons_zero, List.set_cons_succ]
          refine wpAnyH_ready (rs := [18]) (by kernel_rfl) (by simp) ?_
          refine AllReadyH.cons (o := ⟨_, _, _, _, _, _⟩) rfl (fun K hK => ?_) AllReadyH.nil
          go_simp
          go_at_call 14
          refine (C4.out _ Hf4.out).mono ?_
          rintro x f5 ⟨rfl, hb9⟩
          have Hf5 := Lib.hid (Hf4.out.below hb9)
          refine hK.out _ _ ?_ (fun hHeld => ?_)
          · exact SS.out _ Hf5.out
          clear hK K
          try simp only [Act.put, List.setIfInBounds_toArray, List.set_cons_zero, List.set_cons_succ]
          clear hb9
          first
            | refine tk0 19 (oi := ⟨_, _, _, _, _, _⟩) rfl ?_
            | refine tk1 19 (oi := ⟨_, _, _, _, _, _⟩) (v := ?_) rfl ?_ ?_; rotate_left; · (intro w5 hSw; (try dsimp only at hSw); go_simp; (try with_reducible rfl))
          try simp only [Act.put, List.setIfInBounds_toArray, List.set_cons_zero, List.set_cons_succ]
          first
            | refine tk0 20 (oi := ⟨_, _, _, _, _, _⟩) rfl ?_
            | refine tk1 20 (oi := ⟨_, _, _, _, _, _⟩) (v := ?_) rfl ?_ ?_; rotate_left; · (intro w5 hSw; (try dsimp only at hSw); go_simp; (try with_reducible rfl))
          try simp only [Act.put, List.setIfInBounds_toArray, List.set_cons_zero, List.set_cons_succ]
          first
            | refine tk0 21 (oi := ⟨_, _, _, _, _, _⟩) rfl ?_
            | refine tk1 21 (oi := ⟨_, _, _, _, _, _⟩) (v := ?_) rfl ?_ ?_; rotate_left; · (intro w5 hSw; (try dsimp only at hSw); go_simp; (try with_reducible rfl))
          try simp only [Act.put, List.setIfInBounds_toArray, List.set_cons_zero, List.set_cons_succ]
          first
            | refine tk0 22 (oi := ⟨_, _, _, _, _, _⟩) rfl ?_
            | refine tk1 22 (oi := ⟨_, _, _, _, _, _⟩) (v := ?_) rfl ?_ ?_; rotate_left; · (intro w5 hSw; (try dsimp only at hSw); go_simp; (try with_reducible rfl))
          try simp only [Act.put, List.setIfInBounds_toArray, List.set_cons_zero, List.set_cons_succ]
          first
            | refine tk0 23 (oi := ⟨_, _, _, _, _, _⟩) rfl ?_
            | refine tk1 23 (oi := ⟨_, _, _, _, _, _⟩) (v := ?_) rfl ?_ ?_; rotate_left; · (intro w5 hSw; (try dsimp only at hSw); go_simp; (try with_reducible rfl))
          try simp only [Act.put, List.setIfInBounds_toArray, List.set_cons_zero, List.set_cons_succ]
          first
            | refine tk0 24 (oi := ⟨_, _, _, _, _, _⟩) rfl ?_
            | refine tk1 24 (oi := ⟨_, _, _, _, _, _⟩) (v := ?_) rfl ?_ ?_; rotate_left; · (intro w5 hSw; (try dsimp only at hSw); go_simp; (try with_reducible rfl))
          try simp only [Act.put, List.setIfInBounds_toArray, List.set_cons_zero, List.set_cons_succ]
          first
            | refine tk0 25 (oi := ⟨_, _, _, _, _, _⟩) rfl ?_
            | refine tk1 25 (oi := ⟨_, _, _, _, _, _⟩) (v := ?_) rfl ?_ ?_; rotate_left; · (intro w5 hSw; (try dsimp only at hSw); go_simp; (try with_reducible rfl))
          try simp only [Act.put, List.setIfInBounds_toArray, List.set_cons_zero, List.set_cons_succ]
          first
            | refine tk0 26 (oi := ⟨_, _, _, _, _, _⟩) rfl ?_
            | refine tk1 26 (oi := ⟨_, _, _, _, _, _⟩) (v := ?_) rfl ?_ ?_; rotate_left; · (intro w5 hSw; (try dsimp only at hSw); go_simp; (try with_reducible rfl))
          try simp only [Act.put, List.setIfInBounds_toArray, List.set_cons_zero, List.set_cons_succ]
          first
            | refine tk0 27 (oi := ⟨_, _, _, _, _, _⟩) rfl ?_
            | refine tk1 27 (oi := ⟨_, _, _, _, _, _⟩) (v := ?_) rfl ?_ ?_; rotate_left; · (intro w5 hSw; (try dsimp only at hSw); go_simp; (try with_reducible rfl))
          try simp only [Act.put, List.setIfInBounds_toArray, List.set_cons_zero, List.set_cons_succ]
          first
            | refine tk0 28 (oi := ⟨_, _, _, _, _, _⟩) rfl ?_
            | refine tk1 28 (oi := ⟨_, _, _, _, _, _⟩) (v := ?_) rfl ?_ ?_; rotate_left; · (intro w5 hSw; (try dsimp only at hSw); go_simp; (try with_reducible rfl))
          try simp only [Act.put, List.setIfInBounds_toArray, List.set_cons_zero, List.set_cons_succ]
          first
            | refine tk0 29 (oi := ⟨_, _, _, _, _, _⟩) rfl ?_
            | refine tk1 29 (oi := ⟨_, _, _, _, _, _⟩) (v := ?_) rfl ?_ ?_; rotate_left; · (intro w5 hSw; (try dsimp only at hSw); go_simp; (try with_reducible rfl))
          try simp only [Act.put, List.setIfInBounds_toArray, List.set_cons_zero, List.set_cons_succ]
          first
            | refine tk0 30 (oi := ⟨_, _, _, _, _, _⟩) rfl ?_
            | refine tk1 30 (oi := ⟨_, _, _, _, _, _⟩) (v := ?_) rfl ?_ ?_; rotate_left; · (intro w5 hSw; (try dsimp only at hSw); go_simp; (try with_reducible rfl))
          try simp only [Act.put, List.setIfInBounds_toArray, List.set_cons_zero, List.set_cons_succ]
          first
            | refine tk0 31 (oi := ⟨_, _, _, _, _, _⟩) rfl ?_
            | refine tk1 31 (oi := ⟨_, _, _, _, _, _⟩) (v := ?_) rfl ?_ ?_; rotate_left; · (intro w5 hSw; (try dsimp only at hSw); go_simp; (try with_reducible rfl))
          try simp only [Act.put, List.setIfInBounds_toArray, List.set_cons_zero, List.set_cons_succ]
          first
            | refine tk0 32 (oi := ⟨_, _, _, _, _, _⟩) rfl ?_
            | refine tk1 32 (oi := ⟨_, _, _, _, _, _⟩) (v := ?_) rfl ?_ ?_; rotate_left; · (intro w5 hSw; (try dsimp only at hSw); go_simp; (try with_reducible rfl))
          try simp only [Act.put, List.setIfInBounds_toArray, List.set_cons_zero, List.set_cons_succ]
          refine wpAnyH_done (by kernel_rfl) ?_ _
          clear hHeld
          go_wp2_with fail
          go_ret
          exact ⟨rfl, Hf5.out.low⟩
        · have dz : ((a.nw : Int) == 0) = false := by simp; omega
          have C5' := Lib.hid (C5.out hnz)
          clear hnz C5
          refine wpAnyH_ready (rs := [0]) (by kernel_rfl) (by simp) ?_
          refine AllReadyH.cons (o := ⟨_, _, _, _, _, _⟩) rfl (fun K hK => ?_) AllReadyH.nil
          go_simp
          go_at_call 10
          refine (HAW.out _).mono ?_
          rintro x f1 ⟨rfl, hb9⟩
          have Hf1 := Lib.hid (HD.out.below hb9)
          refine hK.out _ _ ?_ (fun hHeld => ?_)
          · exact SS.out _ Hf1.out
          clear hK K
          try simp only [Act.put, List.setIfInBounds_toArray, List.set_cons_zero, List.set_cons_succ]
          clear hb9
          first
            | refine tk0 1 (oi := ⟨_, _, _, _, _, _⟩) rfl ?_
            | refine tk1 1 (oi := ⟨_, _, _, _, _, _⟩) (v := ?_) rfl ?_ ?_; rotate_left; · (intro w5 hSw; (try dsimp only at hSw); go_simp; (try with_reducible rfl))
          try simp only [Act.put, List.setIfInBounds_toArray, List.set_cons_zero, List.set_cons_succ]
          first
            | refine tk0 2 (oi := ⟨_, _, _, _, _, _⟩) rfl ?_
            | refine tk1 2 (oi := ⟨_, _, _, _, _, _⟩) (v := ?_) rfl ?_ ?_; rotate_left; · (intro w5 hSw; (try dsimp only at hSw); go_simp; (try with_reducible rfl))
          try simp only [Act.put, List.setIfInBounds_toArray, List.set_cons_zero, List.set_cons_succ]
          first
            | refine tk0 3 (oi := ⟨_, _, _, _, _, _⟩) rfl ?_
            | refine tk1 3 (oi := ⟨_, _, _, _, _, _⟩) (v := ?_) rfl ?_ ?_; rotate_left; · (intro w5 hSw; (try dsimp only at hSw); go_simp; (try with_reducible rfl))
          try simp only [Act.put, List.setIfInBounds_toArray, List.set_cons_zero, List.set_cons_succ]
          first
            | refine tk0 5 (oi := ⟨_, _, _, _, _, _⟩) rfl ?_
            | refine tk1 5 (oi := ⟨_, _, _, _, _, _⟩) (v := ?_) rfl ?_ ?_; rotate_left; · (intro w5 hSw; (try dsimp only at hSw); go_simp; (try with_reducible rfl))
          try simp only [Act.put, List.setIfInBounds_toArray, List.set_cons_zero, List.set_cons_succ]
          first
            | refine tk0 6 (oi := ⟨_, _, _, _, _, _⟩) rfl ?_
            | refine tk1 6 (oi := ⟨_, _, _, _, _, _⟩) (v := ?_) rfl ?_ ?_; rotate_left; · (intro w5 hSw; (try dsimp only at hSw); go_simp; (try with_reducible rfl))
          try simp only [Act.put, List.setIfInBounds_toArray, List.set_cons_zero, List.set_cons_succ]
          refine wpAnyH_ready (rs := [4]) (by kernel_rfl) (by simp) ?_
          refine AllReadyH.cons (o := ⟨_, _, _, _, _, _⟩) rfl (fun K hK => ?_) AllReadyH.nil
          go_simp
          go_at_call 14
          refine (C1.out _ Hf1.out).mono ?_
          rintro x f2 ⟨rfl, hb9⟩
          have Hf2 := Lib.hid (Hf1.out.below hb9)
          refine hK.out _ _ ?_ (fun hHeld => ?_)
          · exact SS.out _ Hf2.out
          clear hK K
          try simp only [Act.put, List.setIfInBounds_toArray, List.set_cons_zero, List.set_cons_succ]
          clear hb9
          refine wpAnyH_ready (rs := [7]) (by kernel_rfl) (by simp) ?_
          refine AllReadyH.cons (o := ⟨_, _, _, _, _, _⟩) rfl (fun K hK => ?_) AllReadyH.nil
          go_simp
          go_at_call 17
          refine (C2.out _ Hf2.out).mono ?_
          rintro x f3 ⟨rfl, hb9⟩
          have Hf3 := Lib.hid (Hf2.out.below hb9)
          refine hK.out _ _ ?_ (fun hHeld => ?_)
          · exact SS.out _ Hf3.out
          clear hK K
          try simp only [Act.put, List.setIfInBounds_toArray, List.set_cons_zero, List.set_cons_succ]
          clear hb9
          first
            | refine tk0 8 (oi := ⟨_, _, _, _, _, _⟩) rfl ?_
            | refine tk1 8 (oi := ⟨_, _, _, _, _, _⟩) (v := ?_) rfl ?_ ?_; rotate_left; · (intro w5 hSw; (try dsimp only at hSw); go_simp; (try with_reducible rfl))
          try simp only [Act.put, List.setIfInBounds_toArray, List.set_cons_zero, List.set_cons_succ]
          first
            | refine tk0 9 (oi := ⟨_, _, _, _, _, _⟩) rfl ?_
            | refine tk1 9 (oi := ⟨_, _, _, _, _, _⟩) (v := ?_) rfl ?_ ?_; rotate_left; · (intro w5 hSw; (try dsimp only at hSw); go_simp; (try with_reducible rfl))
          try simp only [Act.put, List.setIfInBounds_toArray, List.set_cons_zero, List.set_cons_succ]
          first
            | refine tk0 10 (oi := ⟨_, _, _, _, _, _⟩) rfl ?_
            | refine tk1 10 (oi := ⟨_, _, _, _, _, _⟩) (v := ?_) rfl ?_ ?_; rotate_left; · (intro w5 hSw; (try dsimp only at hSw); go_simp; (try with_reducible rfl))
          try simp only [Act.put, List.setIfInBounds_toArray, List.set_cons_zero, List.set_cons_succ]
          first
            | refine tk0 11 (oi := ⟨_, _, _, _, _, _⟩) rfl ?_
            | refine tk1 11 (oi := ⟨_, _, _, _, _, _⟩) (v := ?_) rfl ?_ ?_; rotate_left; · (intro w5 hSw; (try dsimp only at hSw); go_simp; (try with_reducible rfl))
          try simp only [Act.put, List.setIfInBounds_toArray, List.set_cons_zero, List.set_cons_succ]
          first
            | refine tk0 12 (oi := ⟨_, _, _, _, _, _⟩) rfl ?_
            | refine tk1 12 (oi := ⟨_, _, _, _, _, _⟩) (v := ?_) rfl ?_ ?_; rotate_left; · (intro w5 hSw; (try dsimp only at hSw); go_simp; (try with_reducible rfl))
          try simp only [Act.put, List.setIfInBounds_toArray, List.set_cons_zero, List.set_cons_succ]
          refine wpAnyH_ready (rs := [13]) (by kernel_rfl) (by simp) ?_
          refine AllReadyH.cons (o := ⟨_, _, _, _, _, _⟩) rfl (fun K hK => ?_) AllReadyH.nil
          go_simp
          go_at_call 17
          refine (C3.out _ Hf3.out).mono ?_
          rintro x f4 ⟨rfl, hb9⟩
          have Hf4 := Lib.hid (Hf3.out.below hb9)
          refine hK.out _ _ ?_ (fun hHeld => ?_)
          · exact SS.out _ Hf4.out
          clear hK K
          try simp only [Act.put, List.setIfInBounds_toArray, List.set_cons_zero, List.set_cons_succ]
          clear hb9
          first
            | refine tk0 14 (oi := ⟨_, _, _, _, _, _⟩) rfl ?_
            | refine tk1 14 (oi := ⟨_, _, _, _, _, _⟩) (v := ?_) rfl ?_ ?_; rotate_left; · (intro w5 hSw; (try dsimp only at hSw); go_simp; (try with_reducible rfl))
          try simp only [Act.put, List.setIfInBounds_toArray, List.set_cons_zero, List.set_cons_succ]
          first
            | refine tk0 15 (oi := ⟨_, _, _, _, _, _⟩) rfl ?_
            | refine tk1 15 (oi := ⟨_, _, _, _, _, _⟩) (v := ?_) rfl ?_ ?_; rotate_left; · (intro w5 hSw; (try dsimp only at hSw); go_simp; (try with_reducible rfl))
          try simp only [Act.put, List.setIfInBounds_toArray, List.set_cons_zero, List.set_cons_succ]
          first
            | refine tk0 16 (oi := ⟨_, _, _, _, _, _⟩) rfl ?_
            | refine tk1 16 (oi := ⟨_, _, _, _, _, _⟩) (v := ?_) rfl ?_ ?_; rotate_left; · (intro w5 hSw; (try dsimp only at hSw); go_simp; (try with_reducible rfl))
          try simp only [Act.put, List.setIfInBounds_toArray, List.set_cons_zero, List.set_cons_succ]
          first
            | refine tk0 17 (oi := ⟨_, _, _, _, _, _⟩) rfl ?_
            | refine tk1 17 (oi := ⟨_, _, _, _, _, _⟩) (v := ?_) rfl ?_ ?_; rotate_left; · (intro w5 hSw; (try dsimp only at hSw); go_simp; (try with_reducible rfl))
          try simp only [Act.put, List.setIfInBounds_toArray, List.set_cons_zero, List.set_cons_succ]
          refine wpAnyH_ready (rs := [18]) (by kernel_rfl) (by simp) ?_
          refine AllReadyH.cons (o := ⟨_, _, _, _, _, _⟩) rfl (fun K hK => ?_) AllReadyH.nil
          go_simp
          go_at_call 14
          refine (C4.out _ Hf4.out).mono ?_
          rintro x f5 ⟨rfl, hb9⟩
          have Hf5 := Lib.hid (Hf4.out.below hb9)
          refine hK.out _ _ ?_ (fun hHeld => ?_)
          · exact SS.out _ Hf5.out
          clear hK K
          try simp only [Act.put, List.setIfInBounds_toArray, List.set_cons_zero, List.set_cons_succ]
          clear hb9
          first
            | refine tk0 19 (oi := ⟨_, _, _, _, _, _⟩) rfl ?_
            | refine tk1 19 (oi := ⟨_, _, _, _, _, _⟩) (v := ?_) rfl ?_ ?_; rotate_left; · (intro w5 hSw; (try dsimp only at hSw); go_simp; (try with_reducible rfl))
          try simp only [Act.put, List.setIfInBounds_toArray, List.set_cons_zero, List.set_cons_succ]
          first
            | refine tk0 20 (oi := ⟨_, _, _, _, _, _⟩) rfl ?_
            | refine tk1 20 (oi := ⟨_, _, _, _, _, _⟩) (v := ?_) rfl ?_ ?_; rotate_left; · (intro w5 hSw; (try dsimp only at hSw); go_simp; (try with_reducible rfl))
          try simp only [Act.put, List.setIfInBounds_toArray, List.set_cons_zero, List.set_cons_succ]
          first
            | refine tk0 21 (oi := ⟨_, _, _, _, _, _⟩) rfl ?_
            | refine tk1 21 (oi := ⟨_, _, _, _, _, _⟩) (v := ?_) rfl ?_ ?_; rotate_left; · (intro w5 hSw; (try dsimp only at hSw); go_simp; (try with_reducible rfl))
          try simp only [Act.put, List.setIfInBounds_toArray, List.set_cons_zero, List.set_cons_succ]
          first
            | refine tk0 22 (oi := ⟨_, _, _, _, _, _⟩) rfl ?_
            | refine tk1 22 (oi := ⟨_, _, _, _, _, _⟩) (v := ?_) rfl ?_ ?_; rotate_left; · (intro w5 hSw; (try dsimp only at hSw); go_simp; (try with_reducible rfl))
          try simp only [Act.put, List.setIfInBounds_toArray, List.set_cons_zero, List.set_cons_succ]
          first
            | refine tk0 23 (oi := ⟨_, _, _, _, _, _⟩) rfl ?_
            | refine tk1 23 (oi := ⟨_, _, _, _, _, _⟩) (v := ?_) rfl ?_ ?_; rotate_left; · (intro w5 hSw; (try dsimp only at hSw); go_simp; (try with_reducible rfl))
          try simp only [Act.put, List.setIfInBounds_toArray, List.set_cons_zero, List.set_cons_succ]
          first
            | refine tk0 24 (oi := ⟨_, _, _, _, _, _⟩) rfl ?_
            | refine tk1 24 (oi := ⟨_, _, _, _, _, _⟩) (v := ?_) rfl ?_ ?_; rotate_left; · (intro w5 hSw; (try dsimp only at hSw); go_simp; (try with_reducible rfl))
          try simp only [Act.put, List.setIfInBounds_toArray, List.set_cons_zero, List.set_cons_succ]
          first
            | refine tk0 25 (oi := ⟨_, _, _, _, _, _⟩) rfl ?_
            | refine tk1 25 (oi := ⟨_, _, _, _, _, _⟩) (v := ?_) rfl ?_ ?_; rotate_left; · (intro w5 hSw; (try dsimp only at hSw); go_simp; (try with_reducible rfl))
          try simp only [Act.put, List.setIfInBounds_toArray, List.set_cons_zero, List.set_cons_succ]
          first
            | refine tk0 26 (oi := ⟨_, _, _, _, _, _⟩) rfl ?_
            | refine tk1 26 (oi := ⟨_, _, _, _, _, _⟩) (v := ?_) rfl ?_ ?_; rotate_left; · (intro w5 hSw; (try dsimp only at hSw); go_simp; (try with_reducible rfl))
          try simp only [Act.put, List.setIfInBounds_toArray, List.set_cons_zero, List.set_cons_succ]
          first
            | refine tk0 27 (oi := ⟨_, _, _, _, _, _⟩) rfl ?_
            | refine tk1 27 (oi := ⟨_, _, _, _, _, _⟩) (v := ?_) rfl ?_ ?_; rotate_left; · (intro w5 hSw; (try dsimp only at hSw); go_simp; (try with_reducible rfl))
          try simp only [Act.put, List.setIfInBounds_toArray, List.set_cons_zero, List.set_cons_succ]
          refine wpAnyH_ready (rs := [28]) (by kernel_rfl) (by simp) ?_
          refine AllReadyH.cons (o := ⟨_, _, _, _, _, _⟩) rfl (fun K hK => ?_) AllReadyH.nil
          go_simp
          go_at_call 14
          refine (C5'.out _ Hf5.out).mono ?_
          rintro x f6 ⟨rfl, hb9⟩
          have Hf6 := Lib.hid (Hf5.out.below hb9)
          refine hK.out _ _ ?_ (fun hHeld => ?_)
          · exact SS.out _ Hf6.out
          clear hK K
          try simp only [Act.put, List.setIfInBounds_toArray, List.set_cons_zero, List.set_cons_succ]
          clear hb9
          first
            | refine tk0 29 (oi := ⟨_, _, _, _, _, _⟩) rfl ?_
            | refine tk1 29 (oi := ⟨_, _, _, _, _, _⟩) (v := ?_) rfl ?_ ?_; rotate_left; · (intro w5 hSw; (try dsimp only at hSw); go_simp; (try with_reducible rfl))
          try simp only [Act.put, List.setIfInBounds_toArray, List.set_cons_zero, List.set_cons_succ]
          first
            | refine tk0 30 (oi := ⟨_, _, _, _, _, _⟩) rfl ?_
            | refine tk1 30 (oi := ⟨_, _, _, _, _, _⟩) (v := ?_) rfl ?_ ?_; rotate_left; · (intro w5 hSw; (try dsimp only at hSw); go_simp; (try with_reducible rfl))
          try simp only [Act.put, List.setIfInBounds_toArray, List.set_cons_zero, List.set_cons_succ]
          first
            | refine tk0 31 (oi := ⟨_, _, _, _, _, _⟩) rfl ?_
            | refine tk1 31 (oi := ⟨_, _, _, _, _, _⟩) (v := ?_) rfl ?_ ?_; rotate_left; · (intro w5 hSw; (try dsimp only at hSw); go_simp; (try with_reducible rfl))
          try simp only [Act.put, List.setIfInBounds_toArray, List.set_cons_zero, List.set_cons_succ]
          first
            | refine tk0 32 (oi := ⟨_, _, _, _, _, _⟩) rfl ?_
            | refine tk1 32 (oi := ⟨_, _, _, _, _, _⟩) (v := ?_) rfl ?_ ?_; rotate_left; · (intro w5 hSw; (try dsimp only at hSw); go_simp; (try with_reducible rfl))
          try simp only [Act.put, List.setIfInBounds_toArray, List.set_cons_zero, List.set_cons_succ]
          refine wpAnyH_done (by kernel_rfl) ?_ _
          clear hHeld
          go_wp2_with fail
          go_ret
          exact ⟨rfl, Hf6.out.low⟩

end Go.Proofs.Ytplhkplfbcmbdaa
