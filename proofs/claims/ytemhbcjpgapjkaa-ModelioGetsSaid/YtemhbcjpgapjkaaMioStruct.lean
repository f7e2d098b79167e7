/- The contracts of the functions that read an instruction, an event, a process, a model. -/
import Derived.Test.YtemhbcjpgapjkaaMioList
namespace Go.Proofs.Ytemhbcjpgapjkaa
open Go.RowKit
set_option linter.unusedVariables false
set_option maxRecDepth 100000

theorem put_low {base B : Nat} (hB : base ≤ B) : ∀ (l : List Value) (o : Nat) (W : World), Below base W (W.setCells B o l)
  | [], _, W => Below.refl _ _
  | v :: l, o, W => ((Below.refl base W).setCell (p := ⟨B, o, none⟩) hB v).trans (put_low hB l (o + 1) _)
theorem put_other {B k : Nat} (hk : k ≠ B) : ∀ (l : List Value) (o : Nat) (W : World), (W.setCells B o l).heap[k]? = W.heap[k]?
  | [], _, W => rfl
  | v :: l, o, W => (put_other hk l (o + 1) _).trans (Below.heap_setCell W ⟨B, o, none⟩ v k hk)
/-- a store into a block of type E turns no block of another type -/
theorem put_types {tb B o : Nat} {l : List Value} {W : World} {cs : Array Value} {E : TypeId} {fr : Nat × Nat} (hB : W.heap[B]? = some (.cells cs E fr)) :
    ∀ (k : Nat) (c : Array Value) (t : TypeId) (f : Nat × Nat), t ≠ E → (Hd tb W).heap[k]? = some (Obj.cells c t f) → (Hd tb (W.setCells B o l)).heap[k]? = some (Obj.cells c t f) := by
  intro k c t f hne hc
  obtain ⟨e1, e2⟩ := Hd.cells hc
  rw [Hd.other _ e1, put_other ?_ l o W]
  · exact e2
  · rintro rfl
    rw [e2] at hB
    simp only [Option.some.injEq, Obj.cells.injEq] at hB
    exact hne hB.2.1
/-- a model that was read -/
def RMd (s : ByteArray) (st : St) (r : Value) (u : World) : Prop :=
  ∃ vd vp vl vi, r = .agg #[.int .i64 (stI s st), .float .f64 (stF s (stN s st)), vd, vp, vl, vi]
    ∧ Lst 1 22 cl1 s (stN s) (RF s) (stN s (stN s st)) vd u
    ∧ Lst 1 40 cl1 s (prN s) (RPr s) (lsE s (stN s) (stN s (stN s st))) vp u
    ∧ Lst 2 43 clA s (lpN s) (RLp s) (lsE s (prN s) (lsE s (stN s) (stN s (stN s st)))) vl u
    ∧ Lst 3 55 clA s (evN s) (REv s) (lsE s (lpN s) (lsE s (prN s) (lsE s (stN s) (stN s (stN s st))))) vi u
def mdN (s : ByteArray) (st : St) : St := lsE s (evN s) (lsE s (lpN s) (lsE s (prN s) (lsE s (stN s) (stN s (stN s st)))))

set_option maxHeartbeats 1600000 in
theorem insOf_reads (tb : Nat) (s : ByteArray) (q1 : Nat) (c1 : Value) (u : World) (h1 : Bx q1 c1 u) (r1 : Reads tb s (stN s) (RI s) c1 u) :
    Reads tb s (insN s) (RIns s) (.func (.func 90) #[] #[.pointer (some ⟨q1, 0, none⟩)]) u := by
  refine ⟨_, _, rfl, fun w => callFunc_go Try.func90 (by kernel_rfl) (by kernel_rfl) _ w, fun w st k ht => ?_⟩
  obtain ⟨N1, caps1, rfl, go1⟩ := r1.form
  have B1 := Lib.hid (h1.below k)
  have D1 := Lib.hid (r1.below k)
  have HLT := Lib.hid ht.lt
  have HH : Hid ((w.alloc (.cells #[.int .i64 0, .int .i64 0, .int .i64 0, .int .i64 0] 45)).heap[w.heap.size]? = some (.cells #[.int .i64 0, .int .i64 0, .int .i64 0, .int .i64 0] 45 (0, 0))) := heap_alloc_new w _
  have HA := Lib.hid (Kp.of (tb := tb) (balloc w (.cells #[.int .i64 0, .int .i64 0, .int .i64 0, .int .i64 0] 45)))
  have HTA := Lib.hid ((ht.below (balloc w (.cells #[.int .i64 0, .int .i64 0, .int .i64 0, .int .i64 0] 45))).below (bdrew _))
  clear k ht h1 r1
  go_enter Try.func90, Try.ntmps90
  go_wp2_with fail
  generalize w.alloc (.cells #[.int .i64 0, .int .i64 0, .int .i64 0, .int .i64 0] 45) = w0 at *
  have K0 := Lib.hid (HA.out.trans (Kp.drew tb w0))
  have HH0 : Hid (w0.drew.heap[w.heap.size]? = some (.cells #[.int .i64 0, .int .i64 0, .int .i64 0, .int .i64 0] 45 (0, 0)) ∧ w.heap.size < w0.drew.heap.size) := ⟨HH.out, lt_of_block HH.out⟩
  have KD := Lib.hid (Kp.refl tb w0.drew)
  refine wp_region_held_drew (S := fun w' => w'.cell? ⟨q1, 0, none⟩ = some (.func (.func N1) #[] caps1)) (by kernel_rfl) ?_ (fun hHeld => ?_)
  · exact (B1.out.kp K0.out).now
  generalize w0.drew = v0 at *
  first
    | (refine wpAnyH_take (i := 0) (oi := ⟨_, _, _, _, _, _⟩) (v := undef) rfl (by kernel_rfl) (by kernel_rfl) (by kernel_rfl) (fun _ _ _ h => h) (Or.inr ⟨by rfl, rfl⟩) (by assumption) ?_
       try simp only [Act.put, List.setIfInBounds_toArray, List.set_cons_zero, List.set_cons_succ])
    | (refine wpAnyH_take (i := 0) (oi := ⟨_, _, _, _, _, _⟩) (v := ?_) rfl (by kernel_rfl) (by kernel_rfl) (by kernel_rfl) (fun _ _ _ h => h) (Or.inl ⟨by rfl, ?_⟩) (by assumption) ?_
       rotate_left
       · intro w5 hSw
         try dsimp only at hSw
         go_simp
         try with_reducible rfl
       try simp only [Act.put, List.setIfInBounds_toArray, List.set_cons_zero, List.set_cons_succ])
  first
    | (refine wpAnyH_take (i := 2) (oi := ⟨_, _, _, _, _, _⟩) (v := undef) rfl (by kernel_rfl) (by kernel_rfl) (by kernel_rfl) (fun _ _ _ h => h) (Or.inr ⟨by rfl, rfl⟩) (by assumption) ?_
       try simp only [Act.put, List.setIfInBounds_toArray, List.set_cons_zero, List.set_cons_succ])
    | (refine wpAnyH_take (i := 2) (oi := ⟨_, _, _, _, _, _⟩) (v := ?_) rfl (by kernel_rfl) (by kernel_rfl) (by kernel_rfl) (fun _ _ _ h => h) (Or.inl ⟨by rfl, ?_⟩) (by assumption) ?_
       rotate_left
       · intro w5 hSw
         try dsimp only at hSw
         go_simp
         try with_reducible rfl
       try simp only [Act.put, List.setIfInBounds_toArray, List.set_cons_zero, List.set_cons_succ])
  first
    | (refine wpAnyH_take (i := 4) (oi := ⟨_, _, _, _, _, _⟩) (v := undef) rfl (by kernel_rfl) (by kernel_rfl) (by kernel_rfl) (fun _ _ _ h => h) (Or.inr ⟨by rfl, rfl⟩) (by assumption) ?_
       try simp only [Act.put, List.setIfInBounds_toArray, List.set_cons_zero, List.set_cons_succ])
    | (refine wpAnyH_take (i := 4) (oi := ⟨_, _, _, _, _, _⟩) (v := ?_) rfl (by kernel_rfl) (by kernel_rfl) (by kernel_rfl) (fun _ _ _ h => h) (Or.inl ⟨by rfl, ?_⟩) (by assumption) ?_
       rotate_left
       · intro w5 hSw
         try dsimp only at hSw
         go_simp
         try with_reducible rfl
       try simp only [Act.put, List.setIfInBounds_toArray, List.set_cons_zero, List.set_cons_succ])
  first
    | (refine wpAnyH_take (i := 6) (oi := ⟨_, _, _, _, _, _⟩) (v := undef) rfl (by kernel_rfl) (by kernel_rfl) (by kernel_rfl) (fun _ _ _ h => h) (Or.inr ⟨by rfl, rfl⟩) (by assumption) ?_
       try simp only [Act.put, List.setIfInBounds_toArray, List.set_cons_zero, List.set_cons_succ])
    | (refine wpAnyH_take (i := 6) (oi := ⟨_, _, _, _, _, _⟩) (v := ?_) rfl (by kernel_rfl) (by kernel_rfl) (by kernel_rfl) (fun _ _ _ h => h) (Or.inl ⟨by rfl, ?_⟩) (by assumption) ?_
       rotate_left
       · intro w5 hSw
         try dsimp only at hSw
         go_simp
         try with_reducible rfl
       try simp only [Act.put, List.setIfInBounds_toArray, List.set_cons_zero, List.set_cons_succ])
  refine wpAnyH_ready (rs := [1]) (by kernel_rfl) (by simp) ?_
  refine AllReadyH.cons (o := ⟨_, _, _, _, _, _⟩) rfl (fun K hK => ?_) AllReadyH.nil
  go_simp
  refine (Reads.call D1.out K0.out HTA.out).mono ?_
  rintro e v1 ⟨x1, rfl, hx1, ht1, hk1⟩
  have HX1 := Lib.hid hx1
  obtain rfl : x1 = .int .i64 (stI s st) := hx1
  have HT1 := Lib.hid ht1
  have L1 := Lib.hid hk1
  have K1 := Lib.hid (K0.out.trans hk1)
  have KD1 := Lib.hid (KD.out.trans hk1)
  clear ht1 hk1
  refine hK.out _ _ ?_ (fun hHeld => ?_)
  · exact (B1.out.kp K1.out).now
  clear hK K
  try simp only [Act.put, List.setIfInBounds_toArray, List.set_cons_zero, List.set_cons_succ]
  refine wpAnyH_ready (rs := [3]) (by kernel_rfl) (by simp) ?_
  refine AllReadyH.cons (o := ⟨_, _, _, _, _, _⟩) rfl (fun K hK => ?_) AllReadyH.nil
  go_simp
  refine (Reads.call D1.out K1.out HT1.out).mono ?_
  rintro e v2 ⟨x2, rfl, hx2, ht2, hk2⟩
  have HX2 := Lib.hid hx2
  obtain rfl : x2 = .int .i64 (stI s (stN s st)) := hx2
  have HT2 := Lib.hid ht2
  have L2 := Lib.hid hk2
  have K2 := Lib.hid (K1.out.trans hk2)
  have KD2 := Lib.hid (KD1.out.trans hk2)
  clear ht2 hk2
  refine hK.out _ _ ?_ (fun hHeld => ?_)
  · exact (B1.out.kp K2.out).now
  clear hK K
  try simp only [Act.put, List.setIfInBounds_toArray, List.set_cons_zero, List.set_cons_succ]
  refine wpAnyH_ready (rs := [5]) (by kernel_rfl) (by simp) ?_
  refine AllReadyH.cons (o := ⟨_, _, _, _, _, _⟩) rfl (fun K hK => ?_) AllReadyH.nil
  go_simp
  refine (Reads.call D1.out K2.out HT2.out).mono ?_
  rintro e v3 ⟨x3, rfl, hx3, ht3, hk3⟩
  have HX3 := Lib.hid hx3
  obtain rfl : x3 = .int .i64 (stI s (stN s (stN s st))) := hx3
  have HT3 := Lib.hid ht3
  have L3 := Lib.hid hk3
  have K3 := Lib.hid (K2.out.trans hk3)
  have KD3 := Lib.hid (KD2.out.trans hk3)
  clear ht3 hk3
  refine hK.out _ _ ?_ (fun hHeld => ?_)
  · exact (B1.out.kp K3.out).now
  clear hK K
  try simp only [Act.put, List.setIfInBounds_toArray, List.set_cons_zero, List.set_cons_succ]
  refine wpAnyH_ready (rs := [7]) (by kernel_rfl) (by simp) ?_
  refine AllReadyH.cons (o := ⟨_, _, _, _, _, _⟩) rfl (fun K hK => ?_) AllReadyH.nil
  go_simp
  refine (Reads.call D1.out K3.out HT3.out).mono ?_
  rintro e v4 ⟨x4, rfl, hx4, ht4, hk4⟩
  have HX4 := Lib.hid hx4
  obtain rfl : x4 = .int .i64 (stI s (stN s (stN s (stN s st)))) := hx4
  have HT4 := Lib.hid ht4
  have L4 := Lib.hid hk4
  have K4 := Lib.hid (K3.out.trans hk4)
  have KD4 := Lib.hid (KD3.out.trans hk4)
  clear ht4 hk4
  refine hK.out _ _ ?_ (fun hHeld => ?_)
  · exact (B1.out.kp K4.out).now
  clear hK K
  try simp only [Act.put, List.setIfInBounds_toArray, List.set_cons_zero, List.set_cons_succ]
  first
    | (refine wpAnyH_take (i := 8) (oi := ⟨_, _, _, _, _, _⟩) (v := undef) rfl (by kernel_rfl) (by kernel_rfl) (by kernel_rfl) (fun _ _ _ h => h) (Or.inr ⟨by rfl, rfl⟩) (by assumption) ?_
       try simp only [Act.put, List.setIfInBounds_toArray, List.set_cons_zero, List.set_cons_succ])
    | (refine wpAnyH_take (i := 8) (oi := ⟨_, _, _, _, _, _⟩) (v := ?_) rfl (by kernel_rfl) (by kernel_rfl) (by kernel_rfl) (fun _ _ _ h => h) (Or.inl ⟨by rfl, ?_⟩) (by assumption) ?_
       rotate_left
       · intro w5 hSw
         try dsimp only at hSw
         go_simp
         try with_reducible rfl
       try simp only [Act.put, List.setIfInBounds_toArray, List.set_cons_zero, List.set_cons_succ])
  have h4 : v4.heap[w.heap.size]? = some (.cells #[.int .i64 0, .int .i64 0, .int .i64 0, .int .i64 0] 45 (0, 0)) := by rw [KD4.out.blk HH0.out.2 (by have := HLT.out; omega)]; exact HH0.out.1
  have H4 := Lib.hid h4
  have y0 : v4.cell? ⟨w.heap.size, 0, none⟩ = some (.int .i64 0) := by rw [Lib.cell_of_heap h4]; rfl
  have y1 : v4.cell? ⟨w.heap.size, 1, none⟩ = some (.int .i64 0) := by rw [Lib.cell_of_heap h4]; rfl
  have y2 : v4.cell? ⟨w.heap.size, 2, none⟩ = some (.int .i64 0) := by rw [Lib.cell_of_heap h4]; rfl
  have y3 : v4.cell? ⟨w.heap.size, 3, none⟩ = some (.int .i64 0) := by rw [Lib.cell_of_heap h4]; rfl
  have fz : ∀ q, v4.frozen? ⟨w.heap.size, q, none⟩ = false := fun q => Lib.frozen_of_heap h4 q
  have hsf := store_float
  clear h4
  refine wpAnyH_ready (rs := [9]) (by kernel_rfl) (by simp) ?_
  refine AllReadyH.cons (o := ⟨_, _, _, _, _, _⟩) rfl (fun K hK => ?_) AllReadyH.nil
  go_simp
  have KE := Lib.hid (K4.out.low (put_low (Nat.le_refl w.heap.size) [.int .i64 (stI s st), .int .i64 (stI s (stN s st)), .int .i64 (stI s (stN s (stN s st))), .int .i64 (stI s (stN s (stN s (stN s st))))] 0 v4))
  change K _ (v4.setCells w.heap.size 0 [.int .i64 (stI s st), .int .i64 (stI s (stN s st)), .int .i64 (stI s (stN s (stN s st))), .int .i64 (stI s (stN s (stN s (stN s st))))])
  refine hK.out _ _ ?_ (fun hHeld => ?_)
  · exact (B1.out.kp KE.out).now
  clear hK K
  try simp only [Act.put, List.setIfInBounds_toArray, List.set_cons_zero, List.set_cons_succ]
  refine wpAnyH_done (by kernel_rfl) ?_ _
  have h5 : (v4.setCells w.heap.size 0 [.int .i64 (stI s st), .int .i64 (stI s (stN s st)), .int .i64 (stI s (stN s (stN s st))), .int .i64 (stI s (stN s (stN s (stN s st))))]).heap[w.heap.size]? = some (.cells #[.int .i64 (stI s st), .int .i64 (stI s (stN s st)), .int .i64 (stI s (stN s (stN s st))), .int .i64 (stI s (stN s (stN s (stN s st))))] 45 (0, 0)) := Joins.block_setCell (Joins.block_setCell (Joins.block_setCell (Joins.block_setCell H4.out (.int .i64 (stI s st))) (.int .i64 (stI s (stN s st)))) (.int .i64 (stI s (stN s (stN s st))))) (.int .i64 (stI s (stN s (stN s (stN s st)))))
  have z0 := Lib.cell_of_heap h5 0
  have z1 := Lib.cell_of_heap h5 1
  have z2 := Lib.cell_of_heap h5 2
  have z3 := Lib.cell_of_heap h5 3
  simp only [List.getElem?_toArray, List.getElem?_cons_zero, List.getElem?_cons_succ] at z0 z1 z2 z3
  have HTE := Lib.hid (HT4.out.low (put_low (Nat.le_refl w.heap.size) [.int .i64 (stI s st), .int .i64 (stI s (stN s st)), .int .i64 (stI s (stN s (stN s st))), .int .i64 (stI s (stN s (stN s (stN s st))))] 0 v4) HLT.out)
  have HPT := Lib.hid (put_types (tb := tb) (o := 0) (l := [.int .i64 (stI s st), .int .i64 (stI s (stN s st)), .int .i64 (stI s (stN s (stN s st))), .int .i64 (stI s (stN s (stN s (stN s st))))]) H4.out)
  generalize v4.setCells w.heap.size 0 [.int .i64 (stI s st), .int .i64 (stI s (stN s st)), .int .i64 (stI s (stN s (stN s st))), .int .i64 (stI s (stN s (stN s (stN s st))))] = v9 at *
  clear hHeld h5 fz y0 y1 y2 y3
  go_wp2_with fail
  exact bodyPost_ret (v := .agg #[.int .i64 (stI s st), .int .i64 (stI s (stN s st)), .int .i64 (stI s (stN s (stN s st))), .int .i64 (stI s (stN s (stN s (stN s st))))]) (by simp [results, Try.results90, go_sem, z0, z1, z2, z3]) rfl ⟨_, rfl, rfl, HTE.out, KE.out⟩

set_option maxHeartbeats 1600000 in
theorem eventOf_reads (tb : Nat) (s : ByteArray) (q1 q2 : Nat) (c1 c2 : Value) (u : World) (h1 : Bx q1 c1 u) (r1 : Reads tb s (stN s) (RF s) c1 u) (h2 : Bx q2 c2 u) (r2 : Reads tb s (stN s) (RI s) c2 u) :
    Reads tb s (evN s) (REv s) (.func (.func 95) #[] #[.pointer (some ⟨q1, 0, none⟩), .pointer (some ⟨q2, 0, none⟩)]) u := by
  refine ⟨_, _, rfl, fun w => callFunc_go Try.func95 (by kernel_rfl) (by kernel_rfl) _ w, fun w st k ht => ?_⟩
  obtain ⟨N1, caps1, rfl, go1⟩ := r1.form
  have B1 := Lib.hid (h1.below k)
  have D1 := Lib.hid (r1.below k)
  obtain ⟨N2, caps2, rfl, go2⟩ := r2.form
  have B2 := Lib.hid (h2.below k)
  have D2 := Lib.hid (r2.below k)
  have HLT := Lib.hid ht.lt
  have HH : Hid ((w.alloc (.cells #[.float .f64 0, .int .i64 0, .int .i64 0] 55)).heap[w.heap.size]? = some (.cells #[.float .f64 0, .int .i64 0, .int .i64 0] 55 (0, 0))) := heap_alloc_new w _
  have HA := Lib.hid (Kp.of (tb := tb) (balloc w (.cells #[.float .f64 0, .int .i64 0, .int .i64 0] 55)))
  have HTA := Lib.hid ((ht.below (balloc w (.cells #[.float .f64 0, .int .i64 0, .int .i64 0] 55))).below (bdrew _))
  clear k ht h1 r1 h2 r2
  go_enter Try.func95, Try.ntmps95
  go_wp2_with fail
  generalize w.alloc (.cells #[.float .f64 0, .int .i64 0, .int .i64 0] 55) = w0 at *
  have K0 := Lib.hid (HA.out.trans (Kp.drew tb w0))
  have HH0 : Hid (w0.drew.heap[w.heap.size]? = some (.cells #[.float .f64 0, .int .i64 0, .int .i64 0] 55 (0, 0)) ∧ w.heap.size < w0.drew.heap.size) := ⟨HH.out, lt_of_block HH.out⟩
  have KD := Lib.hid (Kp.refl tb w0.drew)
  refine wp_region_held_drew (S := fun w' => w'.cell? ⟨q1, 0, none⟩ = some (.func (.func N1) #[] caps1) ∧ w'.cell? ⟨q2, 0, none⟩ = some (.func (.func N2) #[] caps2)) (by kernel_rfl) ?_ (fun hHeld => ?_)
  · exact ⟨(B1.out.kp K0.out).now, (B2.out.kp K0.out).now⟩
  generalize w0.drew = v0 at *
  first
    | (refine wpAnyH_take (i := 0) (oi := ⟨_, _, _, _, _, _⟩) (v := undef) rfl (by kernel_rfl) (by kernel_rfl) (by kernel_rfl) (fun _ _ _ h => h) (Or.inr ⟨by rfl, rfl⟩) (by assumption) ?_
       try simp only [Act.put, List.setIfInBounds_toArray, List.set_cons_zero, List.set_cons_succ])
    | (refine wpAnyH_take (i := 0) (oi := ⟨_, _, _, _, _, _⟩) (v := ?_) rfl (by kernel_rfl) (by kernel_rfl) (by kernel_rfl) (fun _ _ _ h => h) (Or.inl ⟨by rfl, ?_⟩) (by assumption) ?_
       rotate_left
       · intro w5 hSw
         try dsimp only at hSw
         go_simp
         try with_reducible rfl
       try simp only [Act.put, List.setIfInBounds_toArray, List.set_cons_zero, List.set_cons_succ])
  first
    | (refine wpAnyH_take (i := 2) (oi := ⟨_, _, _, _, _, _⟩) (v := undef) rfl (by kernel_rfl) (by kernel_rfl) (by kernel_rfl) (fun _ _ _ h => h) (Or.inr ⟨by rfl, rfl⟩) (by assumption) ?_
       try simp only [Act.put, List.setIfInBounds_toArray, List.set_cons_zero, List.set_cons_succ])
    | (refine wpAnyH_take (i := 2) (oi := ⟨_, _, _, _, _, _⟩) (v := ?_) rfl (by kernel_rfl) (by kernel_rfl) (by kernel_rfl) (fun _ _ _ h => h) (Or.inl ⟨by rfl, ?_⟩) (by assumption) ?_
       rotate_left
       · intro w5 hSw
         try dsimp only at hSw
         go_simp
         try with_reducible rfl
       try simp only [Act.put, List.setIfInBounds_toArray, List.set_cons_zero, List.set_cons_succ])
  first
    | (refine wpAnyH_take (i := 4) (oi := ⟨_, _, _, _, _, _⟩) (v := undef) rfl (by kernel_rfl) (by kernel_rfl) (by kernel_rfl) (fun _ _ _ h => h) (Or.inr ⟨by rfl, rfl⟩) (by assumption) ?_
       try simp only [Act.put, List.setIfInBounds_toArray, List.set_cons_zero, List.set_cons_succ])
    | (refine wpAnyH_take (i := 4) (oi := ⟨_, _, _, _, _, _⟩) (v := ?_) rfl (by kernel_rfl) (by kernel_rfl) (by kernel_rfl) (fun _ _ _ h => h) (Or.inl ⟨by rfl, ?_⟩) (by assumption) ?_
       rotate_left
       · intro w5 hSw
         try dsimp only at hSw
         go_simp
         try with_reducible rfl
       try simp only [Act.put, List.setIfInBounds_toArray, List.set_cons_zero, List.set_cons_succ])
  refine wpAnyH_ready (rs := [1]) (by kernel_rfl) (by simp) ?_
  refine AllReadyH.cons (o := ⟨_, _, _, _, _, _⟩) rfl (fun K hK => ?_) AllReadyH.nil
  go_simp
  refine (Reads.call D1.out K0.out HTA.out).mono ?_
  rintro e v1 ⟨x1, rfl, hx1, ht1, hk1⟩
  have HX1 := Lib.hid hx1
  obtain rfl : x1 = .float .f64 (stF s st) := hx1
  have HT1 := Lib.hid ht1
  have L1 := Lib.hid hk1
  have K1 := Lib.hid (K0.out.trans hk1)
  have KD1 := Lib.hid (KD.out.trans hk1)
  clear ht1 hk1
  refine hK.out _ _ ?_ (fun hHeld => ?_)
  · exact ⟨(B1.out.kp K1.out).now, (B2.out.kp K1.out).now⟩
  clear hK K
  try simp only [Act.put, List.setIfInBounds_toArray, List.set_cons_zero, List.set_cons_succ]
  refine wpAnyH_ready (rs := [3]) (by kernel_rfl) (by simp) ?_
  refine AllReadyH.cons (o := ⟨_, _, _, _, _, _⟩) rfl (fun K hK => ?_) AllReadyH.nil
  go_simp
  refine (Reads.call D2.out K1.out HT1.out).mono ?_
  rintro e v2 ⟨x2, rfl, hx2, ht2, hk2⟩
  have HX2 := Lib.hid hx2
  obtain rfl : x2 = .int .i64 (stI s (stN s st)) := hx2
  have HT2 := Lib.hid ht2
  have L2 := Lib.hid hk2
  have K2 := Lib.hid (K1.out.trans hk2)
  have KD2 := Lib.hid (KD1.out.trans hk2)
  clear ht2 hk2
  refine hK.out _ _ ?_ (fun hHeld => ?_)
  · exact ⟨(B1.out.kp K2.out).now, (B2.out.kp K2.out).now⟩
  clear hK K
  try simp only [Act.put, List.setIfInBounds_toArray, List.set_cons_zero, List.set_cons_succ]
  refine wpAnyH_ready (rs := [5]) (by kernel_rfl) (by simp) ?_
  refine AllReadyH.cons (o := ⟨_, _, _, _, _, _⟩) rfl (fun K hK => ?_) AllReadyH.nil
  go_simp
  refine (Reads.call D2.out K2.out HT2.out).mono ?_
  rintro e v3 ⟨x3, rfl, hx3, ht3, hk3⟩
  have HX3 := Lib.hid hx3
  obtain rfl : x3 = .int .i64 (stI s (stN s (stN s st))) := hx3
  have HT3 := Lib.hid ht3
  have L3 := Lib.hid hk3
  have K3 := Lib.hid (K2.out.trans hk3)
  have KD3 := Lib.hid (KD2.out.trans hk3)
  clear ht3 hk3
  refine hK.out _ _ ?_ (fun hHeld => ?_)
  · exact ⟨(B1.out.kp K3.out).now, (B2.out.kp K3.out).now⟩
  clear hK K
  try simp only [Act.put, List.setIfInBounds_toArray, List.set_cons_zero, List.set_cons_succ]
  first
    | (refine wpAnyH_take (i := 6) (oi := ⟨_, _, _, _, _, _⟩) (v := undef) rfl (by kernel_rfl) (by kernel_rfl) (by kernel_rfl) (fun _ _ _ h => h) (Or.inr ⟨by rfl, rfl⟩) (by assumption) ?_
       try simp only [Act.put, List.setIfInBounds_toArray, List.set_cons_zero, List.set_cons_succ])
    | (refine wpAnyH_take (i := 6) (oi := ⟨_, _, _, _, _, _⟩) (v := ?_) rfl (by kernel_rfl) (by kernel_rfl) (by kernel_rfl) (fun _ _ _ h => h) (Or.inl ⟨by rfl, ?_⟩) (by assumption) ?_
       rotate_left
       · intro w5 hSw
         try dsimp only at hSw
         go_simp
         try with_reducible rfl
       try simp only [Act.put, List.setIfInBounds_toArray, List.set_cons_zero, List.set_cons_succ])
  have h4 : v3.heap[w.heap.size]? = some (.cells #[.float .f64 0, .int .i64 0, .int .i64 0] 55 (0, 0)) := by rw [KD3.out.blk HH0.out.2 (by have := HLT.out; omega)]; exact HH0.out.1
  have H4 := Lib.hid h4
  have y0 : v3.cell? ⟨w.heap.size, 0, none⟩ = some (.float .f64 0) := by rw [Lib.cell_of_heap h4]; rfl
  have y1 : v3.cell? ⟨w.heap.size, 1, none⟩ = some (.int .i64 0) := by rw [Lib.cell_of_heap h4]; rfl
  have y2 : v3.cell? ⟨w.heap.size, 2, none⟩ = some (.int .i64 0) := by rw [Lib.cell_of_heap h4]; rfl
  have fz : ∀ q, v3.frozen? ⟨w.heap.size, q, none⟩ = false := fun q => Lib.frozen_of_heap h4 q
  have hsf := store_float
  clear h4
  refine wpAnyH_ready (rs := [7]) (by kernel_rfl) (by simp) ?_
  refine AllReadyH.cons (o := ⟨_, _, _, _, _, _⟩) rfl (fun K hK => ?_) AllReadyH.nil
  go_simp
  have KE := Lib.hid (K3.out.low (put_low (Nat.le_refl w.heap.size) [.float .f64 (stF s st), .int .i64 (stI s (stN s st)), .int .i64 (stI s (stN s (stN s st)))] 0 v3))
  change K _ (v3.setCells w.heap.size 0 [.float .f64 (stF s st), .int .i64 (stI s (stN s st)), .int .i64 (stI s (stN s (stN s st)))])
  refine hK.out _ _ ?_ (fun hHeld => ?_)
  · exact ⟨(B1.out.kp KE.out).now, (B2.out.kp KE.out).now⟩
  clear hK K
  try simp only [Act.put, List.setIfInBounds_toArray, List.set_cons_zero, List.set_cons_succ]
  refine wpAnyH_done (by kernel_rfl) ?_ _
  have h5 : (v3.setCells w.heap.size 0 [.float .f64 (stF s st), .int .i64 (stI s (stN s st)), .int .i64 (stI s (stN s (stN s st)))]).heap[w.heap.size]? = some (.cells #[.float .f64 (stF s st), .int .i64 (stI s (stN s st)), .int .i64 (stI s (stN s (stN s st)))] 55 (0, 0)) := Joins.block_setCell (Joins.block_setCell (Joins.block_setCell H4.out (.float .f64 (stF s st))) (.int .i64 (stI s (stN s st)))) (.int .i64 (stI s (stN s (stN s st))))
  have z0 := Lib.cell_of_heap h5 0
  have z1 := Lib.cell_of_heap h5 1
  have z2 := Lib.cell_of_heap h5 2
  simp only [List.getElem?_toArray, List.getElem?_cons_zero, List.getElem?_cons_succ] at z0 z1 z2
  have HTE := Lib.hid (HT3.out.low (put_low (Nat.le_refl w.heap.size) [.float .f64 (stF s st), .int .i64 (stI s (stN s st)), .int .i64 (stI s (stN s (stN s st)))] 0 v3) HLT.out)
  have HPT := Lib.hid (put_types (tb := tb) (o := 0) (l := [.float .f64 (stF s st), .int .i64 (stI s (stN s st)), .int .i64 (stI s (stN s (stN s st)))]) H4.out)
  generalize v3.setCells w.heap.size 0 [.float .f64 (stF s st), .int .i64 (stI s (stN s st)), .int .i64 (stI s (stN s (stN s st)))] = v9 at *
  clear hHeld h5 fz y0 y1 y2
  go_wp2_with fail
  exact bodyPost_ret (v := .agg #[.float .f64 (stF s st), .int .i64 (stI s (stN s st)), .int .i64 (stI s (stN s (stN s st)))]) (by simp [results, Try.results95, go_sem, z0, z1, z2]) rfl ⟨_, rfl, rfl, HTE.out, KE.out⟩

set_option maxHeartbeats 1600000 in
theorem processOf_reads (tb : Nat) (s : ByteArray) (q1 q2 : Nat) (c1 c2 : Value) (u : World) (h1 : Bx q1 c1 u) (r1 : Reads tb s (stN s) (RI s) c1 u) (h2 : Bx q2 c2 u) (r2 : Reads tb s (lsE s (stN s)) (RWd s) c2 u) :
    Reads tb s (lpN s) (RLp s) (.func (.func 93) #[] #[.pointer (some ⟨q1, 0, none⟩), .pointer (some ⟨q2, 0, none⟩)]) u := by
  refine ⟨_, _, rfl, fun w => callFunc_go Try.func93 (by kernel_rfl) (by kernel_rfl) _ w, fun w st k ht => ?_⟩
  obtain ⟨N1, caps1, rfl, go1⟩ := r1.form
  have B1 := Lib.hid (h1.below k)
  have D1 := Lib.hid (r1.below k)
  obtain ⟨N2, caps2, rfl, go2⟩ := r2.form
  have B2 := Lib.hid (h2.below k)
  have D2 := Lib.hid (r2.below k)
  have HLT := Lib.hid ht.lt
  have HH : Hid ((w.alloc (.cells #[.int .i64 0, .slice none 0 0] 43)).heap[w.heap.size]? = some (.cells #[.int .i64 0, .slice none 0 0] 43 (0, 0))) := heap_alloc_new w _
  have HA := Lib.hid (Kp.of (tb := tb) (balloc w (.cells #[.int .i64 0, .slice none 0 0] 43)))
  have HTA := Lib.hid ((ht.below (balloc w (.cells #[.int .i64 0, .slice none 0 0] 43))).below (bdrew _))
  clear k ht h1 r1 h2 r2
  go_enter Try.func93, Try.ntmps93
  go_wp2_with fail
  generalize w.alloc (.cells #[.int .i64 0, .slice none 0 0] 43) = w0 at *
  have K0 := Lib.hid (HA.out.trans (Kp.drew tb w0))
  have HH0 : Hid (w0.drew.heap[w.heap.size]? = some (.cells #[.int .i64 0, .slice none 0 0] 43 (0, 0)) ∧ w.heap.size < w0.drew.heap.size) := ⟨HH.out, lt_of_block HH.out⟩
  have KD := Lib.hid (Kp.refl tb w0.drew)
  refine wp_region_held_drew (S := fun w' => w'.cell? ⟨q1, 0, none⟩ = some (.func (.func N1) #[] caps1) ∧ w'.cell? ⟨q2, 0, none⟩ = some (.func (.func N2) #[] caps2)) (by kernel_rfl) ?_ (fun hHeld => ?_)
  · exact ⟨(B1.out.kp K0.out).now, (B2.out.kp K0.out).now⟩
  generalize w0.drew = v0 at *
  first
    | (refine wpAnyH_take (i := 0) (oi := ⟨_, _, _, _, _, _⟩) (v := undef) rfl (by kernel_rfl) (by kernel_rfl) (by kernel_rfl) (fun _ _ _ h => h) (Or.inr ⟨by rfl, rfl⟩) (by assumption) ?_
       try simp only [Act.put, List.setIfInBounds_toArray, List.set_cons_zero, List.set_cons_succ])
    | (refine wpAnyH_take (i := 0) (oi := ⟨_, _, _, _, _, _⟩) (v := ?_) rfl (by kernel_rfl) (by kernel_rfl) (by kernel_rfl) (fun _ _ _ h => h) (Or.inl ⟨by rfl, ?_⟩) (by assumption) ?_
       rotate_left
       · intro w5 hSw
         try dsimp only at hSw
         go_simp
         try with_reducible rfl
       try simp only [Act.put, List.setIfInBounds_toArray, List.set_cons_zero, List.set_cons_succ])
  first
    | (refine wpAnyH_take (i := 2) (oi := ⟨_, _, _, _, _, _⟩) (v := undef) rfl (by kernel_rfl) (by kernel_rfl) (by kernel_rfl) (fun _ _ _ h => h) (Or.inr ⟨by rfl, rfl⟩) (by assumption) ?_
       try simp only [Act.put, List.setIfInBounds_toArray, List.set_cons_zero, List.set_cons_succ])
    | (refine wpAnyH_take (i := 2) (oi := ⟨_, _, _, _, _, _⟩) (v := ?_) rfl (by kernel_rfl) (by kernel_rfl) (by kernel_rfl) (fun _ _ _ h => h) (Or.inl ⟨by rfl, ?_⟩) (by assumption) ?_
       rotate_left
       · intro w5 hSw
         try dsimp only at hSw
         go_simp
         try with_reducible rfl
       try simp only [Act.put, List.setIfInBounds_toArray, List.set_cons_zero, List.set_cons_succ])
  refine wpAnyH_ready (rs := [1]) (by kernel_rfl) (by simp) ?_
  refine AllReadyH.cons (o := ⟨_, _, _, _, _, _⟩) rfl (fun K hK => ?_) AllReadyH.nil
  go_simp
  refine (Reads.call D1.out K0.out HTA.out).mono ?_
  rintro e v1 ⟨x1, rfl, hx1, ht1, hk1⟩
  have HX1 := Lib.hid hx1
  obtain rfl : x1 = .int .i64 (stI s st) := hx1
  have HT1 := Lib.hid ht1
  have L1 := Lib.hid hk1
  have K1 := Lib.hid (K0.out.trans hk1)
  have KD1 := Lib.hid (KD.out.trans hk1)
  clear ht1 hk1
  refine hK.out _ _ ?_ (fun hHeld => ?_)
  · exact ⟨(B1.out.kp K1.out).now, (B2.out.kp K1.out).now⟩
  clear hK K
  try simp only [Act.put, List.setIfInBounds_toArray, List.set_cons_zero, List.set_cons_succ]
  refine wpAnyH_ready (rs := [3]) (by kernel_rfl) (by simp) ?_
  refine AllReadyH.cons (o := ⟨_, _, _, _, _, _⟩) rfl (fun K hK => ?_) AllReadyH.nil
  go_simp
  refine (Reads.call D2.out K1.out HT1.out).mono ?_
  rintro e v2 ⟨x2, rfl, hx2, ht2, hk2⟩
  have HX2 := Lib.hid hx2
  obtain ⟨a2, n2, k2, rfl⟩ := Lst.form hx2
  have HT2 := Lib.hid ht2
  have L2 := Lib.hid hk2
  have K2 := Lib.hid (K1.out.trans hk2)
  have KD2 := Lib.hid (KD1.out.trans hk2)
  clear ht2 hk2
  refine hK.out _ _ ?_ (fun hHeld => ?_)
  · exact ⟨(B1.out.kp K2.out).now, (B2.out.kp K2.out).now⟩
  clear hK K
  try simp only [Act.put, List.setIfInBounds_toArray, List.set_cons_zero, List.set_cons_succ]
  first
    | (refine wpAnyH_take (i := 4) (oi := ⟨_, _, _, _, _, _⟩) (v := undef) rfl (by kernel_rfl) (by kernel_rfl) (by kernel_rfl) (fun _ _ _ h => h) (Or.inr ⟨by rfl, rfl⟩) (by assumption) ?_
       try simp only [Act.put, List.setIfInBounds_toArray, List.set_cons_zero, List.set_cons_succ])
    | (refine wpAnyH_take (i := 4) (oi := ⟨_, _, _, _, _, _⟩) (v := ?_) rfl (by kernel_rfl) (by kernel_rfl) (by kernel_rfl) (fun _ _ _ h => h) (Or.inl ⟨by rfl, ?_⟩) (by assumption) ?_
       rotate_left
       · intro w5 hSw
         try dsimp only at hSw
         go_simp
         try with_reducible rfl
       try simp only [Act.put, List.setIfInBounds_toArray, List.set_cons_zero, List.set_cons_succ])
  have h4 : v2.heap[w.heap.size]? = some (.cells #[.int .i64 0, .slice none 0 0] 43 (0, 0)) := by rw [KD2.out.blk HH0.out.2 (by have := HLT.out; omega)]; exact HH0.out.1
  have H4 := Lib.hid h4
  have y0 : v2.cell? ⟨w.heap.size, 0, none⟩ = some (.int .i64 0) := by rw [Lib.cell_of_heap h4]; rfl
  have y1 : v2.cell? ⟨w.heap.size, 1, none⟩ = some (.slice none 0 0) := by rw [Lib.cell_of_heap h4]; rfl
  have fz : ∀ q, v2.frozen? ⟨w.heap.size, q, none⟩ = false := fun q => Lib.frozen_of_heap h4 q
  have hsf := store_float
  clear h4
  refine wpAnyH_ready (rs := [5]) (by kernel_rfl) (by simp) ?_
  refine AllReadyH.cons (o := ⟨_, _, _, _, _, _⟩) rfl (fun K hK => ?_) AllReadyH.nil
  go_simp
  have KE := Lib.hid (K2.out.low (put_low (Nat.le_refl w.heap.size) [.int .i64 (stI s st), .slice a2 n2 k2] 0 v2))
  change K _ (v2.setCells w.heap.size 0 [.int .i64 (stI s st), .slice a2 n2 k2])
  refine hK.out _ _ ?_ (fun hHeld => ?_)
  · exact ⟨(B1.out.kp KE.out).now, (B2.out.kp KE.out).now⟩
  clear hK K
  try simp only [Act.put, List.setIfInBounds_toArray, List.set_cons_zero, List.set_cons_succ]
  refine wpAnyH_done (by kernel_rfl) ?_ _
  have h5 : (v2.setCells w.heap.size 0 [.int .i64 (stI s st), .slice a2 n2 k2]).heap[w.heap.size]? = some (.cells #[.int .i64 (stI s st), .slice a2 n2 k2] 43 (0, 0)) := Joins.block_setCell (Joins.block_setCell H4.out (.int .i64 (stI s st))) (.slice a2 n2 k2)
  have z0 := Lib.cell_of_heap h5 0
  have z1 := Lib.cell_of_heap h5 1
  simp only [List.getElem?_toArray, List.getElem?_cons_zero, List.getElem?_cons_succ] at z0 z1
  have HTE := Lib.hid (HT2.out.low (put_low (Nat.le_refl w.heap.size) [.int .i64 (stI s st), .slice a2 n2 k2] 0 v2) HLT.out)
  have HPT := Lib.hid (put_types (tb := tb) (o := 0) (l := [.int .i64 (stI s st), .slice a2 n2 k2]) H4.out)
  generalize v2.setCells w.heap.size 0 [.int .i64 (stI s st), .slice a2 n2 k2] = v9 at *
  clear hHeld h5 fz y0 y1
  go_wp2_with fail
  exact bodyPost_ret (v := .agg #[.int .i64 (stI s st), .slice a2 n2 k2]) (by simp [results, Try.results93, go_sem, z0, z1]) rfl ⟨_, rfl, ⟨_, rfl, stab_wd (by decide) s _ _ _ _ HX2.out HPT.out⟩, HTE.out, KE.out⟩

set_option maxHeartbeats 1600000 in
theorem modelOf_reads (tb : Nat) (s : ByteArray) (q1 q2 q3 q4 q5 q6 : Nat) (c1 c2 c3 c4 c5 c6 : Value) (u : World) (h1 : Bx q1 c1 u) (r1 : Reads tb s (stN s) (RI s) c1 u) (h2 : Bx q2 c2 u) (r2 : Reads tb s (stN s) (RF s) c2 u) (h3 : Bx q3 c3 u) (r3 : Reads tb s (lsE s (stN s)) (Lst 1 22 cl1 s (stN s) (RF s)) c3 u) (h4 : Bx q4 c4 u) (r4 : Reads tb s (lsE s (prN s)) (Lst 1 40 cl1 s (prN s) (RPr s)) c4 u) (h5 : Bx q5 c5 u) (r5 : Reads tb s (lsE s (lpN s)) (Lst 2 43 clA s (lpN s) (RLp s)) c5 u) (h6 : Bx q6 c6 u) (r6 : Reads tb s (lsE s (evN s)) (Lst 3 55 clA s (evN s) (REv s)) c6 u) :
    Reads tb s (mdN s) (RMd s) (.func (.func 68) #[] #[.pointer (some ⟨q1, 0, none⟩), .pointer (some ⟨q2, 0, none⟩), .pointer (some ⟨q3, 0, none⟩), .pointer (some ⟨q4, 0, none⟩), .pointer (some ⟨q5, 0, none⟩), .pointer (some ⟨q6, 0, none⟩)]) u := by
  refine ⟨_, _, rfl, fun w => callFunc_go Try.func68 (by kernel_rfl) (by kernel_rfl) _ w, fun w st k ht => ?_⟩
  obtain ⟨N1, caps1, rfl, go1⟩ := r1.form
  have B1 := Lib.hid (h1.below k)
  have D1 := Lib.hid (r1.below k)
  obtain ⟨N2, caps2, rfl, go2⟩ := r2.form
  have B2 := Lib.hid (h2.below k)
  have D2 := Lib.hid (r2.below k)
  obtain ⟨N3, caps3, rfl, go3⟩ := r3.form
  have B3 := Lib.hid (h3.below k)
  have D3 := Lib.hid (r3.below k)
  obtain ⟨N4, caps4, rfl, go4⟩ := r4.form
  have B4 := Lib.hid (h4.below k)
  have D4 := Lib.hid (r4.below k)
  obtain ⟨N5, caps5, rfl, go5⟩ := r5.form
  have B5 := Lib.hid (h5.below k)
  have D5 := Lib.hid (r5.below k)
  obtain ⟨N6, caps6, rfl, go6⟩ := r6.form
  have B6 := Lib.hid (h6.below k)
  have D6 := Lib.hid (r6.below k)
  have HLT := Lib.hid ht.lt
  have HH : Hid ((w.alloc (.cells #[.int .i64 0, .float .f64 0, .slice none 0 0, .slice none 0 0, .slice none 0 0, .slice none 0 0] 28)).heap[w.heap.size]? = some (.cells #[.int .i64 0, .float .f64 0, .slice none 0 0, .slice none 0 0, .slice none 0 0, .slice none 0 0] 28 (0, 0))) := heap_alloc_new w _
  have HA := Lib.hid (Kp.of (tb := tb) (balloc w (.cells #[.int .i64 0, .float .f64 0, .slice none 0 0, .slice none 0 0, .slice none 0 0, .slice none 0 0] 28)))
  have HTA := Lib.hid ((ht.below (balloc w (.cells #[.int .i64 0, .float .f64 0, .slice none 0 0, .slice none 0 0, .slice none 0 0, .slice none 0 0] 28))).below (bdrew _))
  clear k ht h1 r1 h2 r2 h3 r3 h4 r4 h5 r5 h6 r6
  go_enter Try.func68, Try.ntmps68
  go_wp2_with fail
  generalize w.alloc (.cells #[.int .i64 0, .float .f64 0, .slice none 0 0, .slice none 0 0, .slice none 0 0, .slice none 0 0] 28) = w0 at *
  have K0 := Lib.hid (HA.out.trans (Kp.drew tb w0))
  have HH0 : Hid (w0.drew.heap[w.heap.size]? = some (.cells #[.int .i64 0, .float .f64 0, .slice none 0 0, .slice none 0 0, .slice none 0 0, .slice none 0 0] 28 (0, 0)) ∧ w.heap.size < w0.drew.heap.size) := ⟨HH.out, lt_of_block HH.out⟩
  have KD := Lib.hid (Kp.refl tb w0.drew)
  refine wp_region_held_drew (S := fun w' => w'.cell? ⟨q1, 0, none⟩ = some (.func (.func N1) #[] caps1) ∧ w'.cell? ⟨q2, 0, none⟩ = some (.func (.func N2) #[] caps2) ∧ w'.cell? ⟨q3, 0, none⟩ = some (.func (.func N3) #[] caps3) ∧ w'.cell? ⟨q4, 0, none⟩ = some (.func (.func N4) #[] caps4) ∧ w'.cell? ⟨q5, 0, none⟩ = some (.func (.func N5) #[] caps5) ∧ w'.cell? ⟨q6, 0, none⟩ = some (.func (.func N6) #[] caps6)) (by kernel_rfl) ?_ (fun hHeld => ?_)
  · exact ⟨(B1.out.kp K0.out).now, (B2.out.kp K0.out).now, (B3.out.kp K0.out).now, (B4.out.kp K0.out).now, (B5.out.kp K0.out).now, (B6.out.kp K0.out).now⟩
  generalize w0.drew = v0 at *
  first
    | (refine wpAnyH_take (i := 0) (oi := ⟨_, _, _, _, _, _⟩) (v := undef) rfl (by kernel_rfl) (by kernel_rfl) (by kernel_rfl) (fun _ _ _ h => h) (Or.inr ⟨by rfl, rfl⟩) (by assumption) ?_
       try simp only [Act.put, List.setIfInBounds_toArray, List.set_cons_zero, List.set_cons_succ])
    | (refine wpAnyH_take (i := 0) (oi := ⟨_, _, _, _, _, _⟩) (v := ?_) rfl (by kernel_rfl) (by kernel_rfl) (by kernel_rfl) (fun _ _ _ h => h) (Or.inl ⟨by rfl, ?_⟩) (by assumption) ?_
       rotate_left
       · intro w5 hSw
         try dsimp only at hSw
         go_simp
         try with_reducible rfl
       try simp only [Act.put, List.setIfInBounds_toArray, List.set_cons_zero, List.set_cons_succ])
  first
    | (refine wpAnyH_take (i := 2) (oi := ⟨_, _, _, _, _, _⟩) (v := undef) rfl (by kernel_rfl) (by kernel_rfl) (by kernel_rfl) (fun _ _ _ h => h) (Or.inr ⟨by rfl, rfl⟩) (by assumption) ?_
       try simp only [Act.put, List.setIfInBounds_toArray, List.set_cons_zero, List.set_cons_succ])
    | (refine wpAnyH_take (i := 2) (oi := ⟨_, _, _, _, _, _⟩) (v := ?_) rfl (by kernel_rfl) (by kernel_rfl) (by kernel_rfl) (fun _ _ _ h => h) (Or.inl ⟨by rfl, ?_⟩) (by assumption) ?_
       rotate_left
       · intro w5 hSw
         try dsimp only at hSw
         go_simp
         try with_reducible rfl
       try simp only [Act.put, List.setIfInBounds_toArray, List.set_cons_zero, List.set_cons_succ])
  first
    | (refine wpAnyH_take (i := 4) (oi := ⟨_, _, _, _, _, _⟩) (v := undef) rfl (by kernel_rfl) (by kernel_rfl) (by kernel_rfl) (fun _ _ _ h => h) (Or.inr ⟨by rfl, rfl⟩) (by assumption) ?_
       try simp only [Act.put, List.setIfInBounds_toArray, List.set_cons_zero, List.set_cons_succ])
    | (refine wpAnyH_take (i := 4) (oi := ⟨_, _, _, _, _, _⟩) (v := ?_) rfl (by kernel_rfl) (by kernel_rfl) (by kernel_rfl) (fun _ _ _ h => h) (Or.inl ⟨by rfl, ?_⟩) (by assumption) ?_
       rotate_left
       · intro w5 hSw
         try dsimp only at hSw
         go_simp
         try with_reducible rfl
       try simp only [Act.put, List.setIfInBounds_toArray, List.set_cons_zero, List.set_cons_succ])
  first
    | (refine wpAnyH_take (i := 6) (oi := ⟨_, _, _, _, _, _⟩) (v := undef) rfl (by kernel_rfl) (by kernel_rfl) (by kernel_rfl) (fun _ _ _ h => h) (Or.inr ⟨by rfl, rfl⟩) (by assumption) ?_
       try simp only [Act.put, List.setIfInBounds_toArray, List.set_cons_zero, List.set_cons_succ])
    | (refine wpAnyH_take (i := 6) (oi := ⟨_, _, _, _, _, _⟩) (v := ?_) rfl (by kernel_rfl) (by kernel_rfl) (by kernel_rfl) (fun _ _ _ h => h) (Or.inl ⟨by rfl, ?_⟩) (by assumption) ?_
       rotate_left
       · intro w5 hSw
         try dsimp only at hSw
         go_simp
         try with_reducible rfl
       try simp only [Act.put, List.setIfInBounds_toArray, List.set_cons_zero, List.set_cons_succ])
  first
    | (refine wpAnyH_take (i := 8) (oi := ⟨_, _, _, _, _, _⟩) (v := undef) rfl (by kernel_rfl) (by kernel_rfl) (by kernel_rfl) (fun _ _ _ h => h) (Or.inr ⟨by rfl, rfl⟩) (by assumption) ?_
       try simp only [Act.put, List.setIfInBounds_toArray, List.set_cons_zero, List.set_cons_succ])
    | (refine wpAnyH_take (i := 8) (oi := ⟨_, _, _, _, _, _⟩) (v := ?_) rfl (by kernel_rfl) (by kernel_rfl) (by kernel_rfl) (fun _ _ _ h => h) (Or.inl ⟨by rfl, ?_⟩) (by assumption) ?_
       rotate_left
       · intro w5 hSw
         try dsimp only at hSw
         go_simp
         try with_reducible rfl
       try simp only [Act.put, List.setIfInBounds_toArray, List.set_cons_zero, List.set_cons_succ])
  first
    | (refine wpAnyH_take (i := 10) (oi := ⟨_, _, _, _, _, _⟩) (v := undef) rfl (by kernel_rfl) (by kernel_rfl) (by kernel_rfl) (fun _ _ _ h => h) (Or.inr ⟨by rfl, rfl⟩) (by assumption) ?_
       try simp only [Act.put, List.setIfInBounds_toArray, List.set_cons_zero, List.set_cons_succ])
    | (refine wpAnyH_take (i := 10) (oi := ⟨_, _, _, _, _, _⟩) (v := ?_) rfl (by kernel_rfl) (by kernel_rfl) (by kernel_rfl) (fun _ _ _ h => h) (Or.inl ⟨by rfl, ?_⟩) (by assumption) ?_
       rotate_left
       · intro w5 hSw
         try dsimp only at hSw
         go_simp
         try with_reducible rfl
       try simp only [Act.put, List.setIfInBounds_toArray, List.set_cons_zero, List.set_cons_succ])
  refine wpAnyH_ready (rs := [1]) (by kernel_rfl) (by simp) ?_
  refine AllReadyH.cons (o := ⟨_, _, _, _, _, _⟩) rfl (fun K hK => ?_) AllReadyH.nil
  go_simp
  refine (Reads.call D1.out K0.out HTA.out).mono ?_
  rintro e v1 ⟨x1, rfl, hx1, ht1, hk1⟩
  have HX1 := Lib.hid hx1
  obtain rfl : x1 = .int .i64 (stI s st) := hx1
  have HT1 := Lib.hid ht1
  have L1 := Lib.hid hk1
  have K1 := Lib.hid (K0.out.trans hk1)
  have KD1 := Lib.hid (KD.out.trans hk1)
  clear ht1 hk1
  refine hK.out _ _ ?_ (fun hHeld => ?_)
  · exact ⟨(B1.out.kp K1.out).now, (B2.out.kp K1.out).now, (B3.out.kp K1.out).now, (B4.out.kp K1.out).now, (B5.out.kp K1.out).now, (B6.out.kp K1.out).now⟩
  clear hK K
  try simp only [Act.put, List.setIfInBounds_toArray, List.set_cons_zero, List.set_cons_succ]
  refine wpAnyH_ready (rs := [3]) (by kernel_rfl) (by simp) ?_
  refine AllReadyH.cons (o := ⟨_, _, _, _, _, _⟩) rfl (fun K hK => ?_) AllReadyH.nil
  go_simp
  refine (Reads.call D2.out K1.out HT1.out).mono ?_
  rintro e v2 ⟨x2, rfl, hx2, ht2, hk2⟩
  have HX2 := Lib.hid hx2
  obtain rfl : x2 = .float .f64 (stF s (stN s st)) := hx2
  have HT2 := Lib.hid ht2
  have L2 := Lib.hid hk2
  have K2 := Lib.hid (K1.out.trans hk2)
  have KD2 := Lib.hid (KD1.out.trans hk2)
  clear ht2 hk2
  refine hK.out _ _ ?_ (fun hHeld => ?_)
  · exact ⟨(B1.out.kp K2.out).now, (B2.out.kp K2.out).now, (B3.out.kp K2.out).now, (B4.out.kp K2.out).now, (B5.out.kp K2.out).now, (B6.out.kp K2.out).now⟩
  clear hK K
  try simp only [Act.put, List.setIfInBounds_toArray, List.set_cons_zero, List.set_cons_succ]
  refine wpAnyH_ready (rs := [5]) (by kernel_rfl) (by simp) ?_
  refine AllReadyH.cons (o := ⟨_, _, _, _, _, _⟩) rfl (fun K hK => ?_) AllReadyH.nil
  go_simp
  refine (Reads.call D3.out K2.out HT2.out).mono ?_
  rintro e v3 ⟨x3, rfl, hx3, ht3, hk3⟩
  have HX3 := Lib.hid hx3
  obtain ⟨a3, n3, k3, rfl⟩ := Lst.form hx3
  have HT3 := Lib.hid ht3
  have L3 := Lib.hid hk3
  have K3 := Lib.hid (K2.out.trans hk3)
  have KD3 := Lib.hid (KD2.out.trans hk3)
  clear ht3 hk3
  refine hK.out _ _ ?_ (fun hHeld => ?_)
  · exact ⟨(B1.out.kp K3.out).now, (B2.out.kp K3.out).now, (B3.out.kp K3.out).now, (B4.out.kp K3.out).now, (B5.out.kp K3.out).now, (B6.out.kp K3.out).now⟩
  clear hK K
  try simp only [Act.put, List.setIfInBounds_toArray, List.set_cons_zero, List.set_cons_succ]
  refine wpAnyH_ready (rs := [7]) (by kernel_rfl) (by simp) ?_
  refine AllReadyH.cons (o := ⟨_, _, _, _, _, _⟩) rfl (fun K hK => ?_) AllReadyH.nil
  go_simp
  refine (Reads.call D4.out K3.out HT3.out).mono ?_
  rintro e v4 ⟨x4, rfl, hx4, ht4, hk4⟩
  have HX4 := Lib.hid hx4
  obtain ⟨a4, n4, k4, rfl⟩ := Lst.form hx4
  have HT4 := Lib.hid ht4
  have L4 := Lib.hid hk4
  have K4 := Lib.hid (K3.out.trans hk4)
  have KD4 := Lib.hid (KD3.out.trans hk4)
  clear ht4 hk4
  refine hK.out _ _ ?_ (fun hHeld => ?_)
  · exact ⟨(B1.out.kp K4.out).now, (B2.out.kp K4.out).now, (B3.out.kp K4.out).now, (B4.out.kp K4.out).now, (B5.out.kp K4.out).now, (B6.out.kp K4.out).now⟩
  clear hK K
  try simp only [Act.put, List.setIfInBounds_toArray, List.set_cons_zero, List.set_cons_succ]
  refine wpAnyH_ready (rs := [9]) (by kernel_rfl) (by simp) ?_
  refine AllReadyH.cons (o := ⟨_, _, _, _, _, _⟩) rfl (fun K hK => ?_) AllReadyH.nil
  go_simp
  refine (Reads.call D5.out K4.out HT4.out).mono ?_
  rintro e v5 ⟨x5, rfl, hx5, ht5, hk5⟩
  have HX5 := Lib.hid hx5
  obtain ⟨a5, n5, k5, rfl⟩ := Lst.form hx5
  have HT5 := Lib.hid ht5
  have L5 := Lib.hid hk5
  have K5 := Lib.hid (K4.out.trans hk5)
  have KD5 := Lib.hid (KD4.out.trans hk5)
  clear ht5 hk5
  refine hK.out _ _ ?_ (fun hHeld => ?_)
  · exact ⟨(B1.out.kp K5.out).now, (B2.out.kp K5.out).now, (B3.out.kp K5.out).now, (B4.out.kp K5.out).now, (B5.out.kp K5.out).now, (B6.out.kp K5.out).now⟩
  clear hK K
  try simp only [Act.put, List.setIfInBounds_toArray, List.set_cons_zero, List.set_cons_succ]
  refine wpAnyH_ready (rs := [11]) (by kernel_rfl) (by simp) ?_
  refine AllReadyH.cons (o := ⟨_, _, _, _, _, _⟩) rfl (fun K hK => ?_) AllReadyH.nil
  go_simp
  refine (Reads.call D6.out K5.out HT5.out).mono ?_
  rintro e v6 ⟨x6, rfl, hx6, ht6, hk6⟩
  have HX6 := Lib.hid hx6
  obtain ⟨a6, n6, k6, rfl⟩ := Lst.form hx6
  have HT6 := Lib.hid ht6
  have L6 := Lib.hid hk6
  have K6 := Lib.hid (K5.out.trans hk6)
  have KD6 := Lib.hid (KD5.out.trans hk6)
  clear ht6 hk6
  refine hK.out _ _ ?_ (fun hHeld => ?_)
  · exact ⟨(B1.out.kp K6.out).now, (B2.out.kp K6.out).now, (B3.out.kp K6.out).now, (B4.out.kp K6.out).now, (B5.out.kp K6.out).now, (B6.out.kp K6.out).now⟩
  clear hK K
  try simp only [Act.put, List.setIfInBounds_toArray, List.set_cons_zero, List.set_cons_succ]
  first
    | (refine wpAnyH_take (i := 12) (oi := ⟨_, _, _, _, _, _⟩) (v := undef) rfl (by kernel_rfl) (by kernel_rfl) (by kernel_rfl) (fun _ _ _ h => h) (Or.inr ⟨by rfl, rfl⟩) (by assumption) ?_
       try simp only [Act.put, List.setIfInBounds_toArray, List.set_cons_zero, List.set_cons_succ])
    | (refine wpAnyH_take (i := 12) (oi := ⟨_, _, _, _, _, _⟩) (v := ?_) rfl (by kernel_rfl) (by kernel_rfl) (by kernel_rfl) (fun _ _ _ h => h) (Or.inl ⟨by rfl, ?_⟩) (by assumption) ?_
       rotate_left
       · intro w5 hSw
         try dsimp only at hSw
         go_simp
         try with_reducible rfl
       try simp only [Act.put, List.setIfInBounds_toArray, List.set_cons_zero, List.set_cons_succ])
  have h4 : v6.heap[w.heap.size]? = some (.cells #[.int .i64 0, .float .f64 0, .slice none 0 0, .slice none 0 0, .slice none 0 0, .slice none 0 0] 28 (0, 0)) := by rw [KD6.out.blk HH0.out.2 (by have := HLT.out; omega)]; exact HH0.out.1
  have H4 := Lib.hid h4
  have y0 : v6.cell? ⟨w.heap.size, 0, none⟩ = some (.int .i64 0) := by rw [Lib.cell_of_heap h4]; rfl
  have y1 : v6.cell? ⟨w.heap.size, 1, none⟩ = some (.float .f64 0) := by rw [Lib.cell_of_heap h4]; rfl
  have y2 : v6.cell? ⟨w.heap.size, 2, none⟩ = some (.slice none 0 0) := by rw [Lib.cell_of_heap h4]; rfl
  have y3 : v6.cell? ⟨w.heap.size, 3, none⟩ = some (.slice none 0 0) := by rw [Lib.cell_of_heap h4]; rfl
  have y4 : v6.cell? ⟨w.heap.size, 4, none⟩ = some (.slice none 0 0) := by rw [Lib.cell_of_heap h4]; rfl
  have y5 : v6.cell? ⟨w.heap.size, 5, none⟩ = some (.slice none 0 0) := by rw [Lib.cell_of_heap h4]; rfl
  have fz : ∀ q, v6.frozen? ⟨w.heap.size, q, none⟩ = false := fun q => Lib.frozen_of_heap h4 q
  have hsf := store_float
  clear h4
  refine wpAnyH_ready (rs := [13]) (by kernel_rfl) (by simp) ?_
  refine AllReadyH.cons (o := ⟨_, _, _, _, _, _⟩) rfl (fun K hK => ?_) AllReadyH.nil
  go_simp
  have KE := Lib.hid (K6.out.low (put_low (Nat.le_refl w.heap.size) [.int .i64 (stI s st), .float .f64 (stF s (stN s st)), .slice a3 n3 k3, .slice a4 n4 k4, .slice a5 n5 k5, .slice a6 n6 k6] 0 v6))
  change K _ (v6.setCells w.heap.size 0 [.int .i64 (stI s st), .float .f64 (stF s (stN s st)), .slice a3 n3 k3, .slice a4 n4 k4, .slice a5 n5 k5, .slice a6 n6 k6])
  refine hK.out _ _ ?_ (fun hHeld => ?_)
  · exact ⟨(B1.out.kp KE.out).now, (B2.out.kp KE.out).now, (B3.out.kp KE.out).now, (B4.out.kp KE.out).now, (B5.out.kp KE.out).now, (B6.out.kp KE.out).now⟩
  clear hK K
  try simp only [Act.put, List.setIfInBounds_toArray, List.set_cons_zero, List.set_cons_succ]
  refine wpAnyH_done (by kernel_rfl) ?_ _
  have h5 : (v6.setCells w.heap.size 0 [.int .i64 (stI s st), .float .f64 (stF s (stN s st)), .slice a3 n3 k3, .slice a4 n4 k4, .slice a5 n5 k5, .slice a6 n6 k6]).heap[w.heap.size]? = some (.cells #[.int .i64 (stI s st), .float .f64 (stF s (stN s st)), .slice a3 n3 k3, .slice a4 n4 k4, .slice a5 n5 k5, .slice a6 n6 k6] 28 (0, 0)) := Joins.block_setCell (Joins.block_setCell (Joins.block_setCell (Joins.block_setCell (Joins.block_setCell (Joins.block_setCell H4.out (.int .i64 (stI s st))) (.float .f64 (stF s (stN s st)))) (.slice a3 n3 k3)) (.slice a4 n4 k4)) (.slice a5 n5 k5)) (.slice a6 n6 k6)
  have z0 := Lib.cell_of_heap h5 0
  have z1 := Lib.cell_of_heap h5 1
  have z2 := Lib.cell_of_heap h5 2
  have z3 := Lib.cell_of_heap h5 3
  have z4 := Lib.cell_of_heap h5 4
  have z5 := Lib.cell_of_heap h5 5
  simp only [List.getElem?_toArray, List.getElem?_cons_zero, List.getElem?_cons_succ] at z0 z1 z2 z3 z4 z5
  have HTE := Lib.hid (HT6.out.low (put_low (Nat.le_refl w.heap.size) [.int .i64 (stI s st), .float .f64 (stF s (stN s st)), .slice a3 n3 k3, .slice a4 n4 k4, .slice a5 n5 k5, .slice a6 n6 k6] 0 v6) HLT.out)
  have HPT := Lib.hid (put_types (tb := tb) (o := 0) (l := [.int .i64 (stI s st), .float .f64 (stF s (stN s st)), .slice a3 n3 k3, .slice a4 n4 k4, .slice a5 n5 k5, .slice a6 n6 k6]) H4.out)
  generalize v6.setCells w.heap.size 0 [.int .i64 (stI s st), .float .f64 (stF s (stN s st)), .slice a3 n3 k3, .slice a4 n4 k4, .slice a5 n5 k5, .slice a6 n6 k6] = v9 at *
  clear hHeld h5 fz y0 y1 y2 y3 y4 y5
  go_wp2_with fail
  exact bodyPost_ret (v := .agg #[.int .i64 (stI s st), .float .f64 (stF s (stN s st)), .slice a3 n3 k3, .slice a4 n4 k4, .slice a5 n5 k5, .slice a6 n6 k6]) (by simp [results, Try.results68, go_sem, z0, z1, z2, z3, z4, z5]) rfl ⟨_, rfl, ⟨_, _, _, _, rfl, (stab_lst (by decide) (stab_rf _ s) : Stab 28 _) _ _ _ _ (Stab.below (stab_lst (by decide) (stab_rf _ s) : Stab 28 _) HX3.out ((L4.out.trans L5.out).trans L6.out).hid) HPT.out, (stab_lst (by decide) (stab_pr (by decide) s) : Stab 28 _) _ _ _ _ (Stab.below (stab_lst (by decide) (stab_pr (by decide) s) : Stab 28 _) HX4.out (L5.out.trans L6.out).hid) HPT.out, (stab_lst (by decide) (stab_lp (by decide) s) : Stab 28 _) _ _ _ _ (Stab.below (stab_lst (by decide) (stab_lp (by decide) s) : Stab 28 _) HX5.out L6.out.hid) HPT.out, (stab_lst (by decide) (stab_ev _ s) : Stab 28 _) _ _ _ _ HX6.out HPT.out⟩, HTE.out, KE.out⟩

end Go.Proofs.Ytemhbcjpgapjkaa
