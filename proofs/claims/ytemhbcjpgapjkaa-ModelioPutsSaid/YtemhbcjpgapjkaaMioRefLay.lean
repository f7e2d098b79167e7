/- The contract of the document's Lay. -/
import Derived.Test.YtemhbcjpgapjkaaMioRefLay1
import Derived.Test.YtemhbcjpgapjkaaModelSmall
namespace Go.Proofs.Ytemhbcjpgapjkaa
open Go.RowKit
set_option linter.unusedVariables false
set_option maxRecDepth 100000

/-- words as a string -/
def acc (X : List Int) : ByteArray := strOfNums (byW X)
theorem acc_app (X Y : List Int) : acc X ++ acc Y = acc (X ++ Y) := by unfold acc; rw [strOfNums_append, byW_append]
theorem acc_size (X : List Int) : (acc X).size = 8 * X.length := by unfold acc; rw [strOfNums_size, byW_len]
theorem four_sl (c0 c1 c2 c3 : Int) (t : TypeId) (w : World) : Sl 1 (gW fun i => [c0, c1, c2, c3].getD i 0) 4 (.slice (some ⟨w.heap.size, 0, none⟩) 4 4) (w.alloc (.cells #[.int .i64 c0, .int .i64 c1, .int .i64 c2, .int .i64 c3] t)) := by
  have hh := heap_alloc_new w (.cells #[.int .i64 c0, .int .i64 c1, .int .i64 c2, .int .i64 c3] t)
  refine ⟨_, 4, rfl, Nat.le_refl _, by omega, fun _ => ⟨w.heap.size, 0, rfl, lt_of_block hh, fun i hi j hj => ?_⟩⟩
  obtain rfl : j = 0 := by omega
  rw [Lib.cell_of_heap hh]
  have : i = 0 ∨ i = 1 ∨ i = 2 ∨ i = 3 := by omega
  rcases this with rfl | rfl | rfl | rfl <;> rfl
theorem two_sl (c0 c1 : Int) (t : TypeId) (w : World) : Sl 1 (gW fun i => [c0, c1].getD i 0) 2 (.slice (some ⟨w.heap.size, 0, none⟩) 2 2) (w.alloc (.cells #[.int .i64 c0, .int .i64 c1] t)) := by
  have hh := heap_alloc_new w (.cells #[.int .i64 c0, .int .i64 c1] t)
  refine ⟨_, 2, rfl, Nat.le_refl _, by omega, fun _ => ⟨w.heap.size, 0, rfl, lt_of_block hh, fun i hi j hj => ?_⟩⟩
  obtain rfl : j = 0 := by omega
  rw [Lib.cell_of_heap hh]
  have : i = 0 ∨ i = 1 := by omega
  rcases this with rfl | rfl <;> rfl
/-- the document's Ints at four and at two numbers that were put into new memory -/
theorem ints6_four (c0 c1 c2 c3 : Int) (w : World) (B : Nat) (hB : w.heap.size = B) : Calls Try.prog 29 #[.slice (some ⟨B, 0, none⟩) 4 4] (w.alloc (.cells #[.int .i64 c0, .int .i64 c1, .int .i64 c2, .int .i64 c3] 3)) fun e w' => e = .returned (.string (acc (insW ⟨c0, c1, c2, c3⟩))) ∧ Below w.heap.size w w' := by
  subst hB
  exact (ints6_any _ 4 (by omega) _ _ (four_sl c0 c1 c2 c3 3 w)).mono fun e w' ⟨h1, h2⟩ => ⟨h1, bthen (balloc _ _) h2⟩
theorem ints6_two (c0 c1 : Int) (w : World) : Calls Try.prog 29 #[.slice (some ⟨w.heap.size, 0, none⟩) 2 2] (w.alloc (.cells #[.int .i64 c0, .int .i64 c1] 3)) fun e w' => e = .returned (.string (acc [flip63 c0, flip63 c1])) ∧ Below w.heap.size w w' :=
  (ints6_any _ 2 (by omega) _ _ (two_sl c0 c1 3 w)).mono fun e w' ⟨h1, h2⟩ => ⟨h1, bthen (balloc _ _) h2⟩
theorem ints6_two_at (c0 c1 : Int) (w w2 : World) (k : Below (w.alloc (.cells #[.int .i64 c0, .int .i64 c1] 3)).heap.size (w.alloc (.cells #[.int .i64 c0, .int .i64 c1] 3)) w2) : Calls Try.prog 29 #[.slice (some ⟨w.heap.size, 0, none⟩) 2 2] w2 fun e w' => e = .returned (.string (acc [flip63 c0, flip63 c1])) ∧ Below w2.heap.size w2 w' :=
  (ints6_any _ 2 (by omega) _ _ ((two_sl c0 c1 3 w).below k)).mono fun e w' ⟨h1, h2⟩ => ⟨h1, h2⟩
theorem catN_le {f : Nat → List Int} {n j L : Nat} (h : ∀ i, i < n → (f i).length ≤ L) (hj : j ≤ n) (hn : n ≤ 48) : (catN f j).length ≤ 48 * L := by
  have := catN_len (n := j) fun i hi => h i (by omega)
  have : j * L ≤ 48 * L := Nat.mul_le_mul_right L (by omega)
  omega

set_option maxHeartbeats 6000000 in
theorem refLay_core (seed : Int) (fin nd np nl ni : Nat) (ad ap al ai : Option Addr) (cd cp cl ci : Nat) (d : Nat → Nat) (pl : Nat → Nat) (pr : Nat → Nat → I4) (lp : Nat → Int) (wl : Nat → Nat) (wd : Nat → Nat → Int) (ev : Nat → Ev) (w : World)
    (c1 : nd ≤ 48) (c2 : np ≤ 48) (c3 : nl ≤ 48) (c4 : ni ≤ 48) (C5 : Hid (∀ i, i < np → pl i ≤ 48)) (C6 : Hid (∀ i, i < nl → wl i ≤ 48))
    (hfin : fin < 18446744073709551616) (RD : Hid (∀ i, i < nd → d i < 18446744073709551616)) (RE : Hid (∀ i, i < ni → (ev i).t < 18446744073709551616))
    (D : Hid (Sl 1 (gF d) nd (.slice ad nd cd) w)) (P : Hid (Pgs np pl pr (.slice ap np cp) w)) (L : Hid (Lps nl lp wl wd (.slice al nl cl) w)) (I : Hid (Sl 3 (gE ev) ni (.slice ai ni ci) w)) :
    Calls Try.prog 12 #[.agg #[.int .i64 seed, .float .f64 fin, .slice ad nd cd, .slice ap np cp, .slice al nl cl, .slice ai ni ci]] w fun e w' => e = .returned (.string (acc ([flip63 seed, (fin : Int), flip63 nd] ++ (catN (fun i => [((d i : Nat) : Int)]) nd ++ ([flip63 np] ++ (catN (fun i => prW (pr i) (pl i)) np ++ ([flip63 nl] ++ (catN (fun i => lpW (lp i) (wd i) (wl i)) nl ++ ([flip63 ni] ++ catN (fun i => evW (ev i)) ni))))))))) ∧ Below w.heap.size w w' := by
  have hsf := store_float
  have LD : Hid (∀ j, j ≤ nd → (catN (fun i => [((d i : Nat) : Int)]) j).length ≤ 48 * 1) := fun j hj => catN_le (fun i hi => by simp) hj c1
  have LP : Hid (∀ j, j ≤ np → (catN (fun i => prW (pr i) (pl i)) j).length ≤ 48 * 200) := fun j hj => catN_le (fun i hi => by
    have := C5.out i hi
    have h2 : (prW (pr i) (pl i)).length ≤ 1 + pl i * 4 := lsW_len fun k hk => by simp [insW]
    show (prW (pr i) (pl i)).length ≤ 200
    omega) hj c2
  have LL : Hid (∀ j, j ≤ nl → (catN (fun i => lpW (lp i) (wd i) (wl i)) j).length ≤ 48 * 200) := fun j hj => catN_le (fun i hi => by
    have := C6.out i hi
    have h2 : (wdW (wd i) (wl i)).length ≤ 1 + wl i * 1 := lsW_len fun k hk => by simp
    show (lpW (lp i) (wd i) (wl i)).length ≤ 200
    unfold lpW
    simp only [List.length_cons]
    omega) hj c3
  have LE : Hid (∀ j, j ≤ ni → (catN (fun i => evW (ev i)) j).length ≤ 48 * 3) := fun j hj => catN_le (fun i hi => by simp [evW]) hj c4
  have HI : Hid (∀ n w, Calls Try.prog 16 #[.int .i64 n] w fun e w' => e = .returned (.string (acc [flip63 n])) ∧ Below w.heap.size w w') := fun n w => refI_w n w
  have HB : Hid (∀ x w, x < 18446744073709551616 → Calls Try.prog 28 #[.float .f64 x] w fun e w' => e = .returned (.string (acc [(x : Int)])) ∧ Below w.heap.size w w') := fun x w h => bits6_any x h w
  have HF := Lib.hid hfin
  have AS := Lib.hid acc_size
  have AA := Lib.hid acc_app
  have HX := Lib.hid (Box6.new (.int .i64 seed) (.float .f64 fin) (.slice ad nd cd) (.slice ap np cp) (.slice al nl cl) (.slice ai ni ci) 28 w)
  have HA := Lib.hid (balloc w (.cells #[.int .i64 seed, .float .f64 fin, .slice ad nd cd, .slice ap np cp, .slice al nl cl, .slice ai ni ci] 28))
  have n1 : nd ≤ 9223372036854775807 := by omega
  have n2 : np ≤ 9223372036854775807 := by omega
  have n3 : nl ≤ 9223372036854775807 := by omega
  have n4 : ni ≤ 9223372036854775807 := by omega
  clear c1 c2 c3 c4 hfin
  go_enter Try.func12, Try.ntmps12
  go_wp2_with fail
  generalize w.alloc (.cells #[.int .i64 seed, .float .f64 fin, .slice ad nd cd, .slice ap np cp, .slice al nl cl, .slice ai ni ci] 28) = w0 at *
  obtain ⟨_, x0, x1, x2, x3, x4, x5⟩ := HX.out
  have V0 := Lib.hid (bdrew w0)
  refine wp_region_held_drew (S := fun w' => w'.cell? ⟨w.heap.size, 0, none⟩ = some (.int .i64 seed) ∧ w'.cell? ⟨w.heap.size, 1, none⟩ = some (.float .f64 fin) ∧ w'.cell? ⟨w.heap.size, 2, none⟩ = some (.slice ad nd cd)) (by kernel_rfl) ?_ (fun hHeld => ?_)
  · exact ⟨x0, x1, x2⟩
  first
    | (refine wpAnyH_take (i := 0) (oi := ⟨_, _, _, _, _, _⟩) (v := undef) rfl (by kernel_rfl) (by kernel_rfl) (by kernel_rfl) (fun _ _ _ h => h) (Or.inr ⟨by rfl, rfl⟩) (by assumption) ?_
       try simp only [Act.put, List.setIfInBounds_toArray, List.set_cons_zero, List.set_cons_succ])
    | (refine wpAnyH_take (i := 0) (oi := ⟨_, _, _, _, _, _⟩) (v := ?_) rfl (by kernel_rfl) (by kernel_rfl) (by kernel_rfl) (fun _ _ _ h => h) (Or.inl ⟨by rfl, ?_⟩) (by assumption) ?_
       rotate_left
       · intro w5 hSw
         try dsimp only at hSw
         go_simp
         try with_reducible rfl
       try simp only [Act.put, List.setIfInBounds_toArray, List.set_cons_zero, List.set_cons_succ])
  first
    | (refine wpAnyH_take (i := 1) (oi := ⟨_, _, _, _, _, _⟩) (v := undef) rfl (by kernel_rfl) (by kernel_rfl) (by kernel_rfl) (fun _ _ _ h => h) (Or.inr ⟨by rfl, rfl⟩) (by assumption) ?_
       try simp only [Act.put, List.setIfInBounds_toArray, List.set_cons_zero, List.set_cons_succ])
    | (refine wpAnyH_take (i := 1) (oi := ⟨_, _, _, _, _, _⟩) (v := ?_) rfl (by kernel_rfl) (by kernel_rfl) (by kernel_rfl) (fun _ _ _ h => h) (Or.inl ⟨by rfl, ?_⟩) (by assumption) ?_
       rotate_left
       · intro w5 hSw
         try dsimp only at hSw
         go_simp
         try with_reducible rfl
       try simp only [Act.put, List.setIfInBounds_toArray, List.set_cons_zero, List.set_cons_succ])
  first
    | (refine wpAnyH_take (i := 3) (oi := ⟨_, _, _, _, _, _⟩) (v := undef) rfl (by kernel_rfl) (by kernel_rfl) (by kernel_rfl) (fun _ _ _ h => h) (Or.inr ⟨by rfl, rfl⟩) (by assumption) ?_
       try simp only [Act.put, List.setIfInBounds_toArray, List.set_cons_zero, List.set_cons_succ])
    | (refine wpAnyH_take (i := 3) (oi := ⟨_, _, _, _, _, _⟩) (v := ?_) rfl (by kernel_rfl) (by kernel_rfl) (by kernel_rfl) (fun _ _ _ h => h) (Or.inl ⟨by rfl, ?_⟩) (by assumption) ?_
       rotate_left
       · intro w5 hSw
         try dsimp only at hSw
         go_simp
         try with_reducible rfl
       try simp only [Act.put, List.setIfInBounds_toArray, List.set_cons_zero, List.set_cons_succ])
  first
    | (refine wpAnyH_take (i := 4) (oi := ⟨_, _, _, _, _, _⟩) (v := undef) rfl (by kernel_rfl) (by kernel_rfl) (by kernel_rfl) (fun _ _ _ h => h) (Or.inr ⟨by rfl, rfl⟩) (by assumption) ?_
       try simp only [Act.put, List.setIfInBounds_toArray, List.set_cons_zero, List.set_cons_succ])
    | (refine wpAnyH_take (i := 4) (oi := ⟨_, _, _, _, _, _⟩) (v := ?_) rfl (by kernel_rfl) (by kernel_rfl) (by kernel_rfl) (fun _ _ _ h => h) (Or.inl ⟨by rfl, ?_⟩) (by assumption) ?_
       rotate_left
       · intro w5 hSw
         try dsimp only at hSw
         go_simp
         try with_reducible rfl
       try simp only [Act.put, List.setIfInBounds_toArray, List.set_cons_zero, List.set_cons_succ])
  first
    | (refine wpAnyH_take (i := 7) (oi := ⟨_, _, _, _, _, _⟩) (v := undef) rfl (by kernel_rfl) (by kernel_rfl) (by kernel_rfl) (fun _ _ _ h => h) (Or.inr ⟨by rfl, rfl⟩) (by assumption) ?_
       try simp only [Act.put, List.setIfInBounds_toArray, List.set_cons_zero, List.set_cons_succ])
    | (refine wpAnyH_take (i := 7) (oi := ⟨_, _, _, _, _, _⟩) (v := ?_) rfl (by kernel_rfl) (by kernel_rfl) (by kernel_rfl) (fun _ _ _ h => h) (Or.inl ⟨by rfl, ?_⟩) (by assumption) ?_
       rotate_left
       · intro w5 hSw
         try dsimp only at hSw
         go_simp
         try with_reducible rfl
       try simp only [Act.put, List.setIfInBounds_toArray, List.set_cons_zero, List.set_cons_succ])
  first
    | (refine wpAnyH_take (i := 8) (oi := ⟨_, _, _, _, _, _⟩) (v := undef) rfl (by kernel_rfl) (by kernel_rfl) (by kernel_rfl) (fun _ _ _ h => h) (Or.inr ⟨by rfl, rfl⟩) (by assumption) ?_
       try simp only [Act.put, List.setIfInBounds_toArray, List.set_cons_zero, List.set_cons_succ])
    | (refine wpAnyH_take (i := 8) (oi := ⟨_, _, _, _, _, _⟩) (v := ?_) rfl (by kernel_rfl) (by kernel_rfl) (by kernel_rfl) (fun _ _ _ h => h) (Or.inl ⟨by rfl, ?_⟩) (by assumption) ?_
       rotate_left
       · intro w5 hSw
         try dsimp only at hSw
         go_simp
         try with_reducible rfl
       try simp only [Act.put, List.setIfInBounds_toArray, List.set_cons_zero, List.set_cons_succ])
  first
    | (refine wpAnyH_take (i := 9) (oi := ⟨_, _, _, _, _, _⟩) (v := undef) rfl (by kernel_rfl) (by kernel_rfl) (by kernel_rfl) (fun _ _ _ h => h) (Or.inr ⟨by rfl, rfl⟩) (by assumption) ?_
       try simp only [Act.put, List.setIfInBounds_toArray, List.set_cons_zero, List.set_cons_succ])
    | (refine wpAnyH_take (i := 9) (oi := ⟨_, _, _, _, _, _⟩) (v := ?_) rfl (by kernel_rfl) (by kernel_rfl) (by kernel_rfl) (fun _ _ _ h => h) (Or.inl ⟨by rfl, ?_⟩) (by assumption) ?_
       rotate_left
       · intro w5 hSw
         try dsimp only at hSw
         go_simp
         try with_reducible rfl
       try simp only [Act.put, List.setIfInBounds_toArray, List.set_cons_zero, List.set_cons_succ])
  refine wpAnyH_ready (rs := [2]) (by kernel_rfl) (by simp) ?_
  refine AllReadyH.cons (o := ⟨_, _, _, _, _, _⟩) rfl (fun K hK => ?_) AllReadyH.nil
  go_simp
  go_at_call 16
  refine (HI.out seed _).mono ?_
  rintro e v1 ⟨rfl, hb1⟩
  have V1 := Lib.hid (bthen V0.out hb1)
  clear hb1
  refine hK.out _ _ ?_ (fun hHeld => ?_)
  · obtain ⟨_, p0, p1, p2, _⟩ := HX.out.below V1.out
    exact ⟨p0, p1, p2⟩
  clear hK K
  try simp only [Act.put, List.setIfInBounds_toArray, List.set_cons_zero, List.set_cons_succ]
  refine wpAnyH_ready (rs := [5]) (by kernel_rfl) (by simp) ?_
  refine AllReadyH.cons (o := ⟨_, _, _, _, _, _⟩) rfl (fun K hK => ?_) AllReadyH.nil
  go_simp
  go_at_call 28
  refine (HB.out fin _ HF.out).mono ?_
  rintro e v2 ⟨rfl, hb2⟩
  have V2 := Lib.hid (bthen V1.out hb2)
  clear hb2
  refine hK.out _ _ ?_ (fun hHeld => ?_)
  · obtain ⟨_, p0, p1, p2, _⟩ := HX.out.below V2.out
    exact ⟨p0, p1, p2⟩
  clear hK K
  try simp only [Act.put, List.setIfInBounds_toArray, List.set_cons_zero, List.set_cons_succ]
  have b1 : ¬ 9223372036854775807 < (acc [flip63 seed]).size + (acc [(fin : Int)]).size := by rw [AS.out, AS.out]; simp
  first
    | (refine wpAnyH_take (i := 6) (oi := ⟨_, _, _, _, _, _⟩) (v := undef) rfl (by kernel_rfl) (by kernel_rfl) (by kernel_rfl) (fun _ _ _ h => h) (Or.inr ⟨by rfl, rfl⟩) (by assumption) ?_
       try simp only [Act.put, List.setIfInBounds_toArray, List.set_cons_zero, List.set_cons_succ])
    | (refine wpAnyH_take (i := 6) (oi := ⟨_, _, _, _, _, _⟩) (v := ?_) rfl (by kernel_rfl) (by kernel_rfl) (by kernel_rfl) (fun _ _ _ h => h) (Or.inl ⟨by rfl, ?_⟩) (by assumption) ?_
       rotate_left
       · intro w5 hSw
         try dsimp only at hSw
         go_simp
         try with_reducible rfl
       try simp only [Act.put, List.setIfInBounds_toArray, List.set_cons_zero, List.set_cons_succ])
  refine wpAnyH_ready (rs := [10]) (by kernel_rfl) (by simp) ?_
  refine AllReadyH.cons (o := ⟨_, _, _, _, _, _⟩) rfl (fun K hK => ?_) AllReadyH.nil
  go_simp
  go_at_call 16
  refine (HI.out (nd : Int) _).mono ?_
  rintro e v3 ⟨rfl, hb3⟩
  have V3 := Lib.hid (bthen V2.out hb3)
  clear hb3
  refine hK.out _ _ ?_ (fun hHeld => ?_)
  · obtain ⟨_, p0, p1, p2, _⟩ := HX.out.below V3.out
    exact ⟨p0, p1, p2⟩
  clear hK K
  try simp only [Act.put, List.setIfInBounds_toArray, List.set_cons_zero, List.set_cons_succ]
  have b2 : ¬ 9223372036854775807 < (acc [flip63 seed]).size + (acc [(fin : Int)]).size + (acc [flip63 (nd : Int)]).size := by rw [AS.out, AS.out, AS.out]; simp
  first
    | (refine wpAnyH_take (i := 11) (oi := ⟨_, _, _, _, _, _⟩) (v := undef) rfl (by kernel_rfl) (by kernel_rfl) (by kernel_rfl) (fun _ _ _ h => h) (Or.inr ⟨by rfl, rfl⟩) (by assumption) ?_
       try simp only [Act.put, List.setIfInBounds_toArray, List.set_cons_zero, List.set_cons_succ])
    | (refine wpAnyH_take (i := 11) (oi := ⟨_, _, _, _, _, _⟩) (v := ?_) rfl (by kernel_rfl) (by kernel_rfl) (by kernel_rfl) (fun _ _ _ h => h) (Or.inl ⟨by rfl, ?_⟩) (by assumption) ?_
       rotate_left
       · intro w5 hSw
         try dsimp only at hSw
         go_simp
         try with_reducible rfl
       try simp only [Act.put, List.setIfInBounds_toArray, List.set_cons_zero, List.set_cons_succ])
  first
    | (refine wpAnyH_take (i := 12) (oi := ⟨_, _, _, _, _, _⟩) (v := undef) rfl (by kernel_rfl) (by kernel_rfl) (by kernel_rfl) (fun _ _ _ h => h) (Or.inr ⟨by rfl, rfl⟩) (by assumption) ?_
       try simp only [Act.put, List.setIfInBounds_toArray, List.set_cons_zero, List.set_cons_succ])
    | (refine wpAnyH_take (i := 12) (oi := ⟨_, _, _, _, _, _⟩) (v := ?_) rfl (by kernel_rfl) (by kernel_rfl) (by kernel_rfl) (fun _ _ _ h => h) (Or.inl ⟨by rfl, ?_⟩) (by assumption) ?_
       rotate_left
       · intro w5 hSw
         try dsimp only at hSw
         go_simp
         try with_reducible rfl
       try simp only [Act.put, List.setIfInBounds_toArray, List.set_cons_zero, List.set_cons_succ])
  refine wpAnyH_done (by kernel_rfl) ?_ _
  have E0 : Hid (acc [flip63 seed] ++ acc [(fin : Int)] ++ acc [flip63 (nd : Int)] = acc ([flip63 seed, (fin : Int), flip63 nd] ++ catN (fun i => [((d i : Nat) : Int)]) 0)) := by show _ = _; rw [AA.out, AA.out]; rfl
  have E0' : Hid (acc [flip63 seed] ++ (acc [(fin : Int)] ++ acc [flip63 (nd : Int)]) = acc ([flip63 seed, (fin : Int), flip63 nd] ++ catN (fun i => [((d i : Nat) : Int)]) 0)) := by show _ = _; rw [AA.out, AA.out]; rfl
  clear hHeld b1 b2 x0 x1 x2 x3 x4 x5
  generalize hX0 : [flip63 seed, (fin : Int), flip63 nd] = X0 at *
  have HX0 := Lib.hid hX0
  clear hX0
  go_wp2_with fail
  go_loopw [3, 4] (fun o i wr => ∃ j : Nat, j ≤ nd ∧ i = .int .i64 j ∧ o = .string (acc (X0 ++ catN (fun i => [((d i : Nat) : Int)]) j)) ∧ Below w0.heap.size w0 wr) (fun _ i _ => nd - (intOf i).toNat)
  case atStart => exact ⟨0, Nat.zero_le _, rfl, by first | exact congrArg Value.string E0.out | exact congrArg Value.string E0'.out, V3.out⟩
  case round =>
    obtain ⟨j, hj, rfl, rfl, hl⟩ := hrel
    have HL := Lib.hid hl
    obtain ⟨_, x0, x1, x2, x3, x4, x5⟩ := HX.out.below hl
    by_cases hlt : j < nd
    · obtain ⟨ao, cap, ee, _, _, h3⟩ := D.out
      cases ee
      obtain ⟨b, o, rfl, hA⟩ := h3 (by omega)
      have c0 := ((hA.below HA.out).below hl).one j hlt
      dsimp only [gF] at c0
      have HBj := Lib.hid (fun w => HB.out (d j) w (RD.out j hlt))
      have bb : ¬ 9223372036854775807 < (acc (X0 ++ catN (fun i => [((d i : Nat) : Int)]) j)).size + (acc [((d j : Nat) : Int)]).size := by have := LD.out j (by omega); rw [AS.out, AS.out, ← HX0.out]; simp only [List.length_append, List.length_cons, List.length_nil]; omega
      have ES : Hid (acc (X0 ++ catN (fun i => [((d i : Nat) : Int)]) j) ++ acc [((d j : Nat) : Int)] = acc (X0 ++ catN (fun i => [((d i : Nat) : Int)]) (j + 1))) := by show _ = _; rw [AA.out, List.append_assoc]; rfl
      clear hA h3 hl
      generalize acc (X0 ++ catN (fun i => [((d i : Nat) : Int)]) j) = A at *
      generalize acc [((d j : Nat) : Int)] = B at *
      generalize d j = y at *
      go_wp2_with (go_at_call 28; refine (HBj.out _).mono ?_; rintro e w2 ⟨rfl, hb2⟩; have W2 := Lib.hid (bthen HL.out hb2); clear hb2)
      go_roundw
      case rel => exact ⟨j + 1, by omega, by go_num, congrArg Value.string ES.out, W2.out⟩
      case measure => simp [intOf]; omega
    obtain rfl : nd = j := by omega
    clear hlt hj hl
    have HIn := Lib.hid (HI.out (np : Int))
    have bb : ¬ 9223372036854775807 < (acc (X0 ++ catN (fun i => [((d i : Nat) : Int)]) nd)).size + (acc [flip63 (np : Int)]).size := by have := LD.out nd (by omega); rw [AS.out, AS.out, ← HX0.out]; simp only [List.length_append, List.length_cons, List.length_nil]; omega
    have LX : Hid ((X0 ++ catN (fun i => [((d i : Nat) : Int)]) nd ++ [flip63 (np : Int)]).length ≤ 52) := by show _ ≤ _; have := LD.out nd (by omega); rw [← HX0.out]; simp only [List.length_append, List.length_cons, List.length_nil]; omega
    have ES := Lib.hid (AA.out (X0 ++ catN (fun i => [((d i : Nat) : Int)]) nd) [flip63 (np : Int)])
    generalize hY2 : X0 ++ catN (fun i => [((d i : Nat) : Int)]) nd ++ [flip63 (np : Int)] = Y2 at *
    have HY2 := Lib.hid hY2
    clear hY2
    generalize acc (X0 ++ catN (fun i => [((d i : Nat) : Int)]) nd) = A at *
    generalize acc [flip63 (np : Int)] = B at *
    go_wp2_with (go_at_call 16; refine (HIn.out _).mono ?_; rintro e w2 ⟨rfl, hb2⟩; have W2 := Lib.hid (bthen HL.out hb2); clear hb2)
    clear x0 x1 x2 x3 x4 x5 bb
    go_loopw [3, 5] (fun o i wr => ∃ j : Nat, j ≤ np ∧ i = .int .i64 j ∧ o = .string (acc (Y2 ++ catN (fun i => prW (pr i) (pl i)) j)) ∧ Below w0.heap.size w0 wr) (fun _ i _ => np - (intOf i).toNat)
    case atStart => exact ⟨0, Nat.zero_le _, rfl, by rw [show Y2 ++ catN (fun i => prW (pr i) (pl i)) 0 = Y2 from List.append_nil _]; exact congrArg Value.string ES.out, W2.out⟩
    case round =>
      obtain ⟨j, hj, rfl, rfl, hl⟩ := hrel
      have HL2 := Lib.hid hl
      obtain ⟨_, x0, x1, x2, x3, x4, x5⟩ := HX.out.below hl
      by_cases hlt : j < np
      · obtain ⟨g, ⟨ao, cap, ee, _, _, h3⟩, hg⟩ := P.out
        cases ee
        obtain ⟨b, o, rfl, hA⟩ := h3 (by omega)
        have CA := Lib.hid (hA.below HA.out)
        have c0 := (CA.out.below hl).one j hlt
        dsimp only [gV] at c0
        have hs := (hg j hlt).below HA.out
        obtain ⟨aj, capj, ej, _, hcap, hj3⟩ := hs
        have EJ := Lib.hid ej
        rw [ej] at c0
        have HIn := Lib.hid (HI.out ((pl j : Nat) : Int))
        have h48 := C5.out j hlt
        have LZ : Hid ((Y2 ++ catN (fun i => prW (pr i) (pl i)) j ++ [flip63 ((pl j : Nat) : Int)]).length ≤ 10000) := by show _ ≤ _; have := LP.out j (by omega); have := LX.out; simp only [List.length_append, List.length_cons, List.length_nil]; omega
        have bb : ¬ 9223372036854775807 < (acc (Y2 ++ catN (fun i => prW (pr i) (pl i)) j)).size + (acc [flip63 ((pl j : Nat) : Int)]).size := by have := LZ.out; simp only [List.length_append, List.length_cons, List.length_nil] at this; rw [AS.out, AS.out]; simp only [List.length_append, List.length_cons, List.length_nil]; omega
        have ES2 := Lib.hid (AA.out (Y2 ++ catN (fun i => prW (pr i) (pl i)) j) [flip63 ((pl j : Nat) : Int)])
        have EN : Hid (Y2 ++ catN (fun i => prW (pr i) (pl i)) j ++ [flip63 ((pl j : Nat) : Int)] ++ catN (fun k => insW (pr j k)) (pl j) = Y2 ++ catN (fun i => prW (pr i) (pl i)) (j + 1)) := by
          show _ = _
          show _ = Y2 ++ (catN (fun i => prW (pr i) (pl i)) j ++ prW (pr j) (pl j))
          unfold prW lsW
          simp
        have H3 : Hid (∀ wr, Below w0.heap.size w0 wr → 0 < pl j → ∃ b o, aj = some ⟨b, o, none⟩ ∧ At 4 (gI (pr j)) (pl j) b o wr) := fun wr k h0 => by
          obtain ⟨b, o, e1, e2⟩ := hj3 h0
          exact ⟨b, o, e1, e2.below k⟩
        clear hA h3 hg hj3 ej hl
        generalize hZ : Y2 ++ catN (fun i => prW (pr i) (pl i)) j ++ [flip63 ((pl j : Nat) : Int)] = Z at *
        clear hZ
        generalize acc (Y2 ++ catN (fun i => prW (pr i) (pl i)) j) = A at *
        generalize acc [flip63 ((pl j : Nat) : Int)] = B at *
        generalize pr j = f at *
        generalize pl j = n at *
        have n5 : n ≤ 9223372036854775807 := by omega
        go_wp2_with (go_at_call 16; refine (HIn.out _).mono ?_; rintro e w3 ⟨rfl, hb3⟩; have W3 := Lib.hid (bthen HL2.out hb3); clear hb3)
        clear x0 x1 x2 x3 x4 x5 bb c0
        go_loopw [3, 6] (fun o i wr => ∃ k : Nat, k ≤ n ∧ i = .int .i64 k ∧ o = .string (acc (Z ++ catN (fun k => insW (f k)) k)) ∧ Below w0.heap.size w0 wr) (fun _ i _ => n - (intOf i).toNat)
        case atStart => exact ⟨0, Nat.zero_le _, rfl, by rw [show Z ++ catN (fun k => insW (f k)) 0 = Z from List.append_nil _]; exact congrArg Value.string ES2.out, W3.out⟩
        case round =>
          obtain ⟨k, hk, rfl, rfl, hlk⟩ := hrel
          have HLk := Lib.hid hlk
          obtain ⟨_, x0, x1, x2, x3, x4, x5⟩ := HX.out.below hlk
          have c0 := (CA.out.below hlk).one j hlt
          dsimp only [gV] at c0
          rw [EJ.out] at c0
          by_cases hltk : k < n
          · obtain ⟨bj, oj, rfl, hAj⟩ := H3.out _ hlk (by omega)
            obtain ⟨_, y0, y1, y2, y3⟩ := hAj.box4 k hltk
            have bb : ¬ 9223372036854775807 < (acc (Z ++ catN (fun k => insW (f k)) k)).size + (acc (insW (f k))).size := by
              have h1 := catN_le (f := fun k => insW (f k)) (n := n) (j := k) (L := 4) (fun i hi => by simp [insW]) (by omega) h48
              have := LZ.out
              have h2 : (insW (f k)).length = 4 := rfl
              rw [AS.out, AS.out, List.length_append, h2]
              omega
            have ES3 : Hid (acc (Z ++ catN (fun k => insW (f k)) k) ++ acc (insW (f k)) = acc (Z ++ catN (fun k => insW (f k)) (k + 1))) := by show _ = _; rw [AA.out, List.append_assoc]; rfl
            clear hAj hlk
            generalize acc (Z ++ catN (fun k => insW (f k)) k) = A2 at *
            generalize hq : f k = q at y0 y1 y2 y3 bb ES3
            have H4 := Lib.hid (fun w B hB => ints6_four q.op q.a q.b q.c w B hB)
            have E4 : Hid (acc (insW ⟨q.op, q.a, q.b, q.c⟩) = acc (insW q)) := rfl
            rw [E4.out] at H4
            clear hq E4
            generalize acc (insW q) = B2 at *
            obtain ⟨q0, q1, q2, q3⟩ := q
            dsimp only at y0 y1 y2 y3 H4
            go_wp2_with fail
            refine (H4.out _ _ (World.size_alloc _ _)).mono ?_
            rintro e w4 ⟨rfl, hb4⟩
            have W4 := Lib.hid (bthen (bthen HLk.out (balloc _ _)) hb4)
            clear hb4
            go_wp2_with fail
            go_roundw
            case rel => exact ⟨k + 1, by omega, by go_num, congrArg Value.string ES3.out, W4.out⟩
            case measure => simp [intOf]; omega
          obtain rfl : n = k := by omega
          clear hltk hk hlk
          go_wp2_with fail
          go_roundw
          case rel => exact ⟨j + 1, by omega, by go_num, by rw [EN.out], HLk.out⟩
          case measure => simp [intOf]; omega
      obtain rfl : np = j := by omega
      clear hlt hj hl
      have HIn := Lib.hid (HI.out (nl : Int))
      have LX4 : Hid ((Y2 ++ catN (fun i => prW (pr i) (pl i)) np ++ [flip63 (nl : Int)]).length ≤ 10000) := by show _ ≤ _; have := LP.out np (by omega); have := LX.out; simp only [List.length_append, List.length_cons, List.length_nil]; omega
      have bb : ¬ 9223372036854775807 < (acc (Y2 ++ catN (fun i => prW (pr i) (pl i)) np)).size + (acc [flip63 (nl : Int)]).size := by have := LX4.out; simp only [List.length_append, List.length_cons, List.length_nil] at this; rw [AS.out, AS.out]; simp only [List.length_append, List.length_cons, List.length_nil]; omega
      have ES4 := Lib.hid (AA.out (Y2 ++ catN (fun i => prW (pr i) (pl i)) np) [flip63 (nl : Int)])
      generalize hY4 : Y2 ++ catN (fun i => prW (pr i) (pl i)) np ++ [flip63 (nl : Int)] = Y4 at *
      have HY4 := Lib.hid hY4
      clear hY4
      generalize acc (Y2 ++ catN (fun i => prW (pr i) (pl i)) np) = A at *
      generalize acc [flip63 (nl : Int)] = B at *
      go_wp2_with (go_at_call 16; refine (HIn.out _).mono ?_; rintro e v4 ⟨rfl, hb4⟩; have W4 := Lib.hid (bthen HL2.out hb4); clear hb4)
      clear x0 x1 x2 x3 x4 x5 bb
      go_loopw [3, 8] (fun o i wr => ∃ j : Nat, j ≤ nl ∧ i = .int .i64 j ∧ o = .string (acc (Y4 ++ catN (fun i => lpW (lp i) (wd i) (wl i)) j)) ∧ Below w0.heap.size w0 wr) (fun _ i _ => nl - (intOf i).toNat)
      case atStart => exact ⟨0, Nat.zero_le _, rfl, by rw [show Y4 ++ catN (fun i => lpW (lp i) (wd i) (wl i)) 0 = Y4 from List.append_nil _]; exact congrArg Value.string ES4.out, W4.out⟩
      case round =>
        obtain ⟨j, hj, rfl, rfl, hl⟩ := hrel
        have HL4 := Lib.hid hl
        obtain ⟨_, x0, x1, x2, x3, x4, x5⟩ := HX.out.below hl
        by_cases hlt : j < nl
        · obtain ⟨g, ⟨ao, cap, ee, _, _, h3⟩, hg⟩ := L.out
          cases ee
          obtain ⟨b, o, rfl, hA⟩ := h3 (by omega)
          have hs := (hg j hlt).below HA.out
          have HS := Lib.hid hs
          obtain ⟨aj, capj, ej, _, hcap, _⟩ := hs
          have h48 := C6.out j hlt
          have HC : Hid (∀ wr, Below w0.heap.size w0 wr → wr.cell? ⟨b, o + j * 2, none⟩ = some (.int .i64 (lp j)) ∧ wr.cell? ⟨b, o + j * 2 + 1, none⟩ = some (.slice aj (wl j) capj)) := fun wr k => by
            obtain ⟨z0, z1⟩ := ((hA.below HA.out).below k).two j hlt
            dsimp only [gL] at z0 z1
            rw [ej] at z1
            exact ⟨z0, z1⟩
          rw [ej] at HS
          have H2 := Lib.hid (fun w => ints6_two (lp j) ((wl j : Nat) : Int) w)
          have HW := Lib.hid (fun wr (k : Below w0.heap.size w0 wr) => ints6_any (wd j) (wl j) (by omega) _ wr (HS.out.below k))
          have ES5 : Hid (acc (Y4 ++ catN (fun i => lpW (lp i) (wd i) (wl i)) j) ++ acc [flip63 (lp j), flip63 ((wl j : Nat) : Int)] ++ acc (catN (fun k => [flip63 (wd j k)]) (wl j)) = acc (Y4 ++ catN (fun i => lpW (lp i) (wd i) (wl i)) (j + 1))) := by
            show _ = _
            rw [AA.out, AA.out]
            show _ = acc (Y4 ++ (catN (fun i => lpW (lp i) (wd i) (wl i)) j ++ lpW (lp j) (wd j) (wl j)))
            unfold lpW wdW lsW
            simp
          have LB : Hid ((acc (Y4 ++ catN (fun i => lpW (lp i) (wd i) (wl i)) j)).size + (acc [flip63 (lp j), flip63 ((wl j : Nat) : Int)]).size + (acc (catN (fun k => [flip63 (wd j k)]) (wl j))).size ≤ 1000000) := by
            show _ ≤ _
            have h1 := LL.out j (by omega)
            have h2 := LX4.out
            have h3 := words_len (wd j) (wl j)
            rw [AS.out, AS.out, AS.out, h3]
            simp only [List.length_append, List.length_cons, List.length_nil]
            omega
          have bb1 : ¬ 9223372036854775807 < (acc (Y4 ++ catN (fun i => lpW (lp i) (wd i) (wl i)) j)).size + (acc [flip63 (lp j), flip63 ((wl j : Nat) : Int)]).size := by have := LB.out; omega
          have bb2 : ¬ 9223372036854775807 < (acc (Y4 ++ catN (fun i => lpW (lp i) (wd i) (wl i)) j)).size + (acc [flip63 (lp j), flip63 ((wl j : Nat) : Int)]).size + (acc (catN (fun k => [flip63 (wd j k)]) (wl j))).size := by have := LB.out; omega
          clear hA h3 hg ej HS
          have HW : Hid (∀ wr, Below w0.heap.size w0 wr → Calls Try.prog 29 #[.slice aj (wl j) capj] wr fun e w' => e = .returned (.string (acc (catN (fun k => [flip63 (wd j k)]) (wl j)))) ∧ Below wr.heap.size wr w') := HW.out
          generalize acc (Y4 ++ catN (fun i => lpW (lp i) (wd i) (wl i)) j) = A at *
          generalize acc [flip63 (lp j), flip63 ((wl j : Nat) : Int)] = B at *
          generalize acc (catN (fun k => [flip63 (wd j k)]) (wl j)) = B2 at *
          generalize lp j = p at *
          generalize wl j = n at *
          have n5 : n ≤ 9223372036854775807 := by omega
          have ji : ((j : Int)).toNat = j := Int.toNat_natCast j
          go_wp2_with fail
          have U0 := Lib.hid (bthen HL4.out (bdrew _))
          obtain ⟨z0, z1⟩ := HC.out _ HL4.out
          refine wp_region_held_drew (S := fun w' => w'.cell? ⟨w.heap.size, 4, none⟩ = some (.slice (some ⟨b, o, none⟩) nl cl) ∧ w'.cell? ⟨b, o + j * 2, none⟩ = some (.int .i64 p) ∧ w'.cell? ⟨b, o + j * 2 + 1, none⟩ = some (.slice aj n capj)) (by kernel_rfl) ?_ (fun hHeld => ?_)
          · exact ⟨x4, z0, z1⟩
          generalize wr.drew = wz at *
          first
            | (refine wpAnyH_take (i := 0) (oi := ⟨_, _, _, _, _, _⟩) (v := undef) rfl (by kernel_rfl) (by kernel_rfl) (by kernel_rfl) (fun _ _ _ h => h) (Or.inr ⟨by rfl, rfl⟩) (by assumption) ?_
               try simp only [Act.put, List.setIfInBounds_toArray, List.set_cons_zero, List.set_cons_succ])
            | (refine wpAnyH_take (i := 0) (oi := ⟨_, _, _, _, _, _⟩) (v := ?_) rfl (by kernel_rfl) (by kernel_rfl) (by kernel_rfl) (fun _ _ _ h => h) (Or.inl ⟨by rfl, ?_⟩) (by assumption) ?_
               rotate_left
               · intro w5 hSw
                 try dsimp only at hSw
                 go_simp
                 try with_reducible rfl
               try simp only [Act.put, List.setIfInBounds_toArray, List.set_cons_zero, List.set_cons_succ])
          first
            | (refine wpAnyH_take (i := 1) (oi := ⟨_, _, _, _, _, _⟩) (v := undef) rfl (by kernel_rfl) (by kernel_rfl) (by kernel_rfl) (fun _ _ _ h => h) (Or.inr ⟨by rfl, rfl⟩) (by assumption) ?_
               try simp only [Act.put, List.setIfInBounds_toArray, List.set_cons_zero, List.set_cons_succ])
            | (refine wpAnyH_take (i := 1) (oi := ⟨_, _, _, _, _, _⟩) (v := ?_) rfl (by kernel_rfl) (by kernel_rfl) (by kernel_rfl) (fun _ _ _ h => h) (Or.inl ⟨by rfl, ?_⟩) (by assumption) ?_
               rotate_left
               · intro w5 hSw
                 try dsimp only at hSw
                 go_simp
                 try with_reducible rfl
               try simp only [Act.put, List.setIfInBounds_toArray, List.set_cons_zero, List.set_cons_succ])
          first
            | (refine wpAnyH_take (i := 2) (oi := ⟨_, _, _, _, _, _⟩) (v := undef) rfl (by kernel_rfl) (by kernel_rfl) (by kernel_rfl) (fun _ _ _ h => h) (Or.inr ⟨by rfl, rfl⟩) (by assumption) ?_
               try simp only [Act.put, List.setIfInBounds_toArray, List.set_cons_zero, List.set_cons_succ])
            | (refine wpAnyH_take (i := 2) (oi := ⟨_, _, _, _, _, _⟩) (v := ?_) rfl (by kernel_rfl) (by kernel_rfl) (by kernel_rfl) (fun _ _ _ h => h) (Or.inl ⟨by rfl, ?_⟩) (by assumption) ?_
               rotate_left
               · intro w5 hSw
                 try dsimp only at hSw
                 go_simp
                 try with_reducible rfl
               try simp only [Act.put, List.setIfInBounds_toArray, List.set_cons_zero, List.set_cons_succ])
          first
            | (refine wpAnyH_take (i := 3) (oi := ⟨_, _, _, _, _, _⟩) (v := undef) rfl (by kernel_rfl) (by kernel_rfl) (by kernel_rfl) (fun _ _ _ h => h) (Or.inr ⟨by rfl, rfl⟩) (by assumption) ?_
               try simp only [Act.put, List.setIfInBounds_toArray, List.set_cons_zero, List.set_cons_succ])
            | (refine wpAnyH_take (i := 3) (oi := ⟨_, _, _, _, _, _⟩) (v := ?_) rfl (by kernel_rfl) (by kernel_rfl) (by kernel_rfl) (fun _ _ _ h => h) (Or.inl ⟨by rfl, ?_⟩) (by assumption) ?_
               rotate_left
               · intro w5 hSw
                 try dsimp only at hSw
                 go_simp
                 try with_reducible rfl
               try simp only [Act.put, List.setIfInBounds_toArray, List.set_cons_zero, List.set_cons_succ])
          first
            | (refine wpAnyH_take (i := 4) (oi := ⟨_, _, _, _, _, _⟩) (v := undef) rfl (by kernel_rfl) (by kernel_rfl) (by kernel_rfl) (fun _ _ _ h => h) (Or.inr ⟨by rfl, rfl⟩) (by assumption) ?_
               try simp only [Act.put, List.setIfInBounds_toArray, List.set_cons_zero, List.set_cons_succ])
            | (refine wpAnyH_take (i := 4) (oi := ⟨_, _, _, _, _, _⟩) (v := ?_) rfl (by kernel_rfl) (by kernel_rfl) (by kernel_rfl) (fun _ _ _ h => h) (Or.inl ⟨by rfl, ?_⟩) (by assumption) ?_
               rotate_left
               · intro w5 hSw
                 try dsimp only at hSw
                 go_simp
                 try with_reducible rfl
               try simp only [Act.put, List.setIfInBounds_toArray, List.set_cons_zero, List.set_cons_succ])
          first
            | (refine wpAnyH_take (i := 5) (oi := ⟨_, _, _, _, _, _⟩) (v := undef) rfl (by kernel_rfl) (by kernel_rfl) (by kernel_rfl) (fun _ _ _ h => h) (Or.inr ⟨by rfl, rfl⟩) (by assumption) ?_
               try simp only [Act.put, List.setIfInBounds_toArray, List.set_cons_zero, List.set_cons_succ])
            | (refine wpAnyH_take (i := 5) (oi := ⟨_, _, _, _, _, _⟩) (v := ?_) rfl (by kernel_rfl) (by kernel_rfl) (by kernel_rfl) (fun _ _ _ h => h) (Or.inl ⟨by rfl, ?_⟩) (by assumption) ?_
               rotate_left
               · intro w5 hSw
                 try dsimp only at hSw
                 go_simp
                 try with_reducible rfl
               try simp only [Act.put, List.setIfInBounds_toArray, List.set_cons_zero, List.set_cons_succ])
          first
            | (refine wpAnyH_take (i := 6) (oi := ⟨_, _, _, _, _, _⟩) (v := undef) rfl (by kernel_rfl) (by kernel_rfl) (by kernel_rfl) (fun _ _ _ h => h) (Or.inr ⟨by rfl, rfl⟩) (by assumption) ?_
               try simp only [Act.put, List.setIfInBounds_toArray, List.set_cons_zero, List.set_cons_succ])
            | (refine wpAnyH_take (i := 6) (oi := ⟨_, _, _, _, _, _⟩) (v := ?_) rfl (by kernel_rfl) (by kernel_rfl) (by kernel_rfl) (fun _ _ _ h => h) (Or.inl ⟨by rfl, ?_⟩) (by assumption) ?_
               rotate_left
               · intro w5 hSw
                 try dsimp only at hSw
                 go_simp
                 try with_reducible rfl
               try simp only [Act.put, List.setIfInBounds_toArray, List.set_cons_zero, List.set_cons_succ])
          first
            | (refine wpAnyH_take (i := 7) (oi := ⟨_, _, _, _, _, _⟩) (v := undef) rfl (by kernel_rfl) (by kernel_rfl) (by kernel_rfl) (fun _ _ _ h => h) (Or.inr ⟨by rfl, rfl⟩) (by assumption) ?_
               try simp only [Act.put, List.setIfInBounds_toArray, List.set_cons_zero, List.set_cons_succ])
            | (refine wpAnyH_take (i := 7) (oi := ⟨_, _, _, _, _, _⟩) (v := ?_) rfl (by kernel_rfl) (by kernel_rfl) (by kernel_rfl) (fun _ _ _ h => h) (Or.inl ⟨by rfl, ?_⟩) (by assumption) ?_
               rotate_left
               · intro w5 hSw
                 try dsimp only at hSw
                 go_simp
                 try with_reducible rfl
               try simp only [Act.put, List.setIfInBounds_toArray, List.set_cons_zero, List.set_cons_succ])
          first
            | (refine wpAnyH_take (i := 8) (oi := ⟨_, _, _, _, _, _⟩) (v := undef) rfl (by kernel_rfl) (by kernel_rfl) (by kernel_rfl) (fun _ _ _ h => h) (Or.inr ⟨by rfl, rfl⟩) (by assumption) ?_
               try simp only [Act.put, List.setIfInBounds_toArray, List.set_cons_zero, List.set_cons_succ])
            | (refine wpAnyH_take (i := 8) (oi := ⟨_, _, _, _, _, _⟩) (v := ?_) rfl (by kernel_rfl) (by kernel_rfl) (by kernel_rfl) (fun _ _ _ h => h) (Or.inl ⟨by rfl, ?_⟩) (by assumption) ?_
               rotate_left
               · intro w5 hSw
                 try dsimp only at hSw
                 go_simp
                 try with_reducible rfl
               try simp only [Act.put, List.setIfInBounds_toArray, List.set_cons_zero, List.set_cons_succ])
          first
            | (refine wpAnyH_take (i := 9) (oi := ⟨_, _, _, _, _, _⟩) (v := undef) rfl (by kernel_rfl) (by kernel_rfl) (by kernel_rfl) (fun _ _ _ h => h) (Or.inr ⟨by rfl, rfl⟩) (by assumption) ?_
               try simp only [Act.put, List.setIfInBounds_toArray, List.set_cons_zero, List.set_cons_succ])
            | (refine wpAnyH_take (i := 9) (oi := ⟨_, _, _, _, _, _⟩) (v := ?_) rfl (by kernel_rfl) (by kernel_rfl) (by kernel_rfl) (fun _ _ _ h => h) (Or.inl ⟨by rfl, ?_⟩) (by assumption) ?_
               rotate_left
               · intro w5 hSw
                 try dsimp only at hSw
                 go_simp
                 try with_reducible rfl
               try simp only [Act.put, List.setIfInBounds_toArray, List.set_cons_zero, List.set_cons_succ])
          first
            | (refine wpAnyH_take (i := 10) (oi := ⟨_, _, _, _, _, _⟩) (v := undef) rfl (by kernel_rfl) (by kernel_rfl) (by kernel_rfl) (fun _ _ _ h => h) (Or.inr ⟨by rfl, rfl⟩) (by assumption) ?_
               try simp only [Act.put, List.setIfInBounds_toArray, List.set_cons_zero, List.set_cons_succ])
            | (refine wpAnyH_take (i := 10) (oi := ⟨_, _, _, _, _, _⟩) (v := ?_) rfl (by kernel_rfl) (by kernel_rfl) (by kernel_rfl) (fun _ _ _ h => h) (Or.inl ⟨by rfl, ?_⟩) (by assumption) ?_
               rotate_left
               · intro w5 hSw
                 try dsimp only at hSw
                 go_simp
                 try with_reducible rfl
               try simp only [Act.put, List.setIfInBounds_toArray, List.set_cons_zero, List.set_cons_succ])
          first
            | (refine wpAnyH_take (i := 11) (oi := ⟨_, _, _, _, _, _⟩) (v := undef) rfl (by kernel_rfl) (by kernel_rfl) (by kernel_rfl) (fun _ _ _ h => h) (Or.inr ⟨by rfl, rfl⟩) (by assumption) ?_
               try simp only [Act.put, List.setIfInBounds_toArray, List.set_cons_zero, List.set_cons_succ])
            | (refine wpAnyH_take (i := 11) (oi := ⟨_, _, _, _, _, _⟩) (v := ?_) rfl (by kernel_rfl) (by kernel_rfl) (by kernel_rfl) (fun _ _ _ h => h) (Or.inl ⟨by rfl, ?_⟩) (by assumption) ?_
               rotate_left
               · intro w5 hSw
                 try dsimp only at hSw
                 go_simp
                 try with_reducible rfl
               try simp only [Act.put, List.setIfInBounds_toArray, List.set_cons_zero, List.set_cons_succ])
          first
            | (refine wpAnyH_take (i := 12) (oi := ⟨_, _, _, _, _, _⟩) (v := undef) rfl (by kernel_rfl) (by kernel_rfl) (by kernel_rfl) (fun _ _ _ h => h) (Or.inr ⟨by rfl, rfl⟩) (by assumption) ?_
               try simp only [Act.put, List.setIfInBounds_toArray, List.set_cons_zero, List.set_cons_succ])
            | (refine wpAnyH_take (i := 12) (oi := ⟨_, _, _, _, _, _⟩) (v := ?_) rfl (by kernel_rfl) (by kernel_rfl) (by kernel_rfl) (fun _ _ _ h => h) (Or.inl ⟨by rfl, ?_⟩) (by assumption) ?_
               rotate_left
               · intro w5 hSw
                 try dsimp only at hSw
                 go_simp
                 try with_reducible rfl
               try simp only [Act.put, List.setIfInBounds_toArray, List.set_cons_zero, List.set_cons_succ])
          first
            | (refine wpAnyH_take (i := 13) (oi := ⟨_, _, _, _, _, _⟩) (v := undef) rfl (by kernel_rfl) (by kernel_rfl) (by kernel_rfl) (fun _ _ _ h => h) (Or.inr ⟨by rfl, rfl⟩) (by assumption) ?_
               try simp only [Act.put, List.setIfInBounds_toArray, List.set_cons_zero, List.set_cons_succ])
            | (refine wpAnyH_take (i := 13) (oi := ⟨_, _, _, _, _, _⟩) (v := ?_) rfl (by kernel_rfl) (by kernel_rfl) (by kernel_rfl) (fun _ _ _ h => h) (Or.inl ⟨by rfl, ?_⟩) (by assumption) ?_
               rotate_left
               · intro w5 hSw
                 try dsimp only at hSw
                 go_simp
                 try with_reducible rfl
               try simp only [Act.put, List.setIfInBounds_toArray, List.set_cons_zero, List.set_cons_succ])
          first
            | (refine wpAnyH_take (i := 17) (oi := ⟨_, _, _, _, _, _⟩) (v := undef) rfl (by kernel_rfl) (by kernel_rfl) (by kernel_rfl) (fun _ _ _ h => h) (Or.inr ⟨by rfl, rfl⟩) (by assumption) ?_
               try simp only [Act.put, List.setIfInBounds_toArray, List.set_cons_zero, List.set_cons_succ])
            | (refine wpAnyH_take (i := 17) (oi := ⟨_, _, _, _, _, _⟩) (v := ?_) rfl (by kernel_rfl) (by kernel_rfl) (by kernel_rfl) (fun _ _ _ h => h) (Or.inl ⟨by rfl, ?_⟩) (by assumption) ?_
               rotate_left
               · intro w5 hSw
                 try dsimp only at hSw
                 go_simp
                 try with_reducible rfl
               try simp only [Act.put, List.setIfInBounds_toArray, List.set_cons_zero, List.set_cons_succ])
          first
            | (refine wpAnyH_take (i := 18) (oi := ⟨_, _, _, _, _, _⟩) (v := undef) rfl (by kernel_rfl) (by kernel_rfl) (by kernel_rfl) (fun _ _ _ h => h) (Or.inr ⟨by rfl, rfl⟩) (by assumption) ?_
               try simp only [Act.put, List.setIfInBounds_toArray, List.set_cons_zero, List.set_cons_succ])
            | (refine wpAnyH_take (i := 18) (oi := ⟨_, _, _, _, _, _⟩) (v := ?_) rfl (by kernel_rfl) (by kernel_rfl) (by kernel_rfl) (fun _ _ _ h => h) (Or.inl ⟨by rfl, ?_⟩) (by assumption) ?_
               rotate_left
               · intro w5 hSw
                 try dsimp only at hSw
                 go_simp
                 try with_reducible rfl
               try simp only [Act.put, List.setIfInBounds_toArray, List.set_cons_zero, List.set_cons_succ])
          first
            | (refine wpAnyH_take (i := 19) (oi := ⟨_, _, _, _, _, _⟩) (v := undef) rfl (by kernel_rfl) (by kernel_rfl) (by kernel_rfl) (fun _ _ _ h => h) (Or.inr ⟨by rfl, rfl⟩) (by assumption) ?_
               try simp only [Act.put, List.setIfInBounds_toArray, List.set_cons_zero, List.set_cons_succ])
            | (refine wpAnyH_take (i := 19) (oi := ⟨_, _, _, _, _, _⟩) (v := ?_) rfl (by kernel_rfl) (by kernel_rfl) (by kernel_rfl) (fun _ _ _ h => h) (Or.inl ⟨by rfl, ?_⟩) (by assumption) ?_
               rotate_left
               · intro w5 hSw
                 try dsimp only at hSw
                 go_simp
                 try with_reducible rfl
               try simp only [Act.put, List.setIfInBounds_toArray, List.set_cons_zero, List.set_cons_succ])
          first
            | (refine wpAnyH_take (i := 20) (oi := ⟨_, _, _, _, _, _⟩) (v := undef) rfl (by kernel_rfl) (by kernel_rfl) (by kernel_rfl) (fun _ _ _ h => h) (Or.inr ⟨by rfl, rfl⟩) (by assumption) ?_
               try simp only [Act.put, List.setIfInBounds_toArray, List.set_cons_zero, List.set_cons_succ])
            | (refine wpAnyH_take (i := 20) (oi := ⟨_, _, _, _, _, _⟩) (v := ?_) rfl (by kernel_rfl) (by kernel_rfl) (by kernel_rfl) (fun _ _ _ h => h) (Or.inl ⟨by rfl, ?_⟩) (by assumption) ?_
               rotate_left
               · intro w5 hSw
                 try dsimp only at hSw
                 go_simp
                 try with_reducible rfl
               try simp only [Act.put, List.setIfInBounds_toArray, List.set_cons_zero, List.set_cons_succ])
          first
            | (refine wpAnyH_take (i := 21) (oi := ⟨_, _, _, _, _, _⟩) (v := undef) rfl (by kernel_rfl) (by kernel_rfl) (by kernel_rfl) (fun _ _ _ h => h) (Or.inr ⟨by rfl, rfl⟩) (by assumption) ?_
               try simp only [Act.put, List.setIfInBounds_toArray, List.set_cons_zero, List.set_cons_succ])
            | (refine wpAnyH_take (i := 21) (oi := ⟨_, _, _, _, _, _⟩) (v := ?_) rfl (by kernel_rfl) (by kernel_rfl) (by kernel_rfl) (fun _ _ _ h => h) (Or.inl ⟨by rfl, ?_⟩) (by assumption) ?_
               rotate_left
               · intro w5 hSw
                 try dsimp only at hSw
                 go_simp
                 try with_reducible rfl
               try simp only [Act.put, List.setIfInBounds_toArray, List.set_cons_zero, List.set_cons_succ])
          first
            | (refine wpAnyH_take (i := 22) (oi := ⟨_, _, _, _, _, _⟩) (v := undef) rfl (by kernel_rfl) (by kernel_rfl) (by kernel_rfl) (fun _ _ _ h => h) (Or.inr ⟨by rfl, rfl⟩) (by assumption) ?_
               try simp only [Act.put, List.setIfInBounds_toArray, List.set_cons_zero, List.set_cons_succ])
            | (refine wpAnyH_take (i := 22) (oi := ⟨_, _, _, _, _, _⟩) (v := ?_) rfl (by kernel_rfl) (by kernel_rfl) (by kernel_rfl) (fun _ _ _ h => h) (Or.inl ⟨by rfl, ?_⟩) (by assumption) ?_
               rotate_left
               · intro w5 hSw
                 try dsimp only at hSw
                 go_simp
                 try with_reducible rfl
               try simp only [Act.put, List.setIfInBounds_toArray, List.set_cons_zero, List.set_cons_succ])
          refine wpAnyH_ready (rs := [14]) (by kernel_rfl) (by simp) ?_
          refine AllReadyH.cons (o := ⟨_, _, _, _, _, _⟩) rfl (fun K hK => ?_) AllReadyH.nil
          go_simp
          refine hK.out _ _ ?_ (fun hHeld => ?_)
          · have U1 := Lib.hid (bthen U0.out (balloc _ (.cells #[.int .i64 p, .int .i64 (n : Int)] 3)))
            obtain ⟨_, _, _, _, _, p4, _⟩ := HX.out.below U1.out
            obtain ⟨z0, z1⟩ := HC.out _ U1.out
            exact ⟨p4, z0, z1⟩
          clear hK K
          try simp only [Act.put, List.setIfInBounds_toArray, List.set_cons_zero, List.set_cons_succ]
          refine wpAnyH_ready (rs := [15]) (by kernel_rfl) (by simp) ?_
          refine AllReadyH.cons (o := ⟨_, _, _, _, _, _⟩) rfl (fun K hK => ?_) AllReadyH.nil
          go_simp
          refine (H2.out _).mono ?_
          rintro e u2 ⟨rfl, hb2⟩
          have U2 := Lib.hid (bthen U0.out hb2)
          clear hb2
          refine hK.out _ _ ?_ (fun hHeld => ?_)
          · obtain ⟨_, _, _, _, _, p4, _⟩ := HX.out.below U2.out
            obtain ⟨z0, z1⟩ := HC.out _ U2.out
            exact ⟨p4, z0, z1⟩
          clear hK K
          try simp only [Act.put, List.setIfInBounds_toArray, List.set_cons_zero, List.set_cons_succ]
          first
            | (refine wpAnyH_take (i := 16) (oi := ⟨_, _, _, _, _, _⟩) (v := undef) rfl (by kernel_rfl) (by kernel_rfl) (by kernel_rfl) (fun _ _ _ h => h) (Or.inr ⟨by rfl, rfl⟩) (by assumption) ?_
               try simp only [Act.put, List.setIfInBounds_toArray, List.set_cons_zero, List.set_cons_succ])
            | (refine wpAnyH_take (i := 16) (oi := ⟨_, _, _, _, _, _⟩) (v := ?_) rfl (by kernel_rfl) (by kernel_rfl) (by kernel_rfl) (fun _ _ _ h => h) (Or.inl ⟨by rfl, ?_⟩) (by assumption) ?_
               rotate_left
               · intro w5 hSw
                 try dsimp only at hSw
                 go_simp
                 try with_reducible rfl
               try simp only [Act.put, List.setIfInBounds_toArray, List.set_cons_zero, List.set_cons_succ])
          refine wpAnyH_ready (rs := [23]) (by kernel_rfl) (by simp) ?_
          refine AllReadyH.cons (o := ⟨_, _, _, _, _, _⟩) rfl (fun K hK => ?_) AllReadyH.nil
          go_simp
          refine (HW.out _ U2.out).mono ?_
          rintro e u3 ⟨rfl, hb3⟩
          have U3 := Lib.hid (bthen U2.out hb3)
          clear hb3
          refine hK.out _ _ ?_ (fun hHeld => ?_)
          · obtain ⟨_, _, _, _, _, p4, _⟩ := HX.out.below U3.out
            obtain ⟨z0, z1⟩ := HC.out _ U3.out
            exact ⟨p4, z0, z1⟩
          clear hK K
          try simp only [Act.put, List.setIfInBounds_toArray, List.set_cons_zero, List.set_cons_succ]
          first
            | (refine wpAnyH_take (i := 24) (oi := ⟨_, _, _, _, _, _⟩) (v := undef) rfl (by kernel_rfl) (by kernel_rfl) (by kernel_rfl) (fun _ _ _ h => h) (Or.inr ⟨by rfl, rfl⟩) (by assumption) ?_
               try simp only [Act.put, List.setIfInBounds_toArray, List.set_cons_zero, List.set_cons_succ])
            | (refine wpAnyH_take (i := 24) (oi := ⟨_, _, _, _, _, _⟩) (v := ?_) rfl (by kernel_rfl) (by kernel_rfl) (by kernel_rfl) (fun _ _ _ h => h) (Or.inl ⟨by rfl, ?_⟩) (by assumption) ?_
               rotate_left
               · intro w5 hSw
                 try dsimp only at hSw
                 go_simp
                 try with_reducible rfl
               try simp only [Act.put, List.setIfInBounds_toArray, List.set_cons_zero, List.set_cons_succ])
          first
            | (refine wpAnyH_take (i := 25) (oi := ⟨_, _, _, _, _, _⟩) (v := undef) rfl (by kernel_rfl) (by kernel_rfl) (by kernel_rfl) (fun _ _ _ h => h) (Or.inr ⟨by rfl, rfl⟩) (by assumption) ?_
               try simp only [Act.put, List.setIfInBounds_toArray, List.set_cons_zero, List.set_cons_succ])
            | (refine wpAnyH_take (i := 25) (oi := ⟨_, _, _, _, _, _⟩) (v := ?_) rfl (by kernel_rfl) (by kernel_rfl) (by kernel_rfl) (fun _ _ _ h => h) (Or.inl ⟨by rfl, ?_⟩) (by assumption) ?_
               rotate_left
               · intro w5 hSw
                 try dsimp only at hSw
                 go_simp
                 try with_reducible rfl
               try simp only [Act.put, List.setIfInBounds_toArray, List.set_cons_zero, List.set_cons_succ])
          refine wpAnyH_done (by kernel_rfl) ?_ _
          clear hHeld z0 z1 x0 x1 x2 x3 x4 x5
          go_wp2_with fail
          go_roundw
          case rel => exact ⟨j + 1, by omega, by go_num, by first | exact congrArg Value.string ES5.out | exact congrArg Value.string ((ByteArray.append_assoc ..).symm.trans ES5.out), U3.out⟩
          case measure => simp [intOf]; omega
        obtain rfl : nl = j := by omega
        clear hlt hj hl
        have HIn := Lib.hid (HI.out (ni : Int))
        have LX6 : Hid ((Y4 ++ catN (fun i => lpW (lp i) (wd i) (wl i)) nl ++ [flip63 (ni : Int)]).length ≤ 20000) := by show _ ≤ _; have := LL.out nl (by omega); have := LX4.out; simp only [List.length_append, List.length_cons, List.length_nil]; omega
        have bb : ¬ 9223372036854775807 < (acc (Y4 ++ catN (fun i => lpW (lp i) (wd i) (wl i)) nl)).size + (acc [flip63 (ni : Int)]).size := by have := LX6.out; simp only [List.length_append, List.length_cons, List.length_nil] at this; rw [AS.out, AS.out]; simp only [List.length_append, List.length_cons, List.length_nil]; omega
        have ES6 := Lib.hid (AA.out (Y4 ++ catN (fun i => lpW (lp i) (wd i) (wl i)) nl) [flip63 (ni : Int)])
        generalize hY6 : Y4 ++ catN (fun i => lpW (lp i) (wd i) (wl i)) nl ++ [flip63 (ni : Int)] = Y6 at *
        have HY6 := Lib.hid hY6
        clear hY6
        generalize acc (Y4 ++ catN (fun i => lpW (lp i) (wd i) (wl i)) nl) = A at *
        generalize acc [flip63 (ni : Int)] = B at *
        go_wp2_with (go_at_call 16; refine (HIn.out _).mono ?_; rintro e v6 ⟨rfl, hb6⟩; have W6 := Lib.hid (bthen HL4.out hb6); clear hb6)
        clear x0 x1 x2 x3 x4 x5 bb
        go_loopw [3, 9] (fun o i wr => ∃ j : Nat, j ≤ ni ∧ i = .int .i64 j ∧ o = .string (acc (Y6 ++ catN (fun i => evW (ev i)) j)) ∧ Below w0.heap.size w0 wr) (fun _ i _ => ni - (intOf i).toNat)
        case atStart => exact ⟨0, Nat.zero_le _, rfl, by rw [show Y6 ++ catN (fun i => evW (ev i)) 0 = Y6 from List.append_nil _]; exact congrArg Value.string ES6.out, W6.out⟩
        case round =>
          obtain ⟨j, hj, rfl, rfl, hl⟩ := hrel
          have HL6 := Lib.hid hl
          obtain ⟨_, x0, x1, x2, x3, x4, x5⟩ := HX.out.below hl
          by_cases hlt : j < ni
          · obtain ⟨ao, cap, ee, _, _, h3⟩ := I.out
            cases ee
            obtain ⟨b, o, rfl, hA⟩ := h3 (by omega)
            have HC : Hid (∀ wr, Below w0.heap.size w0 wr → wr.cell? ⟨b, o + j * 3, none⟩ = some (.float .f64 (ev j).t) ∧ wr.cell? ⟨b, o + j * 3 + 1, none⟩ = some (.int .i64 (ev j).dst) ∧ wr.cell? ⟨b, o + j * 3 + 2, none⟩ = some (.int .i64 (ev j).pay)) := fun wr k => ((hA.below HA.out).below k).three j hlt
            have HBj := Lib.hid (fun w => HB.out (ev j).t w (RE.out j hlt))
            have H2 := Lib.hid (fun w => ints6_two (ev j).dst (ev j).pay w)
            have HI2 : Hid (∀ (w w2 : World), Below (w.alloc (.cells #[.int .i64 (ev j).dst, .int .i64 (ev j).pay] 3)).heap.size (w.alloc (.cells #[.int .i64 (ev j).dst, .int .i64 (ev j).pay] 3)) w2 → Calls Try.prog 29 #[.slice (some ⟨w.heap.size, 0, none⟩) 2 2] w2 fun e w' => e = .returned (.string (acc [flip63 (ev j).dst, flip63 (ev j).pay])) ∧ Below w2.heap.size w2 w') := fun w w2 k => ints6_two_at (ev j).dst (ev j).pay w w2 k
            have ES5 : Hid (acc (Y6 ++ catN (fun i => evW (ev i)) j) ++ acc [((ev j).t : Int)] ++ acc [flip63 (ev j).dst, flip63 (ev j).pay] = acc (Y6 ++ catN (fun i => evW (ev i)) (j + 1))) := by
              show _ = _
              rw [AA.out, AA.out, List.append_assoc, List.append_assoc]
              rfl
            have LB : Hid ((acc (Y6 ++ catN (fun i => evW (ev i)) j)).size + (acc [((ev j).t : Int)]).size + (acc [flip63 (ev j).dst, flip63 (ev j).pay]).size ≤ 1000000) := by
              show _ ≤ _
              have h1 := LE.out j (by omega)
              have h2 := LX6.out
              rw [AS.out, AS.out, AS.out]
              simp only [List.length_append, List.length_cons, List.length_nil]
              omega
            have bb1 : ¬ 9223372036854775807 < (acc (Y6 ++ catN (fun i => evW (ev i)) j)).size + (acc [((ev j).t : Int)]).size := by have := LB.out; omega
            have bb2 : ¬ 9223372036854775807 < (acc (Y6 ++ catN (fun i => evW (ev i)) j)).size + (acc [((ev j).t : Int)]).size + (acc [flip63 (ev j).dst, flip63 (ev j).pay]).size := by have := LB.out; omega
            clear hA h3
            generalize acc (Y6 ++ catN (fun i => evW (ev i)) j) = A at *
            generalize acc [((ev j).t : Int)] = B at *
            generalize acc [flip63 (ev j).dst, flip63 (ev j).pay] = B2 at *
            generalize (ev j).t = t5 at *
            generalize (ev j).dst = q1 at *
            generalize (ev j).pay = q2 at *
            have ji : ((j : Int)).toNat = j := Int.toNat_natCast j
            go_wp2_with fail
            have U0 := Lib.hid (bthen HL6.out (bdrew _))
            obtain ⟨z0, z1, z2⟩ := HC.out _ HL6.out
            refine wp_region_held_drew (S := fun w' => w'.cell? ⟨w.heap.size, 5, none⟩ = some (.slice (some ⟨b, o, none⟩) ni ci) ∧ w'.cell? ⟨b, o + j * 3, none⟩ = some (.float .f64 t5) ∧ w'.cell? ⟨b, o + j * 3 + 1, none⟩ = some (.int .i64 q1) ∧ w'.cell? ⟨b, o + j * 3 + 2, none⟩ = some (.int .i64 q2)) (by kernel_rfl) ?_ (fun hHeld => ?_)
            · exact ⟨x5, z0, z1, z2⟩
            generalize wr.drew = wz at *
            first
              | (refine wpAnyH_take (i := 0) (oi := ⟨_, _, _, _, _, _⟩) (v := undef) rfl (by kernel_rfl) (by kernel_rfl) (by kernel_rfl) (fun _ _ _ h => h) (Or.inr ⟨by rfl, rfl⟩) (by assumption) ?_
                 try simp only [Act.put, List.setIfInBounds_toArray, List.set_cons_zero, List.set_cons_succ])
              | (refine wpAnyH_take (i := 0) (oi := ⟨_, _, _, _, _, _⟩) (v := ?_) rfl (by kernel_rfl) (by kernel_rfl) (by kernel_rfl) (fun _ _ _ h => h) (Or.inl ⟨by rfl, ?_⟩) (by assumption) ?_
                 rotate_left
                 · intro w5 hSw
                   try dsimp only at hSw
                   go_simp
                   try with_reducible rfl
                 try simp only [Act.put, List.setIfInBounds_toArray, List.set_cons_zero, List.set_cons_succ])
            first
              | (refine wpAnyH_take (i := 1) (oi := ⟨_, _, _, _, _, _⟩) (v := undef) rfl (by kernel_rfl) (by kernel_rfl) (by kernel_rfl) (fun _ _ _ h => h) (Or.inr ⟨by rfl, rfl⟩) (by assumption) ?_
                 try simp only [Act.put, List.setIfInBounds_toArray, List.set_cons_zero, List.set_cons_succ])
              | (refine wpAnyH_take (i := 1) (oi := ⟨_, _, _, _, _, _⟩) (v := ?_) rfl (by kernel_rfl) (by kernel_rfl) (by kernel_rfl) (fun _ _ _ h => h) (Or.inl ⟨by rfl, ?_⟩) (by assumption) ?_
                 rotate_left
                 · intro w5 hSw
                   try dsimp only at hSw
                   go_simp
                   try with_reducible rfl
                 try simp only [Act.put, List.setIfInBounds_toArray, List.set_cons_zero, List.set_cons_succ])
            first
              | (refine wpAnyH_take (i := 2) (oi := ⟨_, _, _, _, _, _⟩) (v := undef) rfl (by kernel_rfl) (by kernel_rfl) (by kernel_rfl) (fun _ _ _ h => h) (Or.inr ⟨by rfl, rfl⟩) (by assumption) ?_
                 try simp only [Act.put, List.setIfInBounds_toArray, List.set_cons_zero, List.set_cons_succ])
              | (refine wpAnyH_take (i := 2) (oi := ⟨_, _, _, _, _, _⟩) (v := ?_) rfl (by kernel_rfl) (by kernel_rfl) (by kernel_rfl) (fun _ _ _ h => h) (Or.inl ⟨by rfl, ?_⟩) (by assumption) ?_
                 rotate_left
                 · intro w5 hSw
                   try dsimp only at hSw
                   go_simp
                   try with_reducible rfl
                 try simp only [Act.put, List.setIfInBounds_toArray, List.set_cons_zero, List.set_cons_succ])
            first
              | (refine wpAnyH_take (i := 3) (oi := ⟨_, _, _, _, _, _⟩) (v := undef) rfl (by kernel_rfl) (by kernel_rfl) (by kernel_rfl) (fun _ _ _ h => h) (Or.inr ⟨by rfl, rfl⟩) (by assumption) ?_
                 try simp only [Act.put, List.setIfInBounds_toArray, List.set_cons_zero, List.set_cons_succ])
              | (refine wpAnyH_take (i := 3) (oi := ⟨_, _, _, _, _, _⟩) (v := ?_) rfl (by kernel_rfl) (by kernel_rfl) (by kernel_rfl) (fun _ _ _ h => h) (Or.inl ⟨by rfl, ?_⟩) (by assumption) ?_
                 rotate_left
                 · intro w5 hSw
                   try dsimp only at hSw
                   go_simp
                   try with_reducible rfl
                 try simp only [Act.put, List.setIfInBounds_toArray, List.set_cons_zero, List.set_cons_succ])
            first
              | (refine wpAnyH_take (i := 4) (oi := ⟨_, _, _, _, _, _⟩) (v := undef) rfl (by kernel_rfl) (by kernel_rfl) (by kernel_rfl) (fun _ _ _ h => h) (Or.inr ⟨by rfl, rfl⟩) (by assumption) ?_
                 try simp only [Act.put, List.setIfInBounds_toArray, List.set_cons_zero, List.set_cons_succ])
              | (refine wpAnyH_take (i := 4) (oi := ⟨_, _, _, _, _, _⟩) (v := ?_) rfl (by kernel_rfl) (by kernel_rfl) (by kernel_rfl) (fun _ _ _ h => h) (Or.inl ⟨by rfl, ?_⟩) (by assumption) ?_
                 rotate_left
                 · intro w5 hSw
                   try dsimp only at hSw
                   go_simp
                   try with_reducible rfl
                 try simp only [Act.put, List.setIfInBounds_toArray, List.set_cons_zero, List.set_cons_succ])
            first
              | (refine wpAnyH_take (i := 5) (oi := ⟨_, _, _, _, _, _⟩) (v := undef) rfl (by kernel_rfl) (by kernel_rfl) (by kernel_rfl) (fun _ _ _ h => h) (Or.inr ⟨by rfl, rfl⟩) (by assumption) ?_
                 try simp only [Act.put, List.setIfInBounds_toArray, List.set_cons_zero, List.set_cons_succ])
              | (refine wpAnyH_take (i := 5) (oi := ⟨_, _, _, _, _, _⟩) (v := ?_) rfl (by kernel_rfl) (by kernel_rfl) (by kernel_rfl) (fun _ _ _ h => h) (Or.inl ⟨by rfl, ?_⟩) (by assumption) ?_
                 rotate_left
                 · intro w5 hSw
                   try dsimp only at hSw
                   go_simp
                   try with_reducible rfl
                 try simp only [Act.put, List.setIfInBounds_toArray, List.set_cons_zero, List.set_cons_succ])
            first
              | (refine wpAnyH_take (i := 6) (oi := ⟨_, _, _, _, _, _⟩) (v := undef) rfl (by kernel_rfl) (by kernel_rfl) (by kernel_rfl) (fun _ _ _ h => h) (Or.inr ⟨by rfl, rfl⟩) (by assumption) ?_
                 try simp only [Act.put, List.setIfInBounds_toArray, List.set_cons_zero, List.set_cons_succ])
              | (refine wpAnyH_take (i := 6) (oi := ⟨_, _, _, _, _, _⟩) (v := ?_) rfl (by kernel_rfl) (by kernel_rfl) (by kernel_rfl) (fun _ _ _ h => h) (Or.inl ⟨by rfl, ?_⟩) (by assumption) ?_
                 rotate_left
                 · intro w5 hSw
                   try dsimp only at hSw
                   go_simp
                   try with_reducible rfl
                 try simp only [Act.put, List.setIfInBounds_toArray, List.set_cons_zero, List.set_cons_succ])
            first
              | (refine wpAnyH_take (i := 9) (oi := ⟨_, _, _, _, _, _⟩) (v := undef) rfl (by kernel_rfl) (by kernel_rfl) (by kernel_rfl) (fun _ _ _ h => h) (Or.inr ⟨by rfl, rfl⟩) (by assumption) ?_
                 try simp only [Act.put, List.setIfInBounds_toArray, List.set_cons_zero, List.set_cons_succ])
              | (refine wpAnyH_take (i := 9) (oi := ⟨_, _, _, _, _, _⟩) (v := ?_) rfl (by kernel_rfl) (by kernel_rfl) (by kernel_rfl) (fun _ _ _ h => h) (Or.inl ⟨by rfl, ?_⟩) (by assumption) ?_
                 rotate_left
                 · intro w5 hSw
                   try dsimp only at hSw
                   go_simp
                   try with_reducible rfl
                 try simp only [Act.put, List.setIfInBounds_toArray, List.set_cons_zero, List.set_cons_succ])
            first
              | (refine wpAnyH_take (i := 10) (oi := ⟨_, _, _, _, _, _⟩) (v := undef) rfl (by kernel_rfl) (by kernel_rfl) (by kernel_rfl) (fun _ _ _ h => h) (Or.inr ⟨by rfl, rfl⟩) (by assumption) ?_
                 try simp only [Act.put, List.setIfInBounds_toArray, List.set_cons_zero, List.set_cons_succ])
              | (refine wpAnyH_take (i := 10) (oi := ⟨_, _, _, _, _, _⟩) (v := ?_) rfl (by kernel_rfl) (by kernel_rfl) (by kernel_rfl) (fun _ _ _ h => h) (Or.inl ⟨by rfl, ?_⟩) (by assumption) ?_
                 rotate_left
                 · intro w5 hSw
                   try dsimp only at hSw
                   go_simp
                   try with_reducible rfl
                 try simp only [Act.put, List.setIfInBounds_toArray, List.set_cons_zero, List.set_cons_succ])
            first
              | (refine wpAnyH_take (i := 11) (oi := ⟨_, _, _, _, _, _⟩) (v := undef) rfl (by kernel_rfl) (by kernel_rfl) (by kernel_rfl) (fun _ _ _ h => h) (Or.inr ⟨by rfl, rfl⟩) (by assumption) ?_
                 try simp only [Act.put, List.setIfInBounds_toArray, List.set_cons_zero, List.set_cons_succ])
              | (refine wpAnyH_take (i := 11) (oi := ⟨_, _, _, _, _, _⟩) (v := ?_) rfl (by kernel_rfl) (by kernel_rfl) (by kernel_rfl) (fun _ _ _ h => h) (Or.inl ⟨by rfl, ?_⟩) (by assumption) ?_
                 rotate_left
                 · intro w5 hSw
                   try dsimp only at hSw
                   go_simp
                   try with_reducible rfl
                 try simp only [Act.put, List.setIfInBounds_toArray, List.set_cons_zero, List.set_cons_succ])
            first
              | (refine wpAnyH_take (i := 12) (oi := ⟨_, _, _, _, _, _⟩) (v := undef) rfl (by kernel_rfl) (by kernel_rfl) (by kernel_rfl) (fun _ _ _ h => h) (Or.inr ⟨by rfl, rfl⟩) (by assumption) ?_
                 try simp only [Act.put, List.setIfInBounds_toArray, List.set_cons_zero, List.set_cons_succ])
              | (refine wpAnyH_take (i := 12) (oi := ⟨_, _, _, _, _, _⟩) (v := ?_) rfl (by kernel_rfl) (by kernel_rfl) (by kernel_rfl) (fun _ _ _ h => h) (Or.inl ⟨by rfl, ?_⟩) (by assumption) ?_
                 rotate_left
                 · intro w5 hSw
                   try dsimp only at hSw
                   go_simp
                   try with_reducible rfl
                 try simp only [Act.put, List.setIfInBounds_toArray, List.set_cons_zero, List.set_cons_succ])
            first
              | (refine wpAnyH_take (i := 13) (oi := ⟨_, _, _, _, _, _⟩) (v := undef) rfl (by kernel_rfl) (by kernel_rfl) (by kernel_rfl) (fun _ _ _ h => h) (Or.inr ⟨by rfl, rfl⟩) (by assumption) ?_
                 try simp only [Act.put, List.setIfInBounds_toArray, List.set_cons_zero, List.set_cons_succ])
              | (refine wpAnyH_take (i := 13) (oi := ⟨_, _, _, _, _, _⟩) (v := ?_) rfl (by kernel_rfl) (by kernel_rfl) (by kernel_rfl) (fun _ _ _ h => h) (Or.inl ⟨by rfl, ?_⟩) (by assumption) ?_
                 rotate_left
                 · intro w5 hSw
                   try dsimp only at hSw
                   go_simp
                   try with_reducible rfl
                 try simp only [Act.put, List.setIfInBounds_toArray, List.set_cons_zero, List.set_cons_succ])
            first
              | (refine wpAnyH_take (i := 14) (oi := ⟨_, _, _, _, _, _⟩) (v := undef) rfl (by kernel_rfl) (by kernel_rfl) (by kernel_rfl) (fun _ _ _ h => h) (Or.inr ⟨by rfl, rfl⟩) (by assumption) ?_
                 try simp only [Act.put, List.setIfInBounds_toArray, List.set_cons_zero, List.set_cons_succ])
              | (refine wpAnyH_take (i := 14) (oi := ⟨_, _, _, _, _, _⟩) (v := ?_) rfl (by kernel_rfl) (by kernel_rfl) (by kernel_rfl) (fun _ _ _ h => h) (Or.inl ⟨by rfl, ?_⟩) (by assumption) ?_
                 rotate_left
                 · intro w5 hSw
                   try dsimp only at hSw
                   go_simp
                   try with_reducible rfl
                 try simp only [Act.put, List.setIfInBounds_toArray, List.set_cons_zero, List.set_cons_succ])
            first
              | (refine wpAnyH_take (i := 15) (oi := ⟨_, _, _, _, _, _⟩) (v := undef) rfl (by kernel_rfl) (by kernel_rfl) (by kernel_rfl) (fun _ _ _ h => h) (Or.inr ⟨by rfl, rfl⟩) (by assumption) ?_
                 try simp only [Act.put, List.setIfInBounds_toArray, List.set_cons_zero, List.set_cons_succ])
              | (refine wpAnyH_take (i := 15) (oi := ⟨_, _, _, _, _, _⟩) (v := ?_) rfl (by kernel_rfl) (by kernel_rfl) (by kernel_rfl) (fun _ _ _ h => h) (Or.inl ⟨by rfl, ?_⟩) (by assumption) ?_
                 rotate_left
                 · intro w5 hSw
                   try dsimp only at hSw
                   go_simp
                   try with_reducible rfl
                 try simp only [Act.put, List.setIfInBounds_toArray, List.set_cons_zero, List.set_cons_succ])
            first
              | (refine wpAnyH_take (i := 16) (oi := ⟨_, _, _, _, _, _⟩) (v := undef) rfl (by kernel_rfl) (by kernel_rfl) (by kernel_rfl) (fun _ _ _ h => h) (Or.inr ⟨by rfl, rfl⟩) (by assumption) ?_
                 try simp only [Act.put, List.setIfInBounds_toArray, List.set_cons_zero, List.set_cons_succ])
              | (refine wpAnyH_take (i := 16) (oi := ⟨_, _, _, _, _, _⟩) (v := ?_) rfl (by kernel_rfl) (by kernel_rfl) (by kernel_rfl) (fun _ _ _ h => h) (Or.inl ⟨by rfl, ?_⟩) (by assumption) ?_
                 rotate_left
                 · intro w5 hSw
                   try dsimp only at hSw
                   go_simp
                   try with_reducible rfl
                 try simp only [Act.put, List.setIfInBounds_toArray, List.set_cons_zero, List.set_cons_succ])
            first
              | (refine wpAnyH_take (i := 17) (oi := ⟨_, _, _, _, _, _⟩) (v := undef) rfl (by kernel_rfl) (by kernel_rfl) (by kernel_rfl) (fun _ _ _ h => h) (Or.inr ⟨by rfl, rfl⟩) (by assumption) ?_
                 try simp only [Act.put, List.setIfInBounds_toArray, List.set_cons_zero, List.set_cons_succ])
              | (refine wpAnyH_take (i := 17) (oi := ⟨_, _, _, _, _, _⟩) (v := ?_) rfl (by kernel_rfl) (by kernel_rfl) (by kernel_rfl) (fun _ _ _ h => h) (Or.inl ⟨by rfl, ?_⟩) (by assumption) ?_
                 rotate_left
                 · intro w5 hSw
                   try dsimp only at hSw
                   go_simp
                   try with_reducible rfl
                 try simp only [Act.put, List.setIfInBounds_toArray, List.set_cons_zero, List.set_cons_succ])
            first
              | (refine wpAnyH_take (i := 18) (oi := ⟨_, _, _, _, _, _⟩) (v := undef) rfl (by kernel_rfl) (by kernel_rfl) (by kernel_rfl) (fun _ _ _ h => h) (Or.inr ⟨by rfl, rfl⟩) (by assumption) ?_
                 try simp only [Act.put, List.setIfInBounds_toArray, List.set_cons_zero, List.set_cons_succ])
              | (refine wpAnyH_take (i := 18) (oi := ⟨_, _, _, _, _, _⟩) (v := ?_) rfl (by kernel_rfl) (by kernel_rfl) (by kernel_rfl) (fun _ _ _ h => h) (Or.inl ⟨by rfl, ?_⟩) (by assumption) ?_
                 rotate_left
                 · intro w5 hSw
                   try dsimp only at hSw
                   go_simp
                   try with_reducible rfl
                 try simp only [Act.put, List.setIfInBounds_toArray, List.set_cons_zero, List.set_cons_succ])
            first
              | (refine wpAnyH_take (i := 19) (oi := ⟨_, _, _, _, _, _⟩) (v := undef) rfl (by kernel_rfl) (by kernel_rfl) (by kernel_rfl) (fun _ _ _ h => h) (Or.inr ⟨by rfl, rfl⟩) (by assumption) ?_
                 try simp only [Act.put, List.setIfInBounds_toArray, List.set_cons_zero, List.set_cons_succ])
              | (refine wpAnyH_take (i := 19) (oi := ⟨_, _, _, _, _, _⟩) (v := ?_) rfl (by kernel_rfl) (by kernel_rfl) (by kernel_rfl) (fun _ _ _ h => h) (Or.inl ⟨by rfl, ?_⟩) (by assumption) ?_
                 rotate_left
                 · intro w5 hSw
                   try dsimp only at hSw
                   go_simp
                   try with_reducible rfl
                 try simp only [Act.put, List.setIfInBounds_toArray, List.set_cons_zero, List.set_cons_succ])
            first
              | (refine wpAnyH_take (i := 20) (oi := ⟨_, _, _, _, _, _⟩) (v := undef) rfl (by kernel_rfl) (by kernel_rfl) (by kernel_rfl) (fun _ _ _ h => h) (Or.inr ⟨by rfl, rfl⟩) (by assumption) ?_
                 try simp only [Act.put, List.setIfInBounds_toArray, List.set_cons_zero, List.set_cons_succ])
              | (refine wpAnyH_take (i := 20) (oi := ⟨_, _, _, _, _, _⟩) (v := ?_) rfl (by kernel_rfl) (by kernel_rfl) (by kernel_rfl) (fun _ _ _ h => h) (Or.inl ⟨by rfl, ?_⟩) (by assumption) ?_
                 rotate_left
                 · intro w5 hSw
                   try dsimp only at hSw
                   go_simp
                   try with_reducible rfl
                 try simp only [Act.put, List.setIfInBounds_toArray, List.set_cons_zero, List.set_cons_succ])
            refine wpAnyH_ready (rs := [7, 21]) (by kernel_rfl) (by simp) ?_
            refine AllReadyH.cons (o := ⟨_, _, _, _, _, _⟩) rfl (fun K hK => ?_) (AllReadyH.cons (o := ⟨_, _, _, _, _, _⟩) rfl (fun K hK => ?_) AllReadyH.nil)
            · go_simp
              go_at_call 28
              refine (HBj.out _).mono ?_
              rintro e u1 ⟨rfl, hb1⟩
              have U1 := Lib.hid (bthen U0.out hb1)
              clear hb1
              refine hK.out _ _ ?_ (fun hHeld => ?_)
              · obtain ⟨_, _, _, _, _, _, p5⟩ := HX.out.below U1.out
                obtain ⟨z0, z1, z2⟩ := HC.out _ U1.out
                exact ⟨p5, z0, z1, z2⟩
              clear hK K
              try simp only [Act.put, List.setIfInBounds_toArray, List.set_cons_zero, List.set_cons_succ]
              first
                | (refine wpAnyH_take (i := 8) (oi := ⟨_, _, _, _, _, _⟩) (v := undef) rfl (by kernel_rfl) (by kernel_rfl) (by kernel_rfl) (fun _ _ _ h => h) (Or.inr ⟨by rfl, rfl⟩) (by assumption) ?_
                   try simp only [Act.put, List.setIfInBounds_toArray, List.set_cons_zero, List.set_cons_succ])
                | (refine wpAnyH_take (i := 8) (oi := ⟨_, _, _, _, _, _⟩) (v := ?_) rfl (by kernel_rfl) (by kernel_rfl) (by kernel_rfl) (fun _ _ _ h => h) (Or.inl ⟨by rfl, ?_⟩) (by assumption) ?_
                   rotate_left
                   · intro w5 hSw
                     try dsimp only at hSw
                     go_simp
                     try with_reducible rfl
                   try simp only [Act.put, List.setIfInBounds_toArray, List.set_cons_zero, List.set_cons_succ])
              refine wpAnyH_ready (rs := [21]) (by kernel_rfl) (by simp) ?_
              refine AllReadyH.cons (o := ⟨_, _, _, _, _, _⟩) rfl (fun K hK => ?_) AllReadyH.nil
              go_simp
              refine hK.out _ _ ?_ (fun hHeld => ?_)
              · have U1a := Lib.hid (bthen U1.out (balloc _ (.cells #[.int .i64 q1, .int .i64 q2] 3)))
                obtain ⟨_, _, _, _, _, _, p5⟩ := HX.out.below U1a.out
                obtain ⟨z0, z1, z2⟩ := HC.out _ U1a.out
                exact ⟨p5, z0, z1, z2⟩
              clear hK K
              try simp only [Act.put, List.setIfInBounds_toArray, List.set_cons_zero, List.set_cons_succ]
              refine wpAnyH_ready (rs := [22]) (by kernel_rfl) (by simp) ?_
              refine AllReadyH.cons (o := ⟨_, _, _, _, _, _⟩) rfl (fun K hK => ?_) AllReadyH.nil
              go_simp
              refine (H2.out _).mono ?_
              rintro e u3 ⟨rfl, hb3⟩
              have U3 := Lib.hid (bthen U1.out hb3)
              clear hb3
              refine hK.out _ _ ?_ (fun hHeld => ?_)
              · obtain ⟨_, _, _, _, _, _, p5⟩ := HX.out.below U3.out
                obtain ⟨z0, z1, z2⟩ := HC.out _ U3.out
                exact ⟨p5, z0, z1, z2⟩
              clear hK K
              try simp only [Act.put, List.setIfInBounds_toArray, List.set_cons_zero, List.set_cons_succ]
              first
                | (refine wpAnyH_take (i := 23) (oi := ⟨_, _, _, _, _, _⟩) (v := undef) rfl (by kernel_rfl) (by kernel_rfl) (by kernel_rfl) (fun _ _ _ h => h) (Or.inr ⟨by rfl, rfl⟩) (by assumption) ?_
                   try simp only [Act.put, List.setIfInBounds_toArray, List.set_cons_zero, List.set_cons_succ])
                | (refine wpAnyH_take (i := 23) (oi := ⟨_, _, _, _, _, _⟩) (v := ?_) rfl (by kernel_rfl) (by kernel_rfl) (by kernel_rfl) (fun _ _ _ h => h) (Or.inl ⟨by rfl, ?_⟩) (by assumption) ?_
                   rotate_left
                   · intro w5 hSw
                     try dsimp only at hSw
                     go_simp
                     try with_reducible rfl
                   try simp only [Act.put, List.setIfInBounds_toArray, List.set_cons_zero, List.set_cons_succ])
              first
                | (refine wpAnyH_take (i := 24) (oi := ⟨_, _, _, _, _, _⟩) (v := undef) rfl (by kernel_rfl) (by kernel_rfl) (by kernel_rfl) (fun _ _ _ h => h) (Or.inr ⟨by rfl, rfl⟩) (by assumption) ?_
                   try simp only [Act.put, List.setIfInBounds_toArray, List.set_cons_zero, List.set_cons_succ])
                | (refine wpAnyH_take (i := 24) (oi := ⟨_, _, _, _, _, _⟩) (v := ?_) rfl (by kernel_rfl) (by kernel_rfl) (by kernel_rfl) (fun _ _ _ h => h) (Or.inl ⟨by rfl, ?_⟩) (by assumption) ?_
                   rotate_left
                   · intro w5 hSw
                     try dsimp only at hSw
                     go_simp
                     try with_reducible rfl
                   try simp only [Act.put, List.setIfInBounds_toArray, List.set_cons_zero, List.set_cons_succ])
              refine wpAnyH_done (by kernel_rfl) ?_ _
              clear hHeld z0 z1 z2 x0 x1 x2 x3 x4 x5
              go_wp2_with fail
              go_roundw
              case rel => exact ⟨j + 1, by omega, by go_num, by first | exact congrArg Value.string ES5.out | exact congrArg Value.string ((ByteArray.append_assoc ..).symm.trans ES5.out), U3.out⟩
              case measure => simp [intOf]; omega
            · go_simp
              refine hK.out _ _ ?_ (fun hHeld => ?_)
              · have U0a := Lib.hid (bthen U0.out (balloc _ (.cells #[.int .i64 q1, .int .i64 q2] 3)))
                obtain ⟨_, _, _, _, _, _, p5⟩ := HX.out.below U0a.out
                obtain ⟨z0, z1, z2⟩ := HC.out _ U0a.out
                exact ⟨p5, z0, z1, z2⟩
              clear hK K
              try simp only [Act.put, List.setIfInBounds_toArray, List.set_cons_zero, List.set_cons_succ]
              refine wpAnyH_ready (rs := [7]) (by kernel_rfl) (by simp) ?_
              refine AllReadyH.cons (o := ⟨_, _, _, _, _, _⟩) rfl (fun K hK => ?_) AllReadyH.nil
              go_simp
              go_at_call 28
              refine (HBj.out _).mono ?_
              rintro e u1 ⟨rfl, hb1⟩
              have HB1 := Lib.hid hb1
              have U1 := Lib.hid (bthen (bthen U0.out (balloc _ (.cells #[.int .i64 q1, .int .i64 q2] 3))) hb1)
              clear hb1
              refine hK.out _ _ ?_ (fun hHeld => ?_)
              · obtain ⟨_, _, _, _, _, _, p5⟩ := HX.out.below U1.out
                obtain ⟨z0, z1, z2⟩ := HC.out _ U1.out
                exact ⟨p5, z0, z1, z2⟩
              clear hK K
              try simp only [Act.put, List.setIfInBounds_toArray, List.set_cons_zero, List.set_cons_succ]
              first
                | (refine wpAnyH_take (i := 8) (oi := ⟨_, _, _, _, _, _⟩) (v := undef) rfl (by kernel_rfl) (by kernel_rfl) (by kernel_rfl) (fun _ _ _ h => h) (Or.inr ⟨by rfl, rfl⟩) (by assumption) ?_
                   try simp only [Act.put, List.setIfInBounds_toArray, List.set_cons_zero, List.set_cons_succ])
                | (refine wpAnyH_take (i := 8) (oi := ⟨_, _, _, _, _, _⟩) (v := ?_) rfl (by kernel_rfl) (by kernel_rfl) (by kernel_rfl) (fun _ _ _ h => h) (Or.inl ⟨by rfl, ?_⟩) (by assumption) ?_
                   rotate_left
                   · intro w5 hSw
                     try dsimp only at hSw
                     go_simp
                     try with_reducible rfl
                   try simp only [Act.put, List.setIfInBounds_toArray, List.set_cons_zero, List.set_cons_succ])
              refine wpAnyH_ready (rs := [22]) (by kernel_rfl) (by simp) ?_
              refine AllReadyH.cons (o := ⟨_, _, _, _, _, _⟩) rfl (fun K hK => ?_) AllReadyH.nil
              go_simp
              refine (HI2.out _ _ HB1.out).mono ?_
              rintro e u3 ⟨rfl, hb3⟩
              have U3 := Lib.hid (bthen U1.out hb3)
              clear hb3
              refine hK.out _ _ ?_ (fun hHeld => ?_)
              · obtain ⟨_, _, _, _, _, _, p5⟩ := HX.out.below U3.out
                obtain ⟨z0, z1, z2⟩ := HC.out _ U3.out
                exact ⟨p5, z0, z1, z2⟩
              clear hK K
              try simp only [Act.put, List.setIfInBounds_toArray, List.set_cons_zero, List.set_cons_succ]
              first
                | (refine wpAnyH_take (i := 23) (oi := ⟨_, _, _, _, _, _⟩) (v := undef) rfl (by kernel_rfl) (by kernel_rfl) (by kernel_rfl) (fun _ _ _ h => h) (Or.inr ⟨by rfl, rfl⟩) (by assumption) ?_
                   try simp only [Act.put, List.setIfInBounds_toArray, List.set_cons_zero, List.set_cons_succ])
                | (refine wpAnyH_take (i := 23) (oi := ⟨_, _, _, _, _, _⟩) (v := ?_) rfl (by kernel_rfl) (by kernel_rfl) (by kernel_rfl) (fun _ _ _ h => h) (Or.inl ⟨by rfl, ?_⟩) (by assumption) ?_
                   rotate_left
                   · intro w5 hSw
                     try dsimp only at hSw
                     go_simp
                     try with_reducible rfl
                   try simp only [Act.put, List.setIfInBounds_toArray, List.set_cons_zero, List.set_cons_succ])
              first
                | (refine wpAnyH_take (i := 24) (oi := ⟨_, _, _, _, _, _⟩) (v := undef) rfl (by kernel_rfl) (by kernel_rfl) (by kernel_rfl) (fun _ _ _ h => h) (Or.inr ⟨by rfl, rfl⟩) (by assumption) ?_
                   try simp only [Act.put, List.setIfInBounds_toArray, List.set_cons_zero, List.set_cons_succ])
                | (refine wpAnyH_take (i := 24) (oi := ⟨_, _, _, _, _, _⟩) (v := ?_) rfl (by kernel_rfl) (by kernel_rfl) (by kernel_rfl) (fun _ _ _ h => h) (Or.inl ⟨by rfl, ?_⟩) (by assumption) ?_
                   rotate_left
                   · intro w5 hSw
                     try dsimp only at hSw
                     go_simp
                     try with_reducible rfl
                   try simp only [Act.put, List.setIfInBounds_toArray, List.set_cons_zero, List.set_cons_succ])
              refine wpAnyH_done (by kernel_rfl) ?_ _
              clear hHeld z0 z1 z2 x0 x1 x2 x3 x4 x5
              go_wp2_with fail
              go_roundw
              case rel => exact ⟨j + 1, by omega, by go_num, by first | exact congrArg Value.string ES5.out | exact congrArg Value.string ((ByteArray.append_assoc ..).symm.trans ES5.out), U3.out⟩
              case measure => simp [intOf]; omega
          obtain rfl : ni = j := by omega
          clear hlt hj hl
          have EF : Hid (acc (Y6 ++ catN (fun i => evW (ev i)) ni) = acc ([flip63 seed, (fin : Int), flip63 nd] ++ (catN (fun i => [((d i : Nat) : Int)]) nd ++ ([flip63 (np : Int)] ++ (catN (fun i => prW (pr i) (pl i)) np ++ ([flip63 (nl : Int)] ++ (catN (fun i => lpW (lp i) (wd i) (wl i)) nl ++ ([flip63 (ni : Int)] ++ catN (fun i => evW (ev i)) ni)))))))) := by
            show _ = _
            rw [← HY6.out, ← HY4.out, ← HY2.out, ← HX0.out]
            simp only [List.append_assoc]
          go_wp2_with fail
          go_ret
          exact ⟨congrArg (fun x => Ending.returned (Value.string x)) EF.out, bthen HA.out HL6.out⟩

end Go.Proofs.Ytemhbcjpgapjkaa
