/- The contracts of the program's output, ran, Run, Steps. -/
import Derived.Test.YtehdlpgopcoecaaVmP9
import Derived.Test.YtehdlpgopcoecaaVmLink
namespace Go.Proofs.Ytehdlpgopcoecaa
open Go.RowKit
set_option linter.unusedVariables false
set_option maxRecDepth 100000

theorem VmAt.lower {base b2 P bd a : Nat} {lps : Int} {vw vs : Value} {r : Mch} {u : World} (h : VmAt base P bd a lps vw vs r u) (hb : b2 ≤ base) : VmAt b2 P bd a lps vw vs r u :=
  ⟨Nat.le_trans hb h.lo, Nat.le_trans hb h.lo2, h.box, h.dice, own_lower h.w hb, own_lower h.s hb⟩
theorem setCells_other7 {B q : Nat} (hne : q ≠ B) : ∀ (l : List Value) (o : Nat) (W : World), (W.setCells B o l).heap[q]? = W.heap[q]?
  | [], _, _ => rfl
  | v :: l, o, W => (setCells_other7 hne l (o + 1) _).trans (Below.heap_setCell W ⟨B, o, none⟩ v q hne)
/-- what comes of a run -/
def ouOf (r : Mch) : Ou := if r.f = 0 then ⟨r.nw, r.w, r.ns, r.sn, r.dice, 0⟩ else { zeroU with f := r.f }
theorem ouOf_pc (r : Mch) (q : Nat) : ouOf { r with pc := q } = ouOf r := rfl
section
variable {base P bd a : Nat} {lps : Int} {vw vs : Value} {r : Mch}
set_option maxHeartbeats 3200000 in
theorem output7_any (w : World) (hr : VmAt base P bd a lps vw vs r w) :
    Calls Try.prog 19 #[.pointer (some ⟨P, 0, none⟩)] w fun e w' => ∃ v, e = .returned v ∧ OutAt base (ouOf r) v w' ∧ Below w.heap.size w w' := by
  have X1 := Lib.hid (heap_alloc_new w (.cells #[.slice none 0 0, .slice none 0 0, .int .i64 0, .int .i64 0] 30))
  have B1 := Lib.hid (balloc w (.cells #[.slice none 0 0, .slice none 0 0, .int .i64 0, .int .i64 0] 30))
  have RU := Lib.hid (hr.below B1.out)
  obtain ⟨aw, cw, rfl⟩ := hr.form
  obtain ⟨as_, cs, rfl⟩ := hr.form2
  clear hr
  go_enter Try.func19, Try.ntmps19
  go_upto_region 1 with fail
  generalize w.alloc (.cells #[.slice none 0 0, .slice none 0 0, .int .i64 0, .int .i64 0] 30) = u at *
  obtain ⟨p8, p9, p10, p11, p12, p13, p14, pf⟩ := RU.out.cells
  obtain ⟨z0, z1, z2, z3⟩ := four_cells X1.out
  have zf : ∀ q, u.frozen? ⟨w.heap.size, q, none⟩ = false := fun q => Lib.frozen_of_heap X1.out q
  by_cases hf : r.f = 0
  · have df : (r.f != 0) = false := by simp [hf]
    have E : Hid (ouOf r = ⟨r.nw, r.w, r.ns, r.sn, r.dice, 0⟩) := if_pos hf
    clear hf
    have HC := Lib.hid (count_any a r.dice bd u.drew RU.out.drew.dice)
    have hne : w.heap.size ≠ P := RU.out.notP X1.out (by decide)
    go_wp2_with fail
    have RD := Lib.hid RU.out.drew
    have LD := Lib.hid B1.out.drew
    have XD : Hid (u.drew.heap[w.heap.size]? = some (.cells #[.slice none 0 0, .slice none 0 0, .int .i64 0, .int .i64 0] 30 (0, 0))) := X1.out
    refine wp_region_held_drew (S := (fun w' => w'.cell? ⟨P, 8, none⟩ = some (.slice aw r.nw cw) ∧ w'.cell? ⟨P, 11, none⟩ = some (.slice as_ r.ns cs) ∧ w'.cell? ⟨P, 9, none⟩ = some (.pointer (some ⟨bd, 0, none⟩)))) (by kernel_rfl) ?_ (fun hHeld => ?_)
    · exact ⟨RD.out.cells.1, RD.out.cells.2.2.2.1, RD.out.cells.2.1⟩
    change wpAnyH _ _ _ _ _ _ _ _ (World.drew u)
    clear p8 p9 p10 p11 p12 p13 p14 pf RU B1 X1 z0 z1 z2 z3 zf
    generalize u.drew = u0 at *
    first
      | (refine wpAnyH_take (i := 0) (oi := ⟨_, _, _, _, _, _⟩) (v := undef) rfl (by kernel_rfl) (by kernel_rfl) (by kernel_rfl) (fun _ _ _ h => h) (Or.inr ⟨by rfl, rfl⟩) (by assumption) ?_
         try simp only [Act.put, List.setIfInBounds_toArray, List.set_cons_zero, List.set_cons_succ])
      | (refine wpAnyH_take (i := 0) (oi := ⟨_, _, _, _, _, _⟩) (v := ?_) rfl (by kernel_rfl) (by kernel_rfl) (by kernel_rfl) (fun _ _ _ h => h) (Or.inl ⟨by rfl, ?_⟩) (by assumption) ?_
         rotate_left
         · intro w5 hSw
           try dsimp only at hSw
           go_simp
           try with_reducible rfl
         try simp only [Act.put, List.setIfInBounds_toArray, List.set_cons_zero, List.set_cons_succ])
    first
      | (refine wpAnyH_take (i := 1) (oi := ⟨_, _, _, _, _, _⟩) (v := undef) rfl (by kernel_rfl) (by kernel_rfl) (by kernel_rfl) (fun _ _ _ h => h) (Or.inr ⟨by rfl, rfl⟩) (by assumption) ?_
         try simp only [Act.put, List.setIfInBounds_toArray, List.set_cons_zero, List.set_cons_succ])
      | (refine wpAnyH_take (i := 1) (oi := ⟨_, _, _, _, _, _⟩) (v := ?_) rfl (by kernel_rfl) (by kernel_rfl) (by kernel_rfl) (fun _ _ _ h => h) (Or.inl ⟨by rfl, ?_⟩) (by assumption) ?_
         rotate_left
         · intro w5 hSw
           try dsimp only at hSw
           go_simp
           try with_reducible rfl
         try simp only [Act.put, List.setIfInBounds_toArray, List.set_cons_zero, List.set_cons_succ])
    first
      | (refine wpAnyH_take (i := 2) (oi := ⟨_, _, _, _, _, _⟩) (v := undef) rfl (by kernel_rfl) (by kernel_rfl) (by kernel_rfl) (fun _ _ _ h => h) (Or.inr ⟨by rfl, rfl⟩) (by assumption) ?_
         try simp only [Act.put, List.setIfInBounds_toArray, List.set_cons_zero, List.set_cons_succ])
      | (refine wpAnyH_take (i := 2) (oi := ⟨_, _, _, _, _, _⟩) (v := ?_) rfl (by kernel_rfl) (by kernel_rfl) (by kernel_rfl) (fun _ _ _ h => h) (Or.inl ⟨by rfl, ?_⟩) (by assumption) ?_
         rotate_left
         · intro w5 hSw
           try dsimp only at hSw
           go_simp
           try with_reducible rfl
         try simp only [Act.put, List.setIfInBounds_toArray, List.set_cons_zero, List.set_cons_succ])
    first
      | (refine wpAnyH_take (i := 3) (oi := ⟨_, _, _, _, _, _⟩) (v := undef) rfl (by kernel_rfl) (by kernel_rfl) (by kernel_rfl) (fun _ _ _ h => h) (Or.inr ⟨by rfl, rfl⟩) (by assumption) ?_
         try simp only [Act.put, List.setIfInBounds_toArray, List.set_cons_zero, List.set_cons_succ])
      | (refine wpAnyH_take (i := 3) (oi := ⟨_, _, _, _, _, _⟩) (v := ?_) rfl (by kernel_rfl) (by kernel_rfl) (by kernel_rfl) (fun _ _ _ h => h) (Or.inl ⟨by rfl, ?_⟩) (by assumption) ?_
         rotate_left
         · intro w5 hSw
           try dsimp only at hSw
           go_simp
           try with_reducible rfl
         try simp only [Act.put, List.setIfInBounds_toArray, List.set_cons_zero, List.set_cons_succ])
    first
      | (refine wpAnyH_take (i := 4) (oi := ⟨_, _, _, _, _, _⟩) (v := undef) rfl (by kernel_rfl) (by kernel_rfl) (by kernel_rfl) (fun _ _ _ h => h) (Or.inr ⟨by rfl, rfl⟩) (by assumption) ?_
         try simp only [Act.put, List.setIfInBounds_toArray, List.set_cons_zero, List.set_cons_succ])
      | (refine wpAnyH_take (i := 4) (oi := ⟨_, _, _, _, _, _⟩) (v := ?_) rfl (by kernel_rfl) (by kernel_rfl) (by kernel_rfl) (fun _ _ _ h => h) (Or.inl ⟨by rfl, ?_⟩) (by assumption) ?_
         rotate_left
         · intro w5 hSw
           try dsimp only at hSw
           go_simp
           try with_reducible rfl
         try simp only [Act.put, List.setIfInBounds_toArray, List.set_cons_zero, List.set_cons_succ])
    first
      | (refine wpAnyH_take (i := 5) (oi := ⟨_, _, _, _, _, _⟩) (v := undef) rfl (by kernel_rfl) (by kernel_rfl) (by kernel_rfl) (fun _ _ _ h => h) (Or.inr ⟨by rfl, rfl⟩) (by assumption) ?_
         try simp only [Act.put, List.setIfInBounds_toArray, List.set_cons_zero, List.set_cons_succ])
      | (refine wpAnyH_take (i := 5) (oi := ⟨_, _, _, _, _, _⟩) (v := ?_) rfl (by kernel_rfl) (by kernel_rfl) (by kernel_rfl) (fun _ _ _ h => h) (Or.inl ⟨by rfl, ?_⟩) (by assumption) ?_
         rotate_left
         · intro w5 hSw
           try dsimp only at hSw
           go_simp
           try with_reducible rfl
         try simp only [Act.put, List.setIfInBounds_toArray, List.set_cons_zero, List.set_cons_succ])
    first
      | (refine wpAnyH_take (i := 6) (oi := ⟨_, _, _, _, _, _⟩) (v := undef) rfl (by kernel_rfl) (by kernel_rfl) (by kernel_rfl) (fun _ _ _ h => h) (Or.inr ⟨by rfl, rfl⟩) (by assumption) ?_
         try simp only [Act.put, List.setIfInBounds_toArray, List.set_cons_zero, List.set_cons_succ])
      | (refine wpAnyH_take (i := 6) (oi := ⟨_, _, _, _, _, _⟩) (v := ?_) rfl (by kernel_rfl) (by kernel_rfl) (by kernel_rfl) (fun _ _ _ h => h) (Or.inl ⟨by rfl, ?_⟩) (by assumption) ?_
         rotate_left
         · intro w5 hSw
           try dsimp only at hSw
           go_simp
           try with_reducible rfl
         try simp only [Act.put, List.setIfInBounds_toArray, List.set_cons_zero, List.set_cons_succ])
    first
      | (refine wpAnyH_take (i := 7) (oi := ⟨_, _, _, _, _, _⟩) (v := undef) rfl (by kernel_rfl) (by kernel_rfl) (by kernel_rfl) (fun _ _ _ h => h) (Or.inr ⟨by rfl, rfl⟩) (by assumption) ?_
         try simp only [Act.put, List.setIfInBounds_toArray, List.set_cons_zero, List.set_cons_succ])
      | (refine wpAnyH_take (i := 7) (oi := ⟨_, _, _, _, _, _⟩) (v := ?_) rfl (by kernel_rfl) (by kernel_rfl) (by kernel_rfl) (fun _ _ _ h => h) (Or.inl ⟨by rfl, ?_⟩) (by assumption) ?_
         rotate_left
         · intro w5 hSw
           try dsimp only at hSw
           go_simp
           try with_reducible rfl
         try simp only [Act.put, List.setIfInBounds_toArray, List.set_cons_zero, List.set_cons_succ])
    first
      | (refine wpAnyH_take (i := 8) (oi := ⟨_, _, _, _, _, _⟩) (v := undef) rfl (by kernel_rfl) (by kernel_rfl) (by kernel_rfl) (fun _ _ _ h => h) (Or.inr ⟨by rfl, rfl⟩) (by assumption) ?_
         try simp only [Act.put, List.setIfInBounds_toArray, List.set_cons_zero, List.set_cons_succ])
      | (refine wpAnyH_take (i := 8) (oi := ⟨_, _, _, _, _, _⟩) (v := ?_) rfl (by kernel_rfl) (by kernel_rfl) (by kernel_rfl) (fun _ _ _ h => h) (Or.inl ⟨by rfl, ?_⟩) (by assumption) ?_
         rotate_left
         · intro w5 hSw
           try dsimp only at hSw
           go_simp
           try with_reducible rfl
         try simp only [Act.put, List.setIfInBounds_toArray, List.set_cons_zero, List.set_cons_succ])
    first
      | (refine wpAnyH_take (i := 9) (oi := ⟨_, _, _, _, _, _⟩) (v := undef) rfl (by kernel_rfl) (by kernel_rfl) (by kernel_rfl) (fun _ _ _ h => h) (Or.inr ⟨by rfl, rfl⟩) (by assumption) ?_
         try simp only [Act.put, List.setIfInBounds_toArray, List.set_cons_zero, List.set_cons_succ])
      | (refine wpAnyH_take (i := 9) (oi := ⟨_, _, _, _, _, _⟩) (v := ?_) rfl (by kernel_rfl) (by kernel_rfl) (by kernel_rfl) (fun _ _ _ h => h) (Or.inl ⟨by rfl, ?_⟩) (by assumption) ?_
         rotate_left
         · intro w5 hSw
           try dsimp only at hSw
           go_simp
           try with_reducible rfl
         try simp only [Act.put, List.setIfInBounds_toArray, List.set_cons_zero, List.set_cons_succ])
    first
      | (refine wpAnyH_take (i := 10) (oi := ⟨_, _, _, _, _, _⟩) (v := undef) rfl (by kernel_rfl) (by kernel_rfl) (by kernel_rfl) (fun _ _ _ h => h) (Or.inr ⟨by rfl, rfl⟩) (by assumption) ?_
         try simp only [Act.put, List.setIfInBounds_toArray, List.set_cons_zero, List.set_cons_succ])
      | (refine wpAnyH_take (i := 10) (oi := ⟨_, _, _, _, _, _⟩) (v := ?_) rfl (by kernel_rfl) (by kernel_rfl) (by kernel_rfl) (fun _ _ _ h => h) (Or.inl ⟨by rfl, ?_⟩) (by assumption) ?_
         rotate_left
         · intro w5 hSw
           try dsimp only at hSw
           go_simp
           try with_reducible rfl
         try simp only [Act.put, List.setIfInBounds_toArray, List.set_cons_zero, List.set_cons_succ])
    first
      | (refine wpAnyH_take (i := 11) (oi := ⟨_, _, _, _, _, _⟩) (v := undef) rfl (by kernel_rfl) (by kernel_rfl) (by kernel_rfl) (fun _ _ _ h => h) (Or.inr ⟨by rfl, rfl⟩) (by assumption) ?_
         try simp only [Act.put, List.setIfInBounds_toArray, List.set_cons_zero, List.set_cons_succ])
      | (refine wpAnyH_take (i := 11) (oi := ⟨_, _, _, _, _, _⟩) (v := ?_) rfl (by kernel_rfl) (by kernel_rfl) (by kernel_rfl) (fun _ _ _ h => h) (Or.inl ⟨by rfl, ?_⟩) (by assumption) ?_
         rotate_left
         · intro w5 hSw
           try dsimp only at hSw
           go_simp
           try with_reducible rfl
         try simp only [Act.put, List.setIfInBounds_toArray, List.set_cons_zero, List.set_cons_succ])
    refine wpAnyH_ready (rs := [12]) (by kernel_rfl) (by simp) ?_
    refine AllReadyH.cons (o := ⟨_, _, _, _, _, _⟩) rfl (fun K hK => ?_) AllReadyH.nil
    go_simp
    go_at_call 25
    refine HC.out.mono ?_
    rintro e w1 ⟨rfl, hw1⟩
    subst w1
    refine hK.out _ _ ?_ (fun hHeld => ?_)
    · exact hHeld
    clear hK K
    try simp only [Act.put, List.setIfInBounds_toArray, List.set_cons_zero, List.set_cons_succ]
    first
      | (refine wpAnyH_take (i := 13) (oi := ⟨_, _, _, _, _, _⟩) (v := undef) rfl (by kernel_rfl) (by kernel_rfl) (by kernel_rfl) (fun _ _ _ h => h) (Or.inr ⟨by rfl, rfl⟩) (by assumption) ?_
         try simp only [Act.put, List.setIfInBounds_toArray, List.set_cons_zero, List.set_cons_succ])
      | (refine wpAnyH_take (i := 13) (oi := ⟨_, _, _, _, _, _⟩) (v := ?_) rfl (by kernel_rfl) (by kernel_rfl) (by kernel_rfl) (fun _ _ _ h => h) (Or.inl ⟨by rfl, ?_⟩) (by assumption) ?_
         rotate_left
         · intro w5 hSw
           try dsimp only at hSw
           go_simp
           try with_reducible rfl
         try simp only [Act.put, List.setIfInBounds_toArray, List.set_cons_zero, List.set_cons_succ])
    obtain ⟨z0, z1, z2, z3⟩ := four_cells XD.out
    have zf : ∀ q, u0.frozen? ⟨w.heap.size, q, none⟩ = false := fun q => Lib.frozen_of_heap XD.out q
    have BX := Lib.hid ((setCells_other7 (Ne.symm hne) [.slice aw r.nw cw, .slice as_ r.ns cs, .int .i64 r.dice, .int .i64 0] 0 u0).trans RD.out.box)
    have SX : (fun w' => w'.cell? ⟨P, 8, none⟩ = some (.slice aw r.nw cw) ∧ w'.cell? ⟨P, 11, none⟩ = some (.slice as_ r.ns cs) ∧ w'.cell? ⟨P, 9, none⟩ = some (.pointer (some ⟨bd, 0, none⟩))) (u0.setCells w.heap.size 0 [.slice aw r.nw cw, .slice as_ r.ns cs, .int .i64 r.dice, .int .i64 0]) := by refine ⟨?_, ?_, ?_⟩ <;> (rw [Lib.cell_of_heap BX.out]; rfl)
    refine wpAnyH_ready (rs := [14]) (by kernel_rfl) (by simp) ?_
    refine AllReadyH.cons (o := ⟨_, _, _, _, _, _⟩) rfl (fun K hK => ?_) AllReadyH.nil
    go_simp
    change K _ (World.setCells u0 w.heap.size 0 [.slice aw r.nw cw, .slice as_ r.ns cs, .int .i64 r.dice, .int .i64 0])
    refine hK.out _ _ ?_ (fun hHeld => ?_)
    · exact SX
    clear hK K z0 z1 z2 z3 zf SX
    try simp only [Act.put, List.setIfInBounds_toArray, List.set_cons_zero, List.set_cons_succ]
    refine wpAnyH_done (by kernel_rfl) ?_ _
    change Exit.then _ _ _ _ (World.setCells u0 w.heap.size 0 [.slice aw r.nw cw, .slice as_ r.ns cs, .int .i64 r.dice, .int .i64 0])
    have h5 := put_four XD.out (.slice aw r.nw cw) (.slice as_ r.ns cs) (.int .i64 r.dice) (.int .i64 0)
    have HO : Hid (OutAt base (ouOf r) (.agg #[.slice aw r.nw cw, .slice as_ r.ns cs, .int .i64 r.dice, .int .i64 0]) (World.setCells u0 w.heap.size 0 [.slice aw r.nw cw, .slice as_ r.ns cs, .int .i64 r.dice, .int .i64 0])) := by
      show OutAt _ _ _ _
      rw [E.out]
      exact ⟨aw, cw, as_, cs, rfl, own_setCells (own_not RD.out.w XD.out (by decide)) _ 0 _ RD.out.w, own_setCells (own_not RD.out.s XD.out (by decide)) _ 0 _ RD.out.s⟩
    have LZ := Lib.hid (LD.out.trans (put_low7 (Nat.le_refl w.heap.size) [.slice aw r.nw cw, .slice as_ r.ns cs, .int .i64 r.dice, .int .i64 0] 0 u0))
    obtain ⟨t0, t1, t2, t3⟩ := four_cells h5
    clear h5
    generalize World.setCells u0 w.heap.size 0 [.slice aw r.nw cw, .slice as_ r.ns cs, .int .i64 r.dice, .int .i64 0] = w9 at *
    go_wp2_with fail
    exact bodyPost_ret (v := .agg #[.slice aw r.nw cw, .slice as_ r.ns cs, .int .i64 r.dice, .int .i64 0]) (by simp [results, Try.results19, go_sem, t0, t1, t2, t3]) rfl ⟨_, rfl, HO.out, LZ.out⟩
  · have df : (r.f != 0) = true := by simp [hf]
    have E : Hid (ouOf r = { zeroU with f := r.f }) := if_neg hf
    clear hf
    go_wp2_with fail
    change bodyPost _ _ _ _ _ (World.setCells u w.heap.size 0 [.slice none 0 0, .slice none 0 0, .int .i64 0, .int .i64 r.f])
    have h5 := put_four X1.out (.slice none 0 0) (.slice none 0 0) (.int .i64 0) (.int .i64 r.f)
    have LZ := Lib.hid (B1.out.trans (put_low7 (Nat.le_refl w.heap.size) [.slice none 0 0, .slice none 0 0, .int .i64 0, .int .i64 r.f] 0 u))
    obtain ⟨t0, t1, t2, t3⟩ := four_cells h5
    clear h5
    generalize World.setCells u w.heap.size 0 [.slice none 0 0, .slice none 0 0, .int .i64 0, .int .i64 r.f] = w9 at *
    exact bodyPost_ret (v := .agg #[.slice none 0 0, .slice none 0 0, .int .i64 0, .int .i64 r.f]) (by simp [results, Try.results19, go_sem, t0, t1, t2, t3]) rfl ⟨_, rfl, by rw [E.out]; exact out_none (o := { zeroU with f := r.f }) _ _ rfl rfl, LZ.out⟩
end

end Go.Proofs.Ytehdlpgopcoecaa
