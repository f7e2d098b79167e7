/- The contracts of the program's output, ran, Run, Steps. The contracts of the program's ran, Run. -/
import Derived.Test.YtplhkplfbcmbdaaYZ24
import Derived.Test.YtplhkplfbcmbdaaYZ3
namespace Go.Proofs.Ytplhkplfbcmbdaa
open Go.RowKit
set_option linter.unusedVariables false
set_option maxRecDepth 100000

theorem VmAt.lower {base b2 P bd a : Nat} {lps : Int} {vw vs : Value} {r : Mch} {u : World} (h : VmAt base P bd a lps vw vs r u) (hb : b2 ≤ base) : VmAt b2 P bd a lps vw vs r u :=
  ⟨Nat.le_trans hb h.lo, Nat.le_trans hb h.lo2, h.box, h.dice, own_lower h.w hb, own_lower h.s hb⟩
theorem setCells_other7 {B q : Nat} (hne : q ≠ B) : ∀ (l : List Value) (o : Nat) (W : World), (W.setCells B o l).heap[q]? = W.heap[q]?
  | [], _, _ => rfl
  | v :: l, o, W => (setCells_other7 hne l (o + 1) _).trans (Below.heap_setCell W ⟨B, o, none⟩ v q hne)
/-- what comes of a run -/
def ouOf (r : Mch) : Ou := if r.f = 0 then ⟨r.nw, r.w, r.ns, r.sn, r.dice, 0⟩ else { zeroU with f := r.f }
theorem ouOf_pc (r : Mch) (q : Nat) : ouOf { r with pc := q } = ouOf r := rfl
section
variable {base P bd a : Nat} {lps : Int} {vw vs : Value} {r : Mch}
set_option maxHeartbeats 3200000 in
theorem output7_any (w : World) (hr : VmAt base P bd a lps vw vs r w) :
    Calls Try.prog 63 #[.pointer (some ⟨P, 0, none⟩)] w fun e w' => ∃ v, e = .returned v ∧ OutAt base (ouOf r) v w' ∧ Below w.heap.size w w' := by
  have X1 := Lib.hid (heap_alloc_new w (.cells #[.slice none 0 0, .slice none 0 0, .int .i64 0, .int .i64 0] 73))
  have B1 := Lib.hid (balloc w (.cells #[.slice none 0 0, .slice none 0 0, .int .i64 0, .int .i64 0] 73))
  have RU := Lib.hid (hr.below B1.out)
  obtain ⟨aw, cw, rfl⟩ := hr.form
  obtain ⟨as_, cs, rfl⟩ := hr.form2
  clear hr
  go_enter Try.func63, Try.ntmps63
  go_upto_region 1 with fail
  generalize w.alloc (.cells #[.slice none 0 0, .slice none 0 0, .int .i64 0, .int .i64 0] 73) = u at *
  obtain ⟨p8, p9, p10, p11, p12, p13, p14, pf⟩ := RU.out.cells
  obtain ⟨z0, z1, z2, z3⟩ := four_cells X1.out
  have zf : ∀ q, u.frozen? ⟨w.heap.size, q, none⟩ = false := fun q => Lib.frozen_of_heap X1.out q
  by_cases hf : r.f = 0
  · have df : (r.f != 0) = false := by simp [hf]
    have E : Hid (ouOf r = ⟨r.nw, r.w, r.ns, r.sn, r.dice, 0⟩) := if_pos hf
    clear hf
    have HC := Lib.hid (count_any a r.dice bd u.drew RU.out.drew.dice)
    have hne : w.heap.size ≠ P := RU.out.notP X1.out (by decide)
    go_wp2_with fail
    have RD := Lib.hid RU.out.drew
    have LD := Lib.hid B1.out.drew
    have XD : Hid (u.drew.heap[w.heap.size]? = some (.cells #[.slice none 0 0, .slice none 0 0, .int .i64 0, .int .i64 0] 73 (0, 0))) := X1.out
    refine wp_region_held_drew (S := (fun w' => w'.cell? ⟨P, 8, none⟩ = some (.slice aw r.nw cw) ∧ w'.cell? ⟨P, 11, none⟩ = some (.slice as_ r.ns cs) ∧ w'.cell? ⟨P, 9, none⟩ = some (.pointer (some ⟨bd, 0, none⟩)))) (by kernel_rfl) ?_ (fun hHeld => ?_)
    · exact ⟨RD.out.cells.1, RD.out.cells.2.2.2.1, RD.out.cells.2.1⟩
    change wpAnyH _ _ _ _ _ _ _ _ (World.drew u)
    clear p8 p9 p10 p11 p12 p13 p14 pf RU B1 X1 z0 z1 z2 z3 zf
    generalize u.drew = u0 at *
    first
      | refine tk0 0 (oi := ⟨_, _, _, _, _, _⟩) rfl ?_
      | refine tk1 0 (oi := ⟨_, _, _, _, _, _⟩) (v := ?_) rfl ?_ ?_; rotate_left; · (intro w5 hSw; (try dsimp only at hSw); go_simp; (try with_reducible rfl))
    try simp only [Act.put, List.setIfInBounds_toArray, List.set_cons_zero, List.set_cons_succ]
    first
      | refine tk0 1 (oi := ⟨_, _, _, _, _, _⟩) rfl ?_
      | refine tk1 1 (oi := ⟨_, _, _, _, _, _⟩) (v := ?_) rfl ?_ ?_; rotate_left; · (intro w5 hSw; (try dsimp only at hSw); go_simp; (try with_reducible rfl))
    try simp only [Act.put, List.setIfInBounds_toArray, List.set_cons_zero, List.set_cons_succ]
    first
      | refine tk0 2 (oi := ⟨_, _, _, _, _, _⟩) rfl ?_
      | refine tk1 2 (oi := ⟨_, _, _, _, _, _⟩) (v := ?_) rfl ?_ ?_; rotate_left; · (intro w5 hSw; (try dsimp only at hSw); go_simp; (try with_reducible rfl))
    try simp only [Act.put, List.setIfInBounds_toArray, List.set_cons_zero, List.set_cons_succ]
    first
      | refine tk0 3 (oi := ⟨_, _, _, _, _, _⟩) rfl ?_
      | refine tk1 3 (oi := ⟨_, _, _, _, _, _⟩) (v := ?_) rfl ?_ ?_; rotate_left; · (intro w5 hSw; (try dsimp only at hSw); go_simp; (try with_reducible rfl))
    try simp only [Act.put, List.setIfInBounds_toArray, List.set_cons_zero, List.set_cons_succ]
    first
      | refine tk0 4 (oi := ⟨_, _, _, _, _, _⟩) rfl ?_
      | refine tk1 4 (oi := ⟨_, _, _, _, _, _⟩) (v := ?_) rfl ?_ ?_; rotate_left; · (intro w5 hSw; (try dsimp only at hSw); go_simp; (try with_reducible rfl))
    try simp only [Act.put, List.setIfInBounds_toArray, List.set_cons_zero, List.set_cons_succ]
    first
      | refine tk0 5 (oi := ⟨_, _, _, _, _, _⟩) rfl ?_
      | refine tk1 5 (oi := ⟨_, _, _, _, _, _⟩) (v := ?_) rfl ?_ ?_; rotate_left; · (intro w5 hSw; (try dsimp only at hSw); go_simp; (try with_reducible rfl))
    try simp only [Act.put, List.setIfInBounds_toArray, List.set_cons_zero, List.set_cons_succ]
    first
      | refine tk0 6 (oi := ⟨_, _, _, _, _, _⟩) rfl ?_
      | refine tk1 6 (oi := ⟨_, _, _, _, _, _⟩) (v := ?_) rfl ?_ ?_; rotate_left; · (intro w5 hSw; (try dsimp only at hSw); go_simp; (try with_reducible rfl))
    try simp only [Act.put, List.setIfInBounds_toArray, List.set_cons_zero, List.set_cons_succ]
    first
      | refine tk0 7 (oi := ⟨_, _, _, _, _, _⟩) rfl ?_
      | refine tk1 7 (oi := ⟨_, _, _, _, _, _⟩) (v := ?_) rfl ?_ ?_; rotate_left; · (intro w5 hSw; (try dsimp only at hSw); go_simp; (try with_reducible rfl))
    try simp only [Act.put, List.setIfInBounds_toArray, List.set_cons_zero, List.set_cons_succ]
    first
      | refine tk0 8 (oi := ⟨_, _, _, _, _, _⟩) rfl ?_
      | refine tk1 8 (oi := ⟨_, _, _, _, _, _⟩) (v := ?_) rfl ?_ ?_; rotate_left; · (intro w5 hSw; (try dsimp only at hSw); go_simp; (try with_reducible rfl))
    try simp only [Act.put, List.setIfInBounds_toArray, List.set_cons_zero, List.set_cons_succ]
    first
      | refine tk0 9 (oi := ⟨_, _, _, _, _, _⟩) rfl ?_
      | refine tk1 9 (oi := ⟨_, _, _, _, _, _⟩) (v := ?_) rfl ?_ ?_; rotate_left; · (intro w5 hSw; (try dsimp only at hSw); go_simp; (try with_reducible rfl))
    try simp only [Act.put, List.setIfInBounds_toArray, List.set_cons_zero, List.set_cons_succ]
    first
      | refine tk0 10 (oi := ⟨_, _, _, _, _, _⟩) rfl ?_
      | refine tk1 10 (oi := ⟨_, _, _, _, _, _⟩) (v := ?_) rfl ?_ ?_; rotate_left; · (intro w5 hSw; (try dsimp only at hSw); go_simp; (try with_reducible rfl))
    try simp only [Act.put, List.setIfInBounds_toArray, List.set_cons_zero, List.set_cons_succ]
    first
      | refine tk0 11 (oi := ⟨_, _, _, _, _, _⟩) rfl ?_
      | refine tk1 11 (oi := ⟨_, _, _, _, _, _⟩) (v := ?_) rfl ?_ ?_; rotate_left; · (intro w5 hSw; (try dsimp only at hSw); go_simp; (try with_reducible rfl))
    try simp only [Act.put, List.setIfInBounds_toArray, List.set_cons_zero, List.set_cons_succ]
    refine wpAnyH_ready (rs := [12]) (by kernel_rfl) (by simp) ?_
    refine AllReadyH.cons (o := ⟨_, _, _, _, _, _⟩) rfl (fun K hK => ?_) AllReadyH.nil
    go_simp
    go_at_call 81
    refine HC.out.mono ?_
    rintro e w1 ⟨rfl, hw1⟩
    subst w1
    refine hK.out _ _ ?_ (fun hHeld => ?_)
    · exact hHeld
    clear hK K
    try simp only [Act.put, List.setIfInBounds_toArray, List.set_cons_zero, List.set_cons_succ]
    first
      | refine tk0 13 (oi := ⟨_, _, _, _, _, _⟩) rfl ?_
      | refine tk1 13 (oi := ⟨_, _, _, _, _, _⟩) (v := ?_) rfl ?_ ?_; rotate_left; · (intro w5 hSw; (try dsimp only at hSw); go_simp; (try with_reducible rfl))
    try simp only [Act.put, List.setIfInBounds_toArray, List.set_cons_zero, List.set_cons_succ]
    obtain ⟨z0, z1, z2, z3⟩ := four_cells XD.out
    have zf : ∀ q, u0.frozen? ⟨w.heap.size, q, none⟩ = false := fun q => Lib.frozen_of_heap XD.out q
    have BX := Lib.hid ((setCells_other7 (Ne.symm hne) [.slice aw r.nw cw, .slice as_ r.ns cs, .int .i64 r.dice, .int .i64 0] 0 u0).trans RD.out.box)
    have SX : (fun w' => w'.cell? ⟨P, 8, none⟩ = some (.slice aw r.nw cw) ∧ w'.cell? ⟨P, 11, none⟩ = some (.slice as_ r.ns cs) ∧ w'.cell? ⟨P, 9, none⟩ = some (.pointer (some ⟨bd, 0, none⟩))) (u0.setCells w.heap.size 0 [.slice aw r.nw cw, .slice as_ r.ns cs, .int .i64 r.dice, .int .i64 0]) := by refine ⟨?_, ?_, ?_⟩ <;> (rw [Lib.cell_of_heap BX.out]; rfl)
    refine wpAnyH_ready (rs := [14]) (by kernel_rfl) (by simp) ?_
    refine AllReadyH.cons (o := ⟨_, _, _, _, _, _⟩) rfl (fun K hK => ?_) AllReadyH.nil
    go_simp
    change K _ (World.setCells u0 w.heap.size 0 [.slice aw r.nw cw, .slice as_ r.ns cs, .int .i64 r.dice, .int .i64 0])
    refine hK.out _ _ ?_ (fun hHeld => ?_)
    · exact SX
    clear hK K z0 z1 z2 z3 zf SX
    try simp only [Act.put, List.setIfInBounds_toArray, List.set_cons_zero, List.set_cons_succ]
    refine wpAnyH_done (by kernel_rfl) ?_ _
    change Exit.then _ _ _ _ (World.setCells u0 w.heap.size 0 [.slice aw r.nw cw, .slice as_ r.ns cs, .int .i64 r.dice, .int .i64 0])
    have h5 := put_four XD.out (.slice aw r.nw cw) (.slice as_ r.ns cs) (.int .i64 r.dice) (.int .i64 0)
    have HO : Hid (OutAt base (ouOf r) (.agg #[.slice aw r.nw cw, .slice as_ r.ns cs, .int .i64 r.dice, .int .i64 0]) (World.setCells u0 w.heap.size 0 [.slice aw r.nw cw, .slice as_ r.ns cs, .int .i64 r.dice, .int .i64 0])) := by
      show OutAt _ _ _ _
      rw [E.out]
      exact ⟨aw, cw, as_, cs, rfl, own_setCells (own_not RD.out.w XD.out (by decide)) _ 0 _ RD.out.w, own_setCells (own_not RD.out.s XD.out (by decide)) _ 0 _ RD.out.s⟩
    have LZ := Lib.hid (LD.out.trans (put_low7 (Nat.le_refl w.heap.size) [.slice aw r.nw cw, .slice as_ r.ns cs, .int .i64 r.dice, .int .i64 0] 0 u0))
    obtain ⟨t0, t1, t2, t3⟩ := four_cells h5
    clear h5
    generalize World.setCells u0 w.heap.size 0 [.slice aw r.nw cw, .slice as_ r.ns cs, .int .i64 r.dice, .int .i64 0] = w9 at *
    go_wp2_with fail
    exact bodyPost_ret (v := .agg #[.slice aw r.nw cw, .slice as_ r.ns cs, .int .i64 r.dice, .int .i64 0]) (by simp [results, Try.results63, go_sem, t0, t1, t2, t3]) rfl ⟨_, rfl, HO.out, LZ.out⟩
  · have df : (r.f != 0) = true := by simp [hf]
    have E : Hid (ouOf r = { zeroU with f := r.f }) := if_neg hf
    clear hf
    go_wp2_with fail
    change bodyPost _ _ _ _ _ (World.setCells u w.heap.size 0 [.slice none 0 0, .slice none 0 0, .int .i64 0, .int .i64 r.f])
    have h5 := put_four X1.out (.slice none 0 0) (.slice none 0 0) (.int .i64 0) (.int .i64 r.f)
    have LZ := Lib.hid (B1.out.trans (put_low7 (Nat.le_refl w.heap.size) [.slice none 0 0, .slice none 0 0, .int .i64 0, .int .i64 r.f] 0 u))
    obtain ⟨t0, t1, t2, t3⟩ := four_cells h5
    clear h5
    generalize World.setCells u w.heap.size 0 [.slice none 0 0, .slice none 0 0, .int .i64 0, .int .i64 r.f] = w9 at *
    exact bodyPost_ret (v := .agg #[.slice none 0 0, .slice none 0 0, .int .i64 0, .int .i64 r.f]) (by simp [results, Try.results63, go_sem, t0, t1, t2, t3]) rfl ⟨_, rfl, by rw [E.out]; exact out_none (o := { zeroU with f := r.f }) _ _ rfl rfl, LZ.out⟩
end

end Go.Proofs.Ytplhkplfbcmbdaa
namespace Go.Proofs.Ytplhkplfbcmbdaa
open Go.RowKit
set_option linter.unusedVariables false
set_option maxRecDepth 100000

theorem mayN_zero {pr : Nat → I4} {pl : Nat} {i : Inp} (h0 : mayN pr pl i = 0) : ((1 ≤ pl ∧ pl ≤ 48) ∧ allN (fun k => insB (pr k) pl) pl = true) ∧ i.nw ≤ 8 := by
  unfold mayN at h0
  by_cases c : (1 ≤ pl ∧ pl ≤ 48) ∧ allN (fun k => insB (pr k) pl) pl = true
  · rw [if_pos c] at h0
    refine ⟨c, ?_⟩
    by_cases c2 : 8 < i.nw
    · rw [if_pos c2] at h0; exact absurd h0 (by decide)
    · omega
  · rw [if_neg c] at h0; exact absurd h0 (by decide)
/-- what a run that may be comes to -/
def RanPost (pr : Nat → I4) (pl : Nat) (i : Inp) (w : World) (e : Ending) (w' : World) : Prop :=
  ∃ P bd vw vs q, e = .returned (.tuple #[.pointer (some ⟨P, 0, none⟩), .int .i64 0]) ∧ VmAt w.heap.size P bd (wordN i.seed i.me) i.lps vw vs { wholeM pr pl i with pc := q } w' ∧ Below w.heap.size w w'
set_option maxHeartbeats 1600000 in
theorem ran_ok (pr : Nat → I4) (pl : Nat) (vp : Value) (i : Inp) (vI : Value) (w : World) (hp : Sl 4 (gI pr) pl vp w) (hw : Sl 1 (gW i.w) i.nw vI w) (hbd : Bd (beginM i)) (hb : ∀ k, r64v (pr k).b) (h0 : mayN pr pl i = 0) :
    Calls Try.prog 62 #[vp, .agg #[vI, .int .i64 i.pay, .int .i64 i.me, .int .i64 i.lps, .int .i64 i.seed, .int .i64 i.dice]] w (RanPost pr pl i w) := by
  obtain ⟨⟨⟨h1, h48⟩, hall⟩, h8⟩ := mayN_zero h0
  have HP := Lib.hid hp
  have HW := Lib.hid hw
  obtain ⟨ap, cp, rfl, hcp, hcp2, hpc⟩ := hp
  obtain ⟨B, O, rfl, hat⟩ := hpc (by omega)
  obtain ⟨aw, cw, rfl, hcw, hcw2, _⟩ := hw
  have HAT := Lib.hid hat
  have HIN := Lib.hid ((allN_iff _ _).1 hall)
  have HBD := Lib.hid hbd
  have HBB := Lib.hid hb
  have H48 := Lib.hid (And.intro h1 h48)
  have H8 := Lib.hid h8
  have d8 : decide ((8 : Int) < (i.nw : Int)) = false := by rw [decide_eq_false_iff_not]; omega
  have hm : mayB7 pr pl = true := by unfold mayB7; rw [hall, decide_eq_true ⟨h1, h48⟩]; rfl
  have HM : Hid (∀ u, Below w.heap.size w u → Calls Try.prog 78 #[.slice (some ⟨B, O, none⟩) pl cp] u fun e w' => e = .returned (.bool true) ∧ Below u.heap.size u w') := fun u k => by
    have := mayRun_any pr pl _ u (HP.out.below k)
    rwa [hm] at this
  have HG : Hid (∀ u, Below w.heap.size w u → Calls Try.prog 79 #[.agg #[.slice aw i.nw cw, .int .i64 i.pay, .int .i64 i.me, .int .i64 i.lps, .int .i64 i.seed, .int .i64 i.dice]] u (BeginPost i u)) := fun u k => begin7_any i _ u (HW.out.below k) H8.out
  have X1 := Lib.hid (heap_alloc_new w (.cells #[.slice aw i.nw cw, .int .i64 i.pay, .int .i64 i.me, .int .i64 i.lps, .int .i64 i.seed, .int .i64 i.dice] 77))
  have B1 := Lib.hid (balloc w (.cells #[.slice aw i.nw cw, .int .i64 i.pay, .int .i64 i.me, .int .i64 i.lps, .int .i64 i.seed, .int .i64 i.dice] 77))
  clear hat hall hbd hb h0 h1 h48 h8 hm hpc
  go_enter Try.func62, Try.ntmps62
  go_upto_region 1 with fail
  generalize w.alloc (.cells #[.slice aw i.nw cw, .int .i64 i.pay, .int .i64 i.me, .int .i64 i.lps, .int .i64 i.seed, .int .i64 i.dice] 77) = u at *
  go_upto_region 6 with (first
    | (go_at_call 78; refine (HM.out _ B1.out).mono ?_; rintro e u2 ⟨rfl, hb2⟩; have X2 := Lib.hid ((hb2.block _ (lt_of_block X1.out)).trans X1.out); have B2 := Lib.hid (bthen B1.out hb2); clear hb2; obtain ⟨n0, n1, n2, n3, n4, n5⟩ := six_cells7 X2.out)
    | (go_at_call 79; refine (HG.out _ B2.out).mono ?_; rintro e u3 ⟨P, bd, vw, vs, rfl, hv, hb3⟩; have V3 := Lib.hid (hv.lower B2.out.size); have B3 := Lib.hid (bthen B2.out hb3); clear hv hb3))
  have HT : Hid (Calls Try.prog 80 #[.pointer (some ⟨P, 0, none⟩), .slice (some ⟨B, O, none⟩) pl cp] u3 (ThroughPost w.heap.size P bd (wordN i.seed i.me) i.lps vw (wholeM pr pl i) u3)) :=
    through7_any pr pl i.seed i.me rfl B O cp (beginM i) u3 V3.out B3.out.size H48.out.2 H48.out.1 HIN.out (HAT.out.below B3.out) HAT.out.1 HBD.out HBB.out rfl
  go_wp2_with (go_at_call 80; refine HT.out.mono ?_; rintro e u4 ⟨rfl, ⟨vs4, q, hv⟩, hb4⟩; have V4 := Lib.hid hv; have B4 := Lib.hid (B3.out.trans hb4); clear hv hb4)
  exact bodyPost_ret (v := .tuple #[.pointer (some ⟨P, 0, none⟩), .int .i64 0]) (by simp [results, Try.results62, go_sem]) rfl ⟨P, bd, vw, vs4, q, rfl, V4.out, B4.out⟩
set_option maxHeartbeats 1600000 in
theorem ran_bad (pr : Nat → I4) (pl : Nat) (vp : Value) (i : Inp) (vI : Value) (w : World) (hp : Sl 4 (gI pr) pl vp w) (hw : Sl 1 (gW i.w) i.nw vI w) (h0 : mayN pr pl i ≠ 0) :
    Calls Try.prog 62 #[vp, .agg #[vI, .int .i64 i.pay, .int .i64 i.me, .int .i64 i.lps, .int .i64 i.seed, .int .i64 i.dice]] w fun e w' => e = .returned (.tuple #[.pointer none, .int .i64 (mayN pr pl i)]) ∧ Below w.heap.size w w' := by
  have HP := Lib.hid hp
  obtain ⟨ap, cp, rfl, hcp, hcp2, _⟩ := hp
  obtain ⟨aw, cw, rfl, hcw, hcw2, _⟩ := hw
  have HM : Hid (∀ u, Below w.heap.size w u → Calls Try.prog 78 #[.slice ap pl cp] u fun e w' => e = .returned (.bool (mayB7 pr pl)) ∧ Below u.heap.size u w') := fun u k => mayRun_any pr pl _ u (HP.out.below k)
  have X1 := Lib.hid (heap_alloc_new w (.cells #[.slice aw i.nw cw, .int .i64 i.pay, .int .i64 i.me, .int .i64 i.lps, .int .i64 i.seed, .int .i64 i.dice] 77))
  have B1 := Lib.hid (balloc w (.cells #[.slice aw i.nw cw, .int .i64 i.pay, .int .i64 i.me, .int .i64 i.lps, .int .i64 i.seed, .int .i64 i.dice] 77))
  have E : (mayB7 pr pl = false ∧ mayN pr pl i = 15) ∨ (mayB7 pr pl = true ∧ 8 < i.nw ∧ mayN pr pl i = 2) := by
    unfold mayN at h0 ⊢
    unfold mayB7
    by_cases c : (1 ≤ pl ∧ pl ≤ 48) ∧ allN (fun k => insB (pr k) pl) pl = true
    · rw [if_pos c] at h0 ⊢
      by_cases c2 : 8 < i.nw
      · rw [if_pos c2]; exact .inr ⟨by rw [decide_eq_true c.1, c.2]; rfl, c2, rfl⟩
      · rw [if_neg c2] at h0; exact absurd rfl h0
    · rw [if_neg c]
      refine .inl ⟨?_, rfl⟩
      rw [Bool.and_eq_false_iff, decide_eq_false_iff_not]
      by_cases c1 : 1 ≤ pl ∧ pl ≤ 48
      · exact .inr (by rw [← Bool.not_eq_true]; exact fun h => c ⟨c1, h⟩)
      · exact .inl c1
  clear h0
  generalize mayB7 pr pl = mb at *
  generalize mayN pr pl i = mn at *
  go_enter Try.func62, Try.ntmps62
  go_upto_region 1 with fail
  generalize w.alloc (.cells #[.slice aw i.nw cw, .int .i64 i.pay, .int .i64 i.me, .int .i64 i.lps, .int .i64 i.seed, .int .i64 i.dice] 77) = u at *
  rcases E with ⟨rfl, rfl⟩ | ⟨rfl, h8, rfl⟩
  · go_wp2_with (go_at_call 78; refine (HM.out _ B1.out).mono ?_; rintro e u2 ⟨rfl, hb2⟩; have B2 := Lib.hid (bthen B1.out hb2); clear hb2)
    exact bodyPost_ret (v := .tuple #[.pointer none, .int .i64 15]) (by simp [results, Try.results62, go_sem]) rfl ⟨rfl, B2.out⟩
  · have d8 : decide ((8 : Int) < (i.nw : Int)) = true := by rw [decide_eq_true_eq]; omega
    clear h8
    go_wp2_with (go_at_call 78; refine (HM.out _ B1.out).mono ?_; rintro e u2 ⟨rfl, hb2⟩; have X2 := Lib.hid ((hb2.block _ (lt_of_block X1.out)).trans X1.out); have B2 := Lib.hid (bthen B1.out hb2); clear hb2; obtain ⟨n0, n1, n2, n3, n4, n5⟩ := six_cells7 X2.out)
    exact bodyPost_ret (v := .tuple #[.pointer none, .int .i64 2]) (by simp [results, Try.results62, go_sem]) rfl ⟨rfl, B2.out⟩

set_option maxHeartbeats 1600000 in
theorem run_is : RunAny := by
  intro pr pl vp i vI w hp hw hbd hb
  have X1 : Hid (((w.alloc (.cells #[vI, .int .i64 i.pay, .int .i64 i.me, .int .i64 i.lps, .int .i64 i.seed, .int .i64 i.dice] 77)).alloc (.cells #[.slice none 0 0, .slice none 0 0, .int .i64 0, .int .i64 0] 73)).heap[w.heap.size]? = some (.cells #[vI, .int .i64 i.pay, .int .i64 i.me, .int .i64 i.lps, .int .i64 i.seed, .int .i64 i.dice] 77)) := (Below.heap_alloc _ _ _ (by rw [World.size_alloc]; omega)).trans (heap_alloc_new w _)
  have R1 : Hid (((w.alloc (.cells #[vI, .int .i64 i.pay, .int .i64 i.me, .int .i64 i.lps, .int .i64 i.seed, .int .i64 i.dice] 77)).alloc (.cells #[.slice none 0 0, .slice none 0 0, .int .i64 0, .int .i64 0] 73)).heap[w.heap.size + 1]? = some (.cells #[.slice none 0 0, .slice none 0 0, .int .i64 0, .int .i64 0] 73 (0, 0))) := by
    have := heap_alloc_new (w.alloc (.cells #[vI, .int .i64 i.pay, .int .i64 i.me, .int .i64 i.lps, .int .i64 i.seed, .int .i64 i.dice] 77)) (.cells #[.slice none 0 0, .slice none 0 0, .int .i64 0, .int .i64 0] 73)
    rwa [World.size_alloc] at this
  have B1 := Lib.hid (bthen (balloc w (.cells #[vI, .int .i64 i.pay, .int .i64 i.me, .int .i64 i.lps, .int .i64 i.seed, .int .i64 i.dice] 77)) (balloc _ (.cells #[.slice none 0 0, .slice none 0 0, .int .i64 0, .int .i64 0] 73)))
  have HO : Hid (mayN pr pl i = 0 → ∀ u, Below w.heap.size w u → Calls Try.prog 62 #[vp, .agg #[vI, .int .i64 i.pay, .int .i64 i.me, .int .i64 i.lps, .int .i64 i.seed, .int .i64 i.dice]] u (RanPost pr pl i u)) := fun h0 u k => ran_ok pr pl vp i vI u (hp.below k) (hw.below k) hbd hb h0
  have HZ : Hid (mayN pr pl i ≠ 0 → ∀ u, Below w.heap.size w u → Calls Try.prog 62 #[vp, .agg #[vI, .int .i64 i.pay, .int .i64 i.me, .int .i64 i.lps, .int .i64 i.seed, .int .i64 i.dice]] u fun e w' => e = .returned (.tuple #[.pointer none, .int .i64 (mayN pr pl i)]) ∧ Below u.heap.size u w') := fun h0 u k => ran_bad pr pl vp i vI u (hp.below k) (hw.below k) h0
  have hdo : Hid (doU pr pl i = if mayN pr pl i = 0 then ouOf (wholeM pr pl i) else zeroU) := rfl
  refine Calls.mono (R := fun e w' => ∃ v, e = .returned (.tuple #[v, .int .i64 (mayN pr pl i)]) ∧ OutAt w.heap.size (doU pr pl i) v w' ∧ Below w.heap.size w w') ?_ fun e w' h => tells_of h
  generalize doU pr pl i = ou at *
  generalize mayN pr pl i = mn at *
  clear hp hw hbd hb
  obtain ⟨n0, n1, n2, n3, n4, n5⟩ := six_cells7 X1.out
  obtain ⟨z0, z1, z2, z3⟩ := four_cells R1.out
  have zf : ∀ q, _ = false := fun q => Lib.frozen_of_heap R1.out q
  generalize hu : (w.alloc (.cells #[vI, .int .i64 i.pay, .int .i64 i.me, .int .i64 i.lps, .int .i64 i.seed, .int .i64 i.dice] 77)).alloc (.cells #[.slice none 0 0, .slice none 0 0, .int .i64 0, .int .i64 0] 73) = u at X1 R1 B1 n0 n1 n2 n3 n4 n5 z0 z1 z2 z3 zf
  go_enter Try.func35, Try.ntmps35
  go_upto_region 1 with fail
  try rw [hu]
  clear hu
  by_cases h0 : mn = 0
  · subst h0
    have HO2 := Lib.hid (HO.out rfl)
    have hdo1 : Hid (ou = ouOf (wholeM pr pl i)) := by show _ = _; rw [hdo.out, if_pos rfl]
    clear HO HZ hdo
    go_wp2_with (first
      | (go_at_call 62; refine (HO2.out _ B1.out).mono ?_; rintro e u2 ⟨P, bd, vw, vs, q, rfl, hv, hb2⟩; have V2 := Lib.hid hv; have R2 := Lib.hid ((hb2.block _ (lt_of_block R1.out)).trans R1.out); have B2 := Lib.hid (bthen B1.out hb2); clear hb2 hv n0 n1 n2 n3 n4 n5 z0 z1 z2 z3 zf)
      | (go_at_call 63; refine (output7_any _ V2.out).mono ?_; rintro e u3 ⟨v, rfl, hv3, hb3⟩; have O3 := Lib.hid (hv3.lower B1.out.size); have R3 := Lib.hid ((hb3.block _ (lt_of_block R2.out)).trans R2.out); have B3 := Lib.hid (bthen B2.out hb3); clear hb3 hv3; obtain ⟨aw, cw, as_, cs, rfl, o1, o2⟩ := id O3.out; obtain ⟨z0, z1, z2, z3⟩ := four_cells R3.out; have zf : ∀ q, u3.frozen? ⟨w.heap.size + 1, q, none⟩ = false := fun q => Lib.frozen_of_heap R3.out q; have O1 := Lib.hid (And.intro o1 o2); clear o1 o2))
    have eo : ouOf { wholeM pr pl i with pc := q } = ou := by rw [ouOf_pc, hdo1.out]
    rw [eo] at O1 ⊢
    change bodyPost _ _ _ _ _ (World.setCells u3 (w.heap.size + 1) 0 [.slice aw ou.nw cw, .slice as_ ou.ns cs, .int .i64 ou.dice, .int .i64 ou.f])
    have h5 := put_four R3.out (.slice aw ou.nw cw) (.slice as_ ou.ns cs) (.int .i64 ou.dice) (.int .i64 ou.f)
    have LZ := Lib.hid (B3.out.trans (put_low7 (show w.heap.size ≤ w.heap.size + 1 by omega) [.slice aw ou.nw cw, .slice as_ ou.ns cs, .int .i64 ou.dice, .int .i64 ou.f] 0 u3))
    have HOU : Hid (OutAt w.heap.size ou (.agg #[.slice aw ou.nw cw, .slice as_ ou.ns cs, .int .i64 ou.dice, .int .i64 ou.f]) (World.setCells u3 (w.heap.size + 1) 0 [.slice aw ou.nw cw, .slice as_ ou.ns cs, .int .i64 ou.dice, .int .i64 ou.f])) :=
      ⟨aw, cw, as_, cs, rfl, own_setCells (own_not O1.out.1 R3.out (by decide)) _ 0 _ O1.out.1, own_setCells (own_not O1.out.2 R3.out (by decide)) _ 0 _ O1.out.2⟩
    obtain ⟨t0, t1, t2, t3⟩ := four_cells h5
    clear h5
    generalize World.setCells u3 (w.heap.size + 1) 0 [.slice aw ou.nw cw, .slice as_ ou.ns cs, .int .i64 ou.dice, .int .i64 ou.f] = w9 at *
    exact bodyPost_ret (v := .tuple #[.agg #[.slice aw ou.nw cw, .slice as_ ou.ns cs, .int .i64 ou.dice, .int .i64 ou.f], .int .i64 0]) (by simp [results, Try.results35, go_sem, t0, t1, t2, t3]) rfl ⟨_, rfl, HOU.out, LZ.out⟩
  · have d0 : (mn != 0) = true := by simp [h0]
    have HZ2 := Lib.hid (HZ.out h0)
    have hdo1 : Hid (ou = zeroU) := by show _ = _; rw [hdo.out, if_neg h0]
    clear HO HZ hdo h0
    go_wp2_with (go_at_call 62; refine (HZ2.out _ B1.out).mono ?_; rintro e u2 ⟨rfl, hb2⟩; have R2 := Lib.hid ((hb2.block _ (lt_of_block R1.out)).trans R1.out); have B2 := Lib.hid (bthen B1.out hb2); clear hb2 n0 n1 n2 n3 n4 n5 z0 z1 z2 z3 zf; obtain ⟨z0, z1, z2, z3⟩ := four_cells R2.out; have zf : ∀ q, u2.frozen? ⟨w.heap.size + 1, q, none⟩ = false := fun q => Lib.frozen_of_heap R2.out q)
    change bodyPost _ _ _ _ _ (World.setCells u2 (w.heap.size + 1) 0 [.slice none 0 0, .slice none 0 0, .int .i64 0, .int .i64 0])
    have h5 := put_four R2.out (.slice none 0 0) (.slice none 0 0) (.int .i64 0) (.int .i64 0)
    have LZ := Lib.hid (B2.out.trans (put_low7 (show w.heap.size ≤ w.heap.size + 1 by omega) [.slice none 0 0, .slice none 0 0, .int .i64 0, .int .i64 0] 0 u2))
    obtain ⟨t0, t1, t2, t3⟩ := four_cells h5
    clear h5
    generalize World.setCells u2 (w.heap.size + 1) 0 [.slice none 0 0, .slice none 0 0, .int .i64 0, .int .i64 0] = w9 at *
    exact bodyPost_ret (v := .tuple #[.agg #[.slice none 0 0, .slice none 0 0, .int .i64 0, .int .i64 0], .int .i64 mn]) (by simp [results, Try.results35, go_sem, t0, t1, t2, t3]) rfl ⟨_, rfl, by rw [hdo1.out]; exact out_none (o := zeroU) _ _ rfl rfl, LZ.out⟩

end Go.Proofs.Ytplhkplfbcmbdaa
