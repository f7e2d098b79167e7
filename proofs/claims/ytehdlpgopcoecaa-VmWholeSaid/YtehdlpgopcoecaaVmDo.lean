/- The contract of the document's Do. -/
import Derived.Test.YtehdlpgopcoecaaVmSame
namespace Go.Proofs.Ytehdlpgopcoecaa
open Go.RowKit
set_option linter.unusedVariables false
set_option maxRecDepth 100000

def zeroU : Ou := ⟨0, fun _ => 0, 0, fun _ => ⟨0, 0, 0⟩, 0, 0⟩
/-- what comes of it, by the document -/
def doU (pr : Nat → I4) (pl : Nat) (i : Inp) : Ou :=
  if mayN pr pl i = 0 then (if (wholeM pr pl i).f = 0 then ⟨(wholeM pr pl i).nw, (wholeM pr pl i).w, (wholeM pr pl i).ns, (wholeM pr pl i).sn, (wholeM pr pl i).dice, 0⟩ else { zeroU with f := (wholeM pr pl i).f }) else zeroU
theorem out_none {o : Ou} (base : Nat) (u : World) (h1 : o.nw = 0) (h2 : o.ns = 0) : OutAt base o (.agg #[.slice none 0 0, .slice none 0 0, .int .i64 o.dice, .int .i64 o.f]) u := by
  refine ⟨none, 0, none, 0, by rw [h1, h2], ?_, ?_⟩
  · rw [h1, rowCells_zero]; exact World.ownsRow_nil _ _ _ _
  · rw [h2, rowCells_zero]; exact World.ownsRow_nil _ _ _ _
theorem put_four {W : World} {B : Nat} {c0 c1 c2 c3 : Value} {T : TypeId} (h : W.heap[B]? = some (.cells #[c0, c1, c2, c3] T (0, 0))) (u0 u1 u2 u3 : Value) :
    (W.setCells B 0 [u0, u1, u2, u3]).heap[B]? = some (.cells #[u0, u1, u2, u3] T (0, 0)) :=
  Joins.block_setCell (Joins.block_setCell (Joins.block_setCell (Joins.block_setCell h u0) u1) u2) u3
theorem put_low7 {base B : Nat} (hB : base ≤ B) : ∀ (l : List Value) (o : Nat) (W : World), Below base W (W.setCells B o l)
  | [], _, W => Below.refl _ _
  | v :: l, o, W => ((Below.refl base W).setCell (p := ⟨B, o, none⟩) hB v).trans (put_low7 hB l (o + 1) _)
theorem own_setCells {B b C n : Nat} {E : TypeId} {v : Value} {xs : List Value} (hne : v.ownBlock ≠ some B) : ∀ (l : List Value) (o : Nat) (W : World), W.ownsRow b E C v n xs → (W.setCells B o l).ownsRow b E C v n xs
  | [], _, W, h => h
  | x :: l, o, W, h => own_setCells hne l (o + 1) _ (own_setCell h hne)

set_option maxHeartbeats 3200000 in
theorem do7_any (pr : Nat → I4) (pl : Nat) (vp : Value) (i : Inp) (vI : Value) (w : World) (hp : Sl 4 (gI pr) pl vp w) (hw : Sl 1 (gW i.w) i.nw vI w) (hbd : Bd (beginM i)) (hb : ∀ k, r64v (pr k).b) :
    Calls Try.prog 11 #[vp, .agg #[vI, .int .i64 i.pay, .int .i64 i.me, .int .i64 i.lps, .int .i64 i.seed, .int .i64 i.dice]] w fun e w' =>
      ∃ v, e = .returned (.tuple #[v, .int .i64 (mayN pr pl i)]) ∧ OutAt w.heap.size (doU pr pl i) v w' ∧ Below w.heap.size w w' := by
  have X1 : Hid (((w.alloc (.cells #[vI, .int .i64 i.pay, .int .i64 i.me, .int .i64 i.lps, .int .i64 i.seed, .int .i64 i.dice] 25)).alloc (.cells #[.slice none 0 0, .slice none 0 0, .int .i64 0, .int .i64 0] 30)).heap[w.heap.size]? = some (.cells #[vI, .int .i64 i.pay, .int .i64 i.me, .int .i64 i.lps, .int .i64 i.seed, .int .i64 i.dice] 25)) := (Below.heap_alloc _ _ _ (by rw [World.size_alloc]; omega)).trans (heap_alloc_new w _)
  have R1 : Hid (((w.alloc (.cells #[vI, .int .i64 i.pay, .int .i64 i.me, .int .i64 i.lps, .int .i64 i.seed, .int .i64 i.dice] 25)).alloc (.cells #[.slice none 0 0, .slice none 0 0, .int .i64 0, .int .i64 0] 30)).heap[w.heap.size + 1]? = some (.cells #[.slice none 0 0, .slice none 0 0, .int .i64 0, .int .i64 0] 30 (0, 0))) := by
    have := heap_alloc_new (w.alloc (.cells #[vI, .int .i64 i.pay, .int .i64 i.me, .int .i64 i.lps, .int .i64 i.seed, .int .i64 i.dice] 25)) (.cells #[.slice none 0 0, .slice none 0 0, .int .i64 0, .int .i64 0] 30)
    rwa [World.size_alloc] at this
  have B1 := Lib.hid (bthen (balloc w (.cells #[vI, .int .i64 i.pay, .int .i64 i.me, .int .i64 i.lps, .int .i64 i.seed, .int .i64 i.dice] 25)) (balloc _ (.cells #[.slice none 0 0, .slice none 0 0, .int .i64 0, .int .i64 0] 30)))
  have HM : Hid (∀ u, Below w.heap.size w u → Calls Try.prog 14 #[vp, .agg #[vI, .int .i64 i.pay, .int .i64 i.me, .int .i64 i.lps, .int .i64 i.seed, .int .i64 i.dice]] u fun e w' => e = .returned (.int .i64 (mayN pr pl i)) ∧ Below u.heap.size u w') := fun u k => may7_any pr pl vp i vI u (hp.below k) (hw.below k)
  have HO : Hid (mayN pr pl i = 0 → ∀ u, Below w.heap.size w u → Calls Try.prog 15 #[vp, .agg #[vI, .int .i64 i.pay, .int .i64 i.me, .int .i64 i.lps, .int .i64 i.seed, .int .i64 i.dice]] u (OfPost pr pl i u)) := fun h0 u k => by
    have hh : ((1 ≤ pl ∧ pl ≤ 48) ∧ allN (fun k => insB (pr k) pl) pl = true) ∧ i.nw ≤ 8 := by
      unfold mayN at h0
      by_cases c : (1 ≤ pl ∧ pl ≤ 48) ∧ allN (fun k => insB (pr k) pl) pl = true
      · rw [if_pos c] at h0
        refine ⟨c, ?_⟩
        by_cases c2 : 8 < i.nw
        · rw [if_pos c2] at h0; exact absurd h0 (by decide)
        · omega
      · rw [if_neg c] at h0; exact absurd h0 (by decide)
    exact of7_any pr pl vp i vI u (hp.below k) (hw.below k) hh.1.1.2 hh.2 ((allN_iff _ _).1 hh.1.2) hbd hb
  have hdo : Hid (doU pr pl i = if mayN pr pl i = 0 then (if (wholeM pr pl i).f = 0 then ⟨(wholeM pr pl i).nw, (wholeM pr pl i).w, (wholeM pr pl i).ns, (wholeM pr pl i).sn, (wholeM pr pl i).dice, 0⟩ else { zeroU with f := (wholeM pr pl i).f }) else zeroU) := rfl
  have hm : mayN pr pl i = 0 ∨ mayN pr pl i = 2 ∨ mayN pr pl i = 15 := by unfold mayN; split <;> (try split) <;> simp
  generalize doU pr pl i = ou at *
  generalize mayN pr pl i = mn at *
  clear hp hw hbd hb
  obtain ⟨n0, n1, n2, n3, n4, n5⟩ := six_cells7 X1.out
  obtain ⟨z0, z1, z2, z3⟩ := four_cells R1.out
  have zf : ∀ q, _ = false := fun q => Lib.frozen_of_heap R1.out q
  generalize hu : (w.alloc (.cells #[vI, .int .i64 i.pay, .int .i64 i.me, .int .i64 i.lps, .int .i64 i.seed, .int .i64 i.dice] 25)).alloc (.cells #[.slice none 0 0, .slice none 0 0, .int .i64 0, .int .i64 0] 30) = u at X1 R1 B1 n0 n1 n2 n3 n4 n5 z0 z1 z2 z3 zf
  go_enter Try.func11, Try.ntmps11
  go_upto_region 1 with fail
  try rw [hu]
  clear hu
  by_cases h0 : mn = 0
  · subst h0
    have HO2 := Lib.hid (HO.out rfl)
    have hdo1 : Hid (ou = if (wholeM pr pl i).f = 0 then ⟨(wholeM pr pl i).nw, (wholeM pr pl i).w, (wholeM pr pl i).ns, (wholeM pr pl i).sn, (wholeM pr pl i).dice, 0⟩ else { zeroU with f := (wholeM pr pl i).f }) := by show _ = _; rw [hdo.out, if_pos rfl]
    clear HO hm hdo
    go_wp2_with (go_at_call 14; refine (HM.out _ B1.out).mono ?_; rintro e u2 ⟨rfl, hb2⟩; have X2 := Lib.hid ((hb2.block _ (lt_of_block X1.out)).trans X1.out); have R2 := Lib.hid ((hb2.block _ (lt_of_block R1.out)).trans R1.out); have B2 := Lib.hid (bthen B1.out hb2); clear hb2 n0 n1 n2 n3 n4 n5 z0 z1 z2 z3 zf; obtain ⟨n0, n1, n2, n3, n4, n5⟩ := six_cells7 X2.out)
    refine (HO2.out _ B2.out).mono ?_
    rintro e u3 ⟨P, bg, vw, vs, rfl, hrun, hb3⟩
    have R3 := Lib.hid ((hb3.block _ (lt_of_block R2.out)).trans R2.out)
    have B3 := Lib.hid (bthen B2.out hb3)
    have RU := Lib.hid hrun
    obtain ⟨aw, cw, rfl⟩ := hrun.form
    obtain ⟨as_, cs, rfl⟩ := hrun.form2
    have HR : Hid ((wholeM pr pl i).f = 0 → OutAt w.heap.size ou (.agg #[.slice aw (wholeM pr pl i).nw cw, .slice as_ (wholeM pr pl i).ns cs, .int .i64 (wholeM pr pl i).dice, .int .i64 0]) (u3.setCells (w.heap.size + 1) 0 [.slice aw (wholeM pr pl i).nw cw, .slice as_ (wholeM pr pl i).ns cs, .int .i64 (wholeM pr pl i).dice, .int .i64 0]).drew) := fun hf => by
      rw [hdo1.out, if_pos hf]
      refine ⟨aw, cw, as_, cs, rfl, ?_, ?_⟩
      · exact own_lower (own_below (own_setCells (own_not RU.out.w R3.out (by decide)) _ 0 _ RU.out.w) (bdrew _)) (Nat.le_succ_of_le B2.out.size)
      · exact own_lower (own_below (own_setCells (own_not RU.out.s R3.out (by decide)) _ 0 _ RU.out.s) (bdrew _)) (Nat.le_succ_of_le B2.out.size)
    have HZ : Hid ((wholeM pr pl i).f ≠ 0 → ou = { zeroU with f := (wholeM pr pl i).f }) := fun hf => by rw [hdo1.out, if_neg hf]
    clear hrun hb3 n0 n1 n2 n3 n4 n5 hdo1 HM HO2
    obtain ⟨p0, p1, p2, p3, p4, p5, p6, pf⟩ := RU.out.cells
    obtain ⟨z0, z1, z2, z3⟩ := four_cells R3.out
    have zf : ∀ q, u3.frozen? ⟨w.heap.size + 1, q, none⟩ = false := fun q => Lib.frozen_of_heap R3.out q
    clear RU
    generalize wholeM pr pl i = rr at *
    by_cases hf : rr.f = 0
    · have df : (rr.f != 0) = false := by simp [hf]
      have HR2 := Lib.hid (HR.out hf)
      clear HR HZ hf
      go_wp2_with fail
      go_region
      change Exit.then _ _ _ _ (World.setCells u3 (w.heap.size + 1) 0 [.slice aw rr.nw cw, .slice as_ rr.ns cs, .int .i64 rr.dice, .int .i64 0]).drew
      have h5 := put_four R3.out (.slice aw rr.nw cw) (.slice as_ rr.ns cs) (.int .i64 rr.dice) (.int .i64 0)
      have h6 : (World.setCells u3 (w.heap.size + 1) 0 [.slice aw rr.nw cw, .slice as_ rr.ns cs, .int .i64 rr.dice, .int .i64 0]).drew.heap[w.heap.size + 1]? = some (.cells #[.slice aw rr.nw cw, .slice as_ rr.ns cs, .int .i64 rr.dice, .int .i64 0] 30 (0, 0)) := ((bdrew (World.setCells u3 (w.heap.size + 1) 0 [.slice aw rr.nw cw, .slice as_ rr.ns cs, .int .i64 rr.dice, .int .i64 0])).block _ (lt_of_block h5)).trans h5
      have LZ := Lib.hid (B3.out.trans (put_low7 (show w.heap.size ≤ w.heap.size + 1 by omega) [.slice aw rr.nw cw, .slice as_ rr.ns cs, .int .i64 rr.dice, .int .i64 0] 0 u3)).drew
      obtain ⟨t0, t1, t2, t3⟩ := four_cells h6
      clear h5 h6
      generalize (World.setCells u3 (w.heap.size + 1) 0 [.slice aw rr.nw cw, .slice as_ rr.ns cs, .int .i64 rr.dice, .int .i64 0]).drew = w9 at *
      go_wp2_with fail
      exact bodyPost_ret (v := .tuple #[.agg #[.slice aw rr.nw cw, .slice as_ rr.ns cs, .int .i64 rr.dice, .int .i64 0], .int .i64 0]) (by simp [results, Try.results11, go_sem, t0, t1, t2, t3]) rfl ⟨_, rfl, HR2.out, LZ.out⟩
    · have df : (rr.f != 0) = true := by simp [hf]
      have HZ2 := Lib.hid (HZ.out hf)
      clear HR HZ hf
      go_wp2_with fail
      change bodyPost _ _ _ _ _ (World.setCells u3 (w.heap.size + 1) 0 [.slice none 0 0, .slice none 0 0, .int .i64 0, .int .i64 rr.f])
      have h5 := put_four R3.out (.slice none 0 0) (.slice none 0 0) (.int .i64 0) (.int .i64 rr.f)
      have LZ := Lib.hid (B3.out.trans (put_low7 (show w.heap.size ≤ w.heap.size + 1 by omega) [.slice none 0 0, .slice none 0 0, .int .i64 0, .int .i64 rr.f] 0 u3))
      obtain ⟨t0, t1, t2, t3⟩ := four_cells h5
      clear h5
      generalize World.setCells u3 (w.heap.size + 1) 0 [.slice none 0 0, .slice none 0 0, .int .i64 0, .int .i64 rr.f] = w9 at *
      exact bodyPost_ret (v := .tuple #[.agg #[.slice none 0 0, .slice none 0 0, .int .i64 0, .int .i64 rr.f], .int .i64 0]) (by simp [results, Try.results11, go_sem, t0, t1, t2, t3]) rfl ⟨_, rfl, by rw [HZ2.out]; exact out_none (o := { zeroU with f := rr.f }) _ _ rfl rfl, LZ.out⟩
  · have d0 : (mn != 0) = true := by simp [h0]
    have HZ2 : Hid (ou = zeroU) := by show _ = _; rw [hdo.out, if_neg h0]
    clear HO hdo h0 hm
    go_wp2_with (go_at_call 14; refine (HM.out _ B1.out).mono ?_; rintro e u2 ⟨rfl, hb2⟩; have R2 := Lib.hid ((hb2.block _ (lt_of_block R1.out)).trans R1.out); have B2 := Lib.hid (bthen B1.out hb2); clear hb2 n0 n1 n2 n3 n4 n5 z0 z1 z2 z3 zf; obtain ⟨z0, z1, z2, z3⟩ := four_cells R2.out; have zf : ∀ q, u2.frozen? ⟨w.heap.size + 1, q, none⟩ = false := fun q => Lib.frozen_of_heap R2.out q)
    change bodyPost _ _ _ _ _ (World.setCells u2 (w.heap.size + 1) 0 [.slice none 0 0, .slice none 0 0, .int .i64 0, .int .i64 0])
    have h5 := put_four R2.out (.slice none 0 0) (.slice none 0 0) (.int .i64 0) (.int .i64 0)
    have LZ := Lib.hid (B2.out.trans (put_low7 (show w.heap.size ≤ w.heap.size + 1 by omega) [.slice none 0 0, .slice none 0 0, .int .i64 0, .int .i64 0] 0 u2))
    obtain ⟨t0, t1, t2, t3⟩ := four_cells h5
    clear h5
    generalize World.setCells u2 (w.heap.size + 1) 0 [.slice none 0 0, .slice none 0 0, .int .i64 0, .int .i64 0] = w9 at *
    exact bodyPost_ret (v := .tuple #[.agg #[.slice none 0 0, .slice none 0 0, .int .i64 0, .int .i64 0], .int .i64 mn]) (by simp [results, Try.results11, go_sem, t0, t1, t2, t3]) rfl ⟨_, rfl, by rw [HZ2.out]; exact out_none (o := zeroU) _ _ rfl rfl, LZ.out⟩

end Go.Proofs.Ytehdlpgopcoecaa
