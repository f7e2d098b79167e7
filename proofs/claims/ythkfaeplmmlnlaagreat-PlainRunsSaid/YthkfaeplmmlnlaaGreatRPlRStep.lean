/- The contract of the document's Step, where an event waits. -/
import Derived.Deep.Cut
import Derived.Test.YthkfaeplmmlnlaaGreatRZ14
import Derived.Test.YthkfaeplmmlnlaaGreatRPlStep
import Derived.Test.YthkfaeplmmlnlaaGreatRZ0
import Derived.Test.YthkfaeplmmlnlaaGreatRZ12
namespace Go.Proofs.YthkfaeplmmlnlaaGreat
open Go.RowKit Go.Deep Go.Maps
set_option linter.unusedVariables false
set_option maxRecDepth 100000

/-- a slice whose block is not hidden -/
theorem sl_loc {S : Nat → Bool} {C n : Nat} {f : Nat → Nat → Value} {v : Value} {w : World} (h : Sl C f n v w) (hl : ∀ b, v.ownBlock = some b → n = 0 ∨ S b = false) : Sl C f n v (HdS S w) := by
  obtain ⟨a, c, rfl, h1, h2, h3⟩ := h
  refine ⟨a, c, rfl, h1, h2, fun h0 => ?_⟩
  obtain ⟨b, q, rfl, hA⟩ := h3 h0
  have hs : S b = false := by
    rcases hl b rfl with h9 | h9
    · omega
    · exact h9
  exact ⟨b, q, rfl, by rw [HdS.size]; exact hA.1, fun i hi j hj => by rw [← hA.2 i hi j hj]; exact World.cell?_of_block (HdS.other w hs)⟩
/-- .. and not the block that is written -/
theorem sl_farB {C n B : Nat} {f : Nat → Nat → Value} {v : Value} {w : World} (h : Sl C f n v w) (hl : ∀ b, v.ownBlock = some b → n = 0 ∨ b ≠ B) (l : List Value) (o : Nat) : Sl C f n v (w.setCells B o l) := by
  obtain ⟨a, c, rfl, h1, h2, h3⟩ := h
  refine ⟨a, c, rfl, h1, h2, fun h0 => ?_⟩
  obtain ⟨b, q, rfl, hA⟩ := h3 h0
  have hb : b ≠ B := by
    rcases hl b rfl with h9 | h9
    · omega
    · exact h9
  exact ⟨b, q, rfl, Nat.lt_of_lt_of_le hA.1 (put_low7 (Nat.zero_le B) l o w).size, fun i hi j hj => by rw [World.cell?_setCells_out B l o w _ (fun e => absurd e hb)]; exact hA.2 i hi j hj⟩
/-- where a slice that stands in what is not hidden lies -/
theorem sl_where {S : Nat → Bool} {C n : Nat} {f : Nat → Nat → Value} {v : Value} {w : World} (hC : 0 < C) (h : Sl C f n v (HdS S w)) {b : Nat} (hb : v.ownBlock = some b) : n = 0 ∨ (S b = false ∧ b < w.heap.size) := by
  obtain ⟨a, c, rfl, h1, h2, h3⟩ := h
  rcases Nat.eq_zero_or_pos n with h0 | h0
  · exact .inl h0
  · obtain ⟨b2, q, rfl, hA⟩ := h3 h0
    simp only [Value.ownBlock, Option.some.injEq] at hb
    subst hb
    obtain ⟨cs, t, f9, e⟩ := cell_block (hA.2 0 h0 0 hC)
    exact .inr ⟨(HdS.cells e).1, by have := hA.1; rwa [HdS.size] at this⟩
theorem info_done9R : (Tryz.prog.info? 43).map (fun i => (i.zero, i.size, i.bytes)) = some (some (.agg #[.float .f64 0, .int .i64 0, .int .i64 0, .int .i64 0, .int .i64 0, .int .i64 0]), 6, 48) := by kernel_rfl
theorem gD_oneR (D : Nat → Dn) (i c : Nat) : (gD D i c).oneCell' = true := by
  rcases c with _ | _ | _ | _ | _ | c <;> rfl
theorem done_cells {D : Nat → Dn} {q : Dn} {nd : Nat} : rowCells 6 (gD D) nd ++ rowCells 6 (gD fun _ => q) 1 = rowCells 6 (gD fun i => if i = nd then q else D i) (nd + 1) := by
  rw [rowCells_append 6 (by decide)]
  refine rowCells_congr (by decide) fun i hi c hc => ?_
  by_cases h : i < nd
  · rw [if_pos h]
    have e : i ≠ nd := by omega
    unfold gD
    rcases c with _ | _ | _ | _ | _ | c <;> simp only [if_neg e]
  · obtain rfl : i = nd := by omega
    rw [if_neg h]
    unfold gD
    rcases c with _ | _ | _ | _ | _ | c <;> simp only [if_pos]
theorem gT_one {S : Nat → Sta} {g : Nat → Value} {i C n : Nat} {f : Nat → Nat → Value} {w : World} (h : Sl C f n (g i) w) (c : Nat) : (gT S g i c).oneCell' = true := by
  obtain ⟨a, cc, e, _⟩ := h
  rcases c with _ | _ | c
  · show (g i).oneCell' = true
    rw [e]; rfl
  · rfl
  · rfl
theorem sl_lt {C n : Nat} {f : Nat → Nat → Value} {v : Value} {w : World} (h : Sl C f n v w) {b : Nat} (hb : v.ownBlock = some b) : n = 0 ∨ b < w.heap.size := by
  obtain ⟨a, c, rfl, h1, h2, h3⟩ := h
  rcases Nat.eq_zero_or_pos n with h0 | h0
  · exact .inl h0
  · obtain ⟨b2, q, rfl, hA⟩ := h3 h0
    simp only [Value.ownBlock, Option.some.injEq] at hb
    subst hb
    exact .inr hA.1
theorem StRow.sl {bs n : Nat} {G : Nat → Nat → Value} {v : Value} {u : World} (h : StRow bs G n v u) : Sl 3 G n v u := by
  obtain ⟨c, rfl, h1, h2⟩ := h.v
  exact ⟨_, c, rfl, h1, h2, fun _ => ⟨bs, 0, rfl, h.lt, fun i hi j hj => by rw [Nat.zero_add]; exact h.c i hi j hj⟩⟩
theorem RSim.unhide {S S1 : Nat → Bool} {P : Nat} {m : Mdl} {vd vp vl vi : Value} {x : Sm} {nd : Nat} {D : Nat → Dn} {vS vW vD : Value} {u : World} (h : RSim S1 P m vd vp vl vi x nd D vS vW vD u) (hs : ∀ k, S k = true → S1 k = true) (hP : S P = true) : RSim S P m vd vp vl vi x nd D vS vW vD u := by
  obtain ⟨gp, p1, p2⟩ := h.mdl.p
  obtain ⟨gl, l1, l2⟩ := h.mdl.l
  obtain ⟨g, s1, s2⟩ := h.st
  exact ⟨h.box, hP, fun q hq => h.lo q (hs q hq), ⟨h.mdl.d.unh hs, ⟨gp, p1.unh hs, fun i hi => (p2 i hi).unh hs⟩, ⟨gl, l1.unh hs, fun i hi => (l2 i hi).unh hs⟩, h.mdl.i.unh hs⟩, ⟨g, s1.unh hs, fun i hi => (s2 i hi).unh hs⟩, h.wt.unh hs, h.dn.unh hs, h.wf⟩
theorem RSim.below2 {S S2 : Nat → Bool} {P : Nat} {m : Mdl} {vd vp vl vi : Value} {x : Sm} {nd : Nat} {D : Nat → Dn} {vS vW vD : Value} {u u2 : World} (h : RSim S P m vd vp vl vi x nd D vS vW vD u) (k : Below u.heap.size u u2) (e : ∀ q, q < u.heap.size → S2 q = S q) (lo : ∀ q, S2 q = true → q < u2.heap.size) : RSim S2 P m vd vp vl vi x nd D vS vW vD u2 := by
  have k2 : Below (HdS S u).heap.size (HdS S u) (HdS S2 u2) := by rw [HdS.size]; exact HdS.below2 k e
  exact ⟨(k.block _ h.lt).trans h.box, (e _ h.lt).trans h.hP, lo, h.mdl.below k2, h.st.below k2, h.wt.below k2, h.dn.below k2, h.wf⟩

set_option maxHeartbeats 12800000 in
theorem rstep_some (S : Nat → Bool) (P : Nat) (m : Mdl) (vd vp vl vi : Value) (x : Sm) (nd : Nat) (D : Nat → Dn) (vS vW vD : Value) (et : Nat) (es en : Int) (d : Nat) (ep : Int) (W2 : List Evn) (H : Hnd) (u : World) (hx : RSim S P m vd vp vl vi x nd D vS vW vD u) (hw : x.W = ⟨et, es, en, (d : Int), ep⟩ :: W2) (hlen : W2.length ≤ 900)
    (hc : chkN m = 0) (hb : ∀ p k, r64v (m.pr p k).b) (hd : d < m.nl) (hbd : Bd (beginM (inpOf m (d : Int) (x.S d) ⟨et, es, en, (d : Int), ep⟩))) (hnd : nd ≤ 1000) (hH : H = handH m (d : Int) (x.S d) ⟨et, es, en, (d : Int), ep⟩) (hl4 : H.l.n ≤ 4) (hnw : H.s.nw = (x.S d).nw) (hnl : m.nl ≤ 1000) :
    Calls Tryz.prog 11 #[.pointer (some ⟨P, 0, none⟩)] u fun r u' => r = .returned (.tuple #[.agg #[.float .f64 et, .int .i64 es, .int .i64 en, .int .i64 (d : Int), .int .i64 ep, .int .i64 H.f], .bool true]) ∧
      (∃ vS' vW' vD', RSim S P m vd vp vl vi ⟨updS x.S d H.s, insAll W2 (toL H.l)⟩ (nd + 1) (fun i => if i = nd then ⟨⟨et, es, en, (d : Int), ep⟩, H.f⟩ else D i) vS' vW' vD' u') ∧ Kp P u u' := by
  obtain ⟨i0, hi0, hz0, hz1, hz2⟩ := info_parts info_event8
  obtain ⟨i1, hi1, hy0, hy1, hy2⟩ := info_parts info_state9
  obtain ⟨i2, hi2, hx0, hx1, hx2⟩ := info_parts info_done9R
  have R0 := Lib.hid hx
  have hP := hx.lt
  have HLO := Lib.hid hx.lo
  have HSP := Lib.hid hx.hP
  obtain ⟨S1, hS1⟩ : ∃ S1, S1 = addS S u.heap.size := ⟨_, rfl⟩
  have SUB : Hid (∀ k, S k = true → S1 k = true) := fun k hk => by rw [hS1]; simp [addS, hk]
  have SD0 := Lib.hid (show S1 u.heap.size = true by rw [hS1]; simp [addS])
  have SLO : Hid (∀ k, S1 k = true → k ≤ u.heap.size) := fun k hk => by
    rw [hS1] at hk
    simp only [addS, Bool.or_eq_true, beq_iff_eq] at hk
    rcases hk with hk | rfl
    · exact Nat.le_of_lt (HLO.out k hk)
    · exact Nat.le_refl _
  have X0 := Lib.hid (heap_alloc_new u (.cells #[.float .f64 0, .int .i64 0, .int .i64 0, .int .i64 0, .int .i64 0, .int .i64 0] 43))
  have B0 := Lib.hid (balloc u (.cells #[.float .f64 0, .int .i64 0, .int .i64 0, .int .i64 0, .int .i64 0, .int .i64 0] 43))
  have R1 : Hid (RSim S1 P m vd vp vl vi x nd D (vS) (vW) (vD) (u.alloc (.cells #[.float .f64 0, .int .i64 0, .int .i64 0, .int .i64 0, .int .i64 0, .int .i64 0] 43))) := hx.below2 (balloc u (.cells #[.float .f64 0, .int .i64 0, .int .i64 0, .int .i64 0, .int .i64 0, .int .i64 0] 43)) (fun k hk => by rw [hS1]; simp [addS]; omega) (fun k hk => by have := SLO.out k hk; rw [World.size_alloc]; omega)
  have Z0 : Hid ((u.alloc (.cells #[.float .f64 0, .int .i64 0, .int .i64 0, .int .i64 0, .int .i64 0, .int .i64 0] 43)).heap.size = u.heap.size + 1) := World.size_alloc _ _
  clear hS1 hx
  obtain ⟨g, hsl, hwd⟩ := id R1.out.st
  obtain ⟨aS, cS, rfl, s1, s2, s3⟩ := hsl
  obtain ⟨bs, os, rfl, hAS⟩ := s3 (by omega)
  have HSH : Hid (Sl 3 (gT x.S g) m.nl (.slice (some ⟨bs, os, none⟩) m.nl cS) (HdS S1 (u.alloc (.cells #[.float .f64 0, .int .i64 0, .int .i64 0, .int .i64 0, .int .i64 0, .int .i64 0] 43)))) := ⟨_, cS, rfl, s1, s2, s3⟩
  have HWD := Lib.hid hwd
  obtain ⟨aW, cW, rfl, n1, n2, n3⟩ := id R1.out.wt
  have hn : x.W.length = W2.length + 1 := by rw [hw]; rfl
  obtain ⟨b, o, rfl, hAW⟩ := n3 (by omega)
  have HWT : Hid (∀ w, Below (u.alloc (.cells #[.float .f64 0, .int .i64 0, .int .i64 0, .int .i64 0, .int .i64 0, .int .i64 0] 43)).heap.size (u.alloc (.cells #[.float .f64 0, .int .i64 0, .int .i64 0, .int .i64 0, .int .i64 0, .int .i64 0] 43)) w → w.cell? ⟨b, o, none⟩ = some (.float .f64 et) ∧ w.cell? ⟨b, o + 1, none⟩ = some (.int .i64 es) ∧ w.cell? ⟨b, o + 2, none⟩ = some (.int .i64 en) ∧ w.cell? ⟨b, o + 3, none⟩ = some (.int .i64 (d : Int)) ∧ w.cell? ⟨b, o + 4, none⟩ = some (.int .i64 ep)) := fun w k => by
    have e0 : evF x.W 0 = ⟨et, es, en, (d : Int), ep⟩ := by rw [hw]; rfl
    have hq : ∀ j, j < 5 → w.cell? ⟨b, o + j, none⟩ = some (gV8 (evF x.W) 0 j) := fun j hj => by
      have h1 := HdS.cell (hAW.2 0 (by omega) j hj)
      rw [show o + 0 * 5 + j = o + j by omega] at h1
      have hlt := World.block_lt_of_cell? _ _ h1
      rw [← h1]
      exact k.cell hlt
    have q0 := hq 0 (by omega); have q1 := hq 1 (by omega); have q2 := hq 2 (by omega); have q3 := hq 3 (by omega); have q4 := hq 4 (by omega)
    unfold gV8 at q0 q1 q2 q3 q4
    rw [e0] at q0 q1 q2 q3 q4
    exact ⟨q0, q1, q2, q3, q4⟩
  obtain ⟨o1, ho1⟩ : ∃ o1, (if cW = 1 then some (⟨b, o, none⟩ : Addr) else some ⟨b, o + 1 * 5, none⟩) = some ⟨b, o1, none⟩ := by split <;> exact ⟨_, rfl⟩
  have HW1 : Hid (∀ w, (Instr.slice 50 (.slice (some ⟨b, o, none⟩) x.W.length cW) (some (.int .i64 1)) none none).run Tryz.prog w = .ok (.slice (some ⟨b, o1, none⟩) W2.length (cW - 1)) w) := fun w => by
    have h := slice_l_run (P := Tryz.prog) (t := 50) Tryz.underlying50 hi0 b o x.W.length cW 1 (by omega) w
    rw [hz1, ho1, hn] at h
    rw [hn]
    exact h
  have HST : Hid (Sl 5 (gV8 (evF W2)) W2.length (.slice (some ⟨b, o1, none⟩) W2.length (cW - 1)) (HdS S1 (u.alloc (.cells #[.float .f64 0, .int .i64 0, .int .i64 0, .int .i64 0, .int .i64 0, .int .i64 0] 43)))) := by
    have h := sl_drop (p := 1) (show Sl 5 (gV8 (evF x.W)) x.W.length (.slice (some ⟨b, o, none⟩) x.W.length cW) (HdS S1 (u.alloc (.cells #[.float .f64 0, .int .i64 0, .int .i64 0, .int .i64 0, .int .i64 0, .int .i64 0] 43))) from ⟨_, _, rfl, n1, n2, n3⟩) (by omega)
    rw [ho1, hn, Nat.add_sub_cancel] at h
    rw [hw] at h
    exact h
  have hne : ((x.W.length : Int) == 0) = false := beq_eq_false_iff_ne.2 (by omega)
  have HN := Lib.hid hn
  clear hwd s3 n3 hAS hAW hn
  have hsf := store_float
  go_enter Tryz.func11, Tryz.ntmps11
  go_upto_region 1 with fail
  generalize u.alloc (.cells #[.float .f64 0, .int .i64 0, .int .i64 0, .int .i64 0, .int .i64 0, .int .i64 0] 43) = u1 at *
  have hcw : u1.cell? ⟨P, 7, none⟩ = some (.slice (some ⟨b, o, none⟩) x.W.length cW) := R1.out.cells.2.2.2.2.2.2.2.1
  go_upto_region 3 with fail
  clear hcw
  have X1 := Lib.hid (heap_alloc_new u1 (.cells #[.float .f64 0, .int .i64 0, .int .i64 0, .int .i64 0, .int .i64 0] 41))
  have hcw : u1.cell? ⟨P, 7, none⟩ = some (.slice (some ⟨b, o, none⟩) x.W.length cW) := R1.out.cells.2.2.2.2.2.2.2.1
  obtain ⟨e0, e1, e2, e3, e4⟩ := HWT.out _ (Below.refl _ _)
  have hl0 : (0 : Int) < (x.W.length : Int) := by have := HN.out; omega
  have zf : ∀ q, (u1.alloc (.cells #[.float .f64 0, .int .i64 0, .int .i64 0, .int .i64 0, .int .i64 0] 41)).frozen? ⟨u1.heap.size, q, none⟩ = false := fun q => Lib.frozen_of_heap X1.out q
  obtain ⟨z0, z1, z2, z3, z4⟩ := five_cells8 X1.out
  go_upto_region 4 with fail
  clear z0 z1 z2 z3 z4 zf e0 e1 e2 e3 e4 hcw hl0 X1
  have X2 := Lib.hid (heap_alloc_new u1 (.cells #[.float .f64 et, .int .i64 es, .int .i64 en, .int .i64 (d : Int), .int .i64 ep] 41))
  have B2 := Lib.hid (balloc u1 (.cells #[.float .f64 et, .int .i64 es, .int .i64 en, .int .i64 (d : Int), .int .i64 ep] 41))
  generalize u1.alloc (.cells #[.float .f64 et, .int .i64 es, .int .i64 en, .int .i64 (d : Int), .int .i64 ep] 41) = u2 at *
  have R2 := Lib.hid (R1.out.below B2.out)
  have hcw := R2.out.cells.2.2.2.2.2.2.2.1
  have hfz := R2.out.cells.2.2.2.2.2.2.2.2.2 7
  have h1 := HW1.out
  go_upto_region 5 with fail
  clear hcw hfz h1 HWT HW1
  have R4 : Hid (RSim S1 P m vd vp vl vi ⟨x.S, W2⟩ nd D (.slice (some ⟨bs, os, none⟩) m.nl cS) (.slice (some ⟨b, o1, none⟩) W2.length (cW - 1)) (vD) (u2.setCell ⟨P, 7, none⟩ (.slice (some ⟨b, o1, none⟩) W2.length (cW - 1)))) := R2.out.put 7 _ rfl R2.out.st (HST.out.below (KpS.of B2.out).hd) R2.out.dn (.inr ⟨b, o1, _, rfl⟩)
  have K4 := Lib.hid ((Kp.of (tb := P) B2.out).trans (Kp.set P 7 (.slice (some ⟨b, o1, none⟩) W2.length (cW - 1)) u2))
  have hPu : P < u1.heap.size := Nat.lt_of_lt_of_le hP B0.out.size
  have X4 := Lib.hid ((Below.heap_setCell u2 ⟨P, 7, none⟩ (.slice (some ⟨b, o1, none⟩) W2.length (cW - 1)) u1.heap.size (show u1.heap.size ≠ P by omega)).trans X2.out)
  have Z4 : Hid (u1.heap.size < u2.heap.size) := lt_of_block X2.out
  have Y4 : Hid (u2.heap.size ≤ (u2.setCell ⟨P, 7, none⟩ (.slice (some ⟨b, o1, none⟩) W2.length (cW - 1))).heap.size) := Nat.le_of_eq (World.size_setCell _ _ _).symm
  generalize u2.setCell ⟨P, 7, none⟩ (.slice (some ⟨b, o1, none⟩) W2.length (cW - 1)) = u4 at *
  have HSH4 := Lib.hid (HSH.out.below (K4.out.hds R1.out.hP))
  have HWD4 : Hid (∀ k, k < m.nl → Sl 1 (gW (x.S k).w) (x.S k).nw (g k) (HdS S1 u4)) := fun k hk => (HWD.out k hk).below (K4.out.hds R1.out.hP)
  have S5o : Hid (∀ w', Below u4.heap.size u4 w' → (fun w' => w'.cell? ⟨P, 0, none⟩ = some (.int .i64 m.seed) ∧ w'.cell? ⟨P, 1, none⟩ = some (.float .f64 m.fin) ∧ w'.cell? ⟨P, 2, none⟩ = some (vd) ∧ w'.cell? ⟨P, 3, none⟩ = some (vp) ∧ w'.cell? ⟨P, 4, none⟩ = some (vl) ∧ w'.cell? ⟨P, 5, none⟩ = some (vi) ∧ w'.cell? ⟨P, 6, none⟩ = some (.slice (some ⟨bs, os, none⟩) m.nl cS) ∧ w'.cell? ⟨u1.heap.size, 0, none⟩ = some (.float .f64 et) ∧ w'.cell? ⟨u1.heap.size, 1, none⟩ = some (.int .i64 es) ∧ w'.cell? ⟨u1.heap.size, 2, none⟩ = some (.int .i64 en) ∧ w'.cell? ⟨u1.heap.size, 3, none⟩ = some (.int .i64 (d : Int)) ∧ w'.cell? ⟨u1.heap.size, 4, none⟩ = some (.int .i64 ep) ∧ w'.cell? ⟨bs, os + d * 3, none⟩ = some (g d) ∧ w'.cell? ⟨bs, os + d * 3 + 1, none⟩ = some (.int .i64 (x.S d).sent) ∧ w'.cell? ⟨bs, os + d * 3 + 2, none⟩ = some (.int .i64 (x.S d).dice)) w') := fun w' k => by
    obtain ⟨p0, p1, p2, p3, p4, p5, p6, _⟩ := (R4.out.below k).cells
    obtain ⟨q0, q1, q2, q3, q4⟩ := five_cells8 ((k.block _ (lt_of_block X4.out)).trans X4.out)
    obtain ⟨a9, c9, e9, _, _, h3⟩ := HSH4.out.hds.below k
    simp only [Value.slice.injEq, true_and] at e9
    obtain ⟨rfl, rfl⟩ := e9
    obtain ⟨b9, o9, e8, hA⟩ := h3 (by omega)
    simp only [Option.some.injEq, Addr.mk.injEq, and_true] at e8
    obtain ⟨rfl, rfl⟩ := e8
    exact ⟨p0, p1, p2, p3, p4, p5, p6, q0, q1, q2, q3, q4, hA.2 d hd 0 (by omega), hA.2 d hd 1 (by omega), hA.2 d hd 2 (by omega)⟩
  have HR : Hid (∀ u', Below u4.heap.size u4 u' → Calls Tryz.prog 17 #[.agg #[.int .i64 m.seed, .float .f64 m.fin, vd, vp, vl, vi], .int .i64 (d : Int), .agg #[g d, .int .i64 (x.S d).sent, .int .i64 (x.S d).dice], .agg #[.float .f64 et, .int .i64 es, .int .i64 en, .int .i64 (d : Int), .int .i64 ep]] u' fun r w' => ∃ ax cx ae ce, r = .returned (.tuple #[.agg #[.slice ax H.s.nw cx, .int .i64 H.s.sent, .int .i64 H.s.dice], .slice ae H.l.n ce, .int .i64 H.f, .int .i64 H.e]) ∧ Sl 1 (gW H.s.w) H.s.nw (.slice ax H.s.nw cx) w' ∧ Sl 5 (gV8 H.l.f) H.l.n (.slice ae H.l.n ce) w' ∧ Below u'.heap.size u' w' ∧
      (∀ b9, (Value.slice ax H.s.nw cx).ownBlock = some b9 → H.s.nw = 0 ∨ (S1 b9 = false ∧ b9 < w'.heap.size ∧ (b9 < u4.heap.size ∨ u'.heap.size ≤ b9))) ∧ (∀ b9, (Value.slice ae H.l.n ce).ownBlock = some b9 → H.l.n = 0 ∨ (S1 b9 = false ∧ b9 < w'.heap.size ∧ u'.heap.size ≤ b9))) := by
    intro u' k
    have h9 := refHandle9_any m vd vp vl vi (d : Int) (x.S d) (g d) ⟨et, es, en, (d : Int), ep⟩ u' (((R4.out.below k).mdl).hds) (((HWD4.out d hd).hds).below k) hc hb hbd
    have hsz : u.heap.size < u4.heap.size := by have := Z0.out; have := Z4.out; have := Y4.out; omega
    refine h9.mono ?_
    rintro r w' ⟨vs, ve, rfl, q1, q2, q3, q4, q5⟩
    subst hH
    obtain ⟨ax, cx, rfl, _, _, _⟩ := id q1
    obtain ⟨ae, ce, rfl, _, _, _⟩ := id q2
    have no : ∀ b9, u'.heap.size ≤ b9 → S1 b9 = false := fun b9 h8 => by
      cases c9 : S1 b9 with
      | false => rfl
      | true => have := SLO.out b9 c9; have := k.size; omega
    refine ⟨ax, cx, ae, ce, rfl, q1, q2, q3, fun b9 hb9 => ?_, fun b9 hb9 => ?_⟩
    · rcases sl_lt q1 hb9 with h8 | h8
      · exact .inl h8
      · rcases q4 with q4 | q4
        · rw [q4] at hb9
          rcases sl_where (by decide) (HWD4.out d hd) hb9 with h7 | h7
          · exact .inl (by rw [hnw]; exact h7)
          · exact .inr ⟨h7.1, h8, .inl h7.2⟩
        · have h7 := q4 b9 hb9
          exact .inr ⟨no b9 h7, h8, .inr h7⟩
    · rcases sl_lt q2 hb9 with h8 | h8
      · exact .inl h8
      · have h7 := q5 b9 hb9
        exact .inr ⟨no b9 h7, h8, h7⟩
  have L5 := Lib.hid (bdrew u4)
  have hd0 : (0 : Int) ≤ (d : Int) := by omega
  have hd1 : (d : Int) < (m.nl : Int) := by omega
  have HHE := Lib.hid hH
  have HWE := Lib.hid hw
  have HNW := Lib.hid hnw
  clear hbd hH hb hw hnw
  go_cut [5, 6, 7] (fun p l f wx => ∃ B5 ax cx ae ce, p = .pointer (some ⟨B5, 0, none⟩) ∧ l = .slice ae H.l.n ce ∧ f = .int .i64 H.f ∧ wx.heap[B5]? = some (.cells #[.slice ax H.s.nw cx, .int .i64 H.s.sent, .int .i64 H.s.dice] 55 (0, 0)) ∧ u4.heap.size ≤ B5 ∧ Sl 1 (gW H.s.w) H.s.nw (.slice ax H.s.nw cx) (HdS S1 wx) ∧ Sl 5 (gV8 H.l.f) H.l.n (.slice ae H.l.n ce) (HdS S1 wx) ∧ Below u4.heap.size u4 wx)
  case first =>
    refine wp_region_held_drew (S := (fun w' => w'.cell? ⟨P, 0, none⟩ = some (.int .i64 m.seed) ∧ w'.cell? ⟨P, 1, none⟩ = some (.float .f64 m.fin) ∧ w'.cell? ⟨P, 2, none⟩ = some (vd) ∧ w'.cell? ⟨P, 3, none⟩ = some (vp) ∧ w'.cell? ⟨P, 4, none⟩ = some (vl) ∧ w'.cell? ⟨P, 5, none⟩ = some (vi) ∧ w'.cell? ⟨P, 6, none⟩ = some (.slice (some ⟨bs, os, none⟩) m.nl cS) ∧ w'.cell? ⟨u1.heap.size, 0, none⟩ = some (.float .f64 et) ∧ w'.cell? ⟨u1.heap.size, 1, none⟩ = some (.int .i64 es) ∧ w'.cell? ⟨u1.heap.size, 2, none⟩ = some (.int .i64 en) ∧ w'.cell? ⟨u1.heap.size, 3, none⟩ = some (.int .i64 (d : Int)) ∧ w'.cell? ⟨u1.heap.size, 4, none⟩ = some (.int .i64 ep) ∧ w'.cell? ⟨bs, os + d * 3, none⟩ = some (g d) ∧ w'.cell? ⟨bs, os + d * 3 + 1, none⟩ = some (.int .i64 (x.S d).sent) ∧ w'.cell? ⟨bs, os + d * 3 + 2, none⟩ = some (.int .i64 (x.S d).dice))) (by kernel_rfl) ?_ (fun hHeld => ?_)
    · exact S5o.out _ L5.out
    change wpAnyH _ _ _ _ _ _ _ _ (World.drew u4)
    generalize u4.drew = u5 at *
    first | refine tq0 0 rfl ?_ | refine tq1 0 rfl ?_
    try go_frame
    first | refine tq0 1 rfl ?_ | refine tq1 1 rfl ?_
    try go_frame
    first | refine tq0 2 rfl ?_ | refine tq1 2 rfl ?_
    try go_frame
    first | refine tq0 3 rfl ?_ | refine tq1 3 rfl ?_
    try go_frame
    first | refine tq0 4 rfl ?_ | refine tq1 4 rfl ?_
    try go_frame
    first | refine tq0 5 rfl ?_ | refine tq1 5 rfl ?_
    try go_frame
    first | refine tq0 6 rfl ?_ | refine tq1 6 rfl ?_
    try go_frame
    first | refine tq0 7 rfl ?_ | refine tq1 7 rfl ?_
    try go_frame
    first | refine tq0 8 rfl ?_ | refine tq1 8 rfl ?_
    try go_frame
    first | refine tq0 9 rfl ?_ | refine tq1 9 rfl ?_
    try go_frame
    first | refine tq0 10 rfl ?_ | refine tq1 10 rfl ?_
    try go_frame
    first | refine tq0 11 rfl ?_ | refine tq1 11 rfl ?_
    try go_frame
    first | refine tq0 12 rfl ?_ | refine tq1 12 rfl ?_
    try go_frame
    first | refine tq0 13 rfl ?_ | refine tq1 13 rfl ?_
    try go_frame
    first | refine tq0 14 rfl ?_ | refine tq1 14 rfl ?_
    try go_frame
    refine wpAnyH_ready (rs := [15, 21]) (by kernel_rfl) (by simp) ?_
    refine AllReadyH.cons (o := ⟨_, _, _, _, _, _⟩) rfl (fun K hK => ?_) (AllReadyH.cons (o := ⟨_, _, _, _, _, _⟩) rfl (fun K hK => ?_) AllReadyH.nil)
    · go_simp
      go_at_call 17
      refine (HR.out _ L5.out).mono ?_
      rintro z w1 ⟨ax, cx, ae, ce, rfl, h1, h2, hb1, hl1, hl2⟩
      have L6a := Lib.hid (L5.out.trans (hb1.mono L5.out.size))
      have SW := Lib.hid h1
      have SE := Lib.hid h2
      have LW := Lib.hid hl1
      have LE := Lib.hid hl2
      refine hK.out _ _ ?_ (fun hHeld => ?_)
      · exact S5o.out _ L6a.out
      clear hK K
      try go_frame
      have Q1 := Lib.hid hb1.size
      clear h1 h2 hb1 hl1 hl2
      first | refine tq0 16 rfl ?_ | refine tq1 16 rfl ?_
      try go_frame
      first | refine tq0 17 rfl ?_ | refine tq1 17 rfl ?_
      try go_frame
      first | refine tq0 18 rfl ?_ | refine tq1 18 rfl ?_
      try go_frame
      first | refine tq0 19 rfl ?_ | refine tq1 19 rfl ?_
      try go_frame
      first | refine tq0 20 rfl ?_ | refine tq1 20 rfl ?_
      try go_frame
      refine wpAnyH_ready (rs := [21]) (by kernel_rfl) (by simp) ?_
      refine AllReadyH.cons (o := ⟨_, _, _, _, _, _⟩) rfl (fun K hK => ?_) AllReadyH.nil
      have L6b := Lib.hid (L6a.out.trans ((balloc w1 (.cells #[.slice none 0 0, .int .i64 0, .int .i64 0] 55)).mono L6a.out.size))
      have X5 := Lib.hid (heap_alloc_new w1 (.cells #[.slice none 0 0, .int .i64 0, .int .i64 0] 55))
      have HB5 := Lib.hid (show u4.heap.size ≤ w1.heap.size from L6a.out.size)
      go_simp
      refine hK.out _ _ ?_ (fun hHeld => ?_)
      · exact S5o.out _ L6b.out
      clear hK K
      try go_frame
      have NW : Hid (∀ b9, (Value.slice ax H.s.nw cx).ownBlock = some b9 → H.s.nw = 0 ∨ b9 ≠ w1.heap.size) := fun b9 hb9 => (LW.out b9 hb9).imp id fun h9 => by have := h9.2; omega
      have NE : Hid (∀ b9, (Value.slice ae H.l.n ce).ownBlock = some b9 → H.l.n = 0 ∨ b9 ≠ w1.heap.size) := fun b9 hb9 => (LE.out b9 hb9).imp id fun h9 => by have := h9.2.1; omega
      have SW := Lib.hid (SW.out.below (balloc w1 (.cells #[.slice none 0 0, .int .i64 0, .int .i64 0] 55)))
      have SE := Lib.hid (SE.out.below (balloc w1 (.cells #[.slice none 0 0, .int .i64 0, .int .i64 0] 55)))
      generalize w1.alloc (.cells #[.slice none 0 0, .int .i64 0, .int .i64 0] 55) = w2 at *
      refine wpAnyH_ready (rs := [22]) (by kernel_rfl) (by simp) ?_
      refine AllReadyH.cons (o := ⟨_, _, _, _, _, _⟩) rfl (fun K hK => ?_) AllReadyH.nil
      have L6 := Lib.hid (L6b.out.trans (put_low7 HB5.out [.slice ax H.s.nw cx, .int .i64 H.s.sent, .int .i64 H.s.dice] 0 w2))
      have X6 := Lib.hid (put_three8 X5.out (.slice ax H.s.nw cx) (.int .i64 H.s.sent) (.int .i64 H.s.dice))
      have SW6 := Lib.hid (sl_loc (S := S1) (sl_farB SW.out NW.out [.slice ax H.s.nw cx, .int .i64 H.s.sent, .int .i64 H.s.dice] 0) (fun b9 hb9 => (LW.out b9 hb9).imp id fun h9 => h9.1))
      have SE6 := Lib.hid (sl_loc (S := S1) (sl_farB SE.out NE.out [.slice ax H.s.nw cx, .int .i64 H.s.sent, .int .i64 H.s.dice] 0) (fun b9 hb9 => (LE.out b9 hb9).imp id fun h9 => h9.1))
      have zf : ∀ q9, w2.frozen? ⟨w1.heap.size, q9, none⟩ = false := fun q9 => Lib.frozen_of_heap X5.out q9
      obtain ⟨z0, z1, z2⟩ := three_cells8 X5.out
      go_simp
      change K _ (World.setCells w2 (w1.heap.size) 0 [.slice ax H.s.nw cx, .int .i64 H.s.sent, .int .i64 H.s.dice])
      have BX := Lib.hid HB5.out
      clear z0 z1 z2 zf X5 SW SE HB5 NW NE LW LE
      generalize World.setCells w2 (w1.heap.size) 0 [.slice ax H.s.nw cx, .int .i64 H.s.sent, .int .i64 H.s.dice] = w6 at *
      generalize w1.heap.size = B5 at *
      refine hK.out _ _ ?_ (fun hHeld => ?_)
      · exact S5o.out _ L6.out
      clear hK K
      try go_frame
      first | refine tq0 23 rfl ?_ | refine tq1 23 rfl ?_
      try go_frame
      first | refine tq0 24 rfl ?_ | refine tq1 24 rfl ?_
      try go_frame
      first | refine tq0 25 rfl ?_ | refine tq1 25 rfl ?_
      try go_frame
      refine wpAnyH_done (by kernel_rfl) ?_ _
      clear hHeld
      go_wp2_with fail
      go_meet
      exact ⟨_, ax, cx, ae, ce, rfl, rfl, rfl, X6.out, BX.out, SW6.out, SE6.out, L6.out⟩
    · have L6a := Lib.hid (L5.out.trans ((balloc u5 (.cells #[.slice none 0 0, .int .i64 0, .int .i64 0] 55)).mono L5.out.size))
      have X5 := Lib.hid (heap_alloc_new u5 (.cells #[.slice none 0 0, .int .i64 0, .int .i64 0] 55))
      have HB5 := Lib.hid (show u4.heap.size ≤ u5.heap.size from L5.out.size)
      go_simp
      refine hK.out _ _ ?_ (fun hHeld => ?_)
      · exact S5o.out _ L6a.out
      clear hK K
      try go_frame
      have Z5 : Hid ((u5.alloc (.cells #[.slice none 0 0, .int .i64 0, .int .i64 0] 55)).heap.size = u5.heap.size + 1) := World.size_alloc _ _
      generalize u5.alloc (.cells #[.slice none 0 0, .int .i64 0, .int .i64 0] 55) = w0 at *
      refine wpAnyH_ready (rs := [15]) (by kernel_rfl) (by simp) ?_
      refine AllReadyH.cons (o := ⟨_, _, _, _, _, _⟩) rfl (fun K hK => ?_) AllReadyH.nil
      go_simp
      go_at_call 17
      refine (HR.out _ L6a.out).mono ?_
      rintro z w2 ⟨ax, cx, ae, ce, rfl, h1, h2, hb1, hl1, hl2⟩
      have L6b := Lib.hid (L6a.out.trans (hb1.mono L6a.out.size))
      have SW := Lib.hid h1
      have SE := Lib.hid h2
      have LW := Lib.hid hl1
      have LE := Lib.hid hl2
      refine hK.out _ _ ?_ (fun hHeld => ?_)
      · exact S5o.out _ L6b.out
      clear hK K
      try go_frame
      have X5 := Lib.hid ((hb1.block _ (lt_of_block X5.out)).trans X5.out)
      have NW : Hid (∀ b9, (Value.slice ax H.s.nw cx).ownBlock = some b9 → H.s.nw = 0 ∨ b9 ≠ u5.heap.size) := fun b9 hb9 => (LW.out b9 hb9).imp id fun h9 => by have := h9.2; have := Z5.out; have := HB5.out; omega
      have NE : Hid (∀ b9, (Value.slice ae H.l.n ce).ownBlock = some b9 → H.l.n = 0 ∨ b9 ≠ u5.heap.size) := fun b9 hb9 => (LE.out b9 hb9).imp id fun h9 => by have := h9.2.2; have := Z5.out; omega
      clear h1 h2 hb1 hl1 hl2
      first | refine tq0 16 rfl ?_ | refine tq1 16 rfl ?_
      try go_frame
      first | refine tq0 17 rfl ?_ | refine tq1 17 rfl ?_
      try go_frame
      first | refine tq0 18 rfl ?_ | refine tq1 18 rfl ?_
      try go_frame
      first | refine tq0 19 rfl ?_ | refine tq1 19 rfl ?_
      try go_frame
      first | refine tq0 20 rfl ?_ | refine tq1 20 rfl ?_
      try go_frame
      refine wpAnyH_ready (rs := [22]) (by kernel_rfl) (by simp) ?_
      refine AllReadyH.cons (o := ⟨_, _, _, _, _, _⟩) rfl (fun K hK => ?_) AllReadyH.nil
      have L6 := Lib.hid (L6b.out.trans (put_low7 HB5.out [.slice ax H.s.nw cx, .int .i64 H.s.sent, .int .i64 H.s.dice] 0 w2))
      have X6 := Lib.hid (put_three8 X5.out (.slice ax H.s.nw cx) (.int .i64 H.s.sent) (.int .i64 H.s.dice))
      have SW6 := Lib.hid (sl_loc (S := S1) (sl_farB SW.out NW.out [.slice ax H.s.nw cx, .int .i64 H.s.sent, .int .i64 H.s.dice] 0) (fun b9 hb9 => (LW.out b9 hb9).imp id fun h9 => h9.1))
      have SE6 := Lib.hid (sl_loc (S := S1) (sl_farB SE.out NE.out [.slice ax H.s.nw cx, .int .i64 H.s.sent, .int .i64 H.s.dice] 0) (fun b9 hb9 => (LE.out b9 hb9).imp id fun h9 => h9.1))
      have zf : ∀ q9, w2.frozen? ⟨u5.heap.size, q9, none⟩ = false := fun q9 => Lib.frozen_of_heap X5.out q9
      obtain ⟨z0, z1, z2⟩ := three_cells8 X5.out
      go_simp
      change K _ (World.setCells w2 (u5.heap.size) 0 [.slice ax H.s.nw cx, .int .i64 H.s.sent, .int .i64 H.s.dice])
      have BX := Lib.hid HB5.out
      clear z0 z1 z2 zf X5 SW SE HB5 NW NE LW LE
      generalize World.setCells w2 (u5.heap.size) 0 [.slice ax H.s.nw cx, .int .i64 H.s.sent, .int .i64 H.s.dice] = w6 at *
      generalize u5.heap.size = B5 at *
      refine hK.out _ _ ?_ (fun hHeld => ?_)
      · exact S5o.out _ L6.out
      clear hK K
      try go_frame
      first | refine tq0 23 rfl ?_ | refine tq1 23 rfl ?_
      try go_frame
      first | refine tq0 24 rfl ?_ | refine tq1 24 rfl ?_
      try go_frame
      first | refine tq0 25 rfl ?_ | refine tq1 25 rfl ?_
      try go_frame
      refine wpAnyH_done (by kernel_rfl) ?_ _
      clear hHeld
      go_wp2_with fail
      go_meet
      exact ⟨_, ax, cx, ae, ce, rfl, rfl, rfl, X6.out, BX.out, SW6.out, SE6.out, L6.out⟩
  case rest =>
    obtain ⟨B5, ax, cx, ae, ce, rfl, rfl, rfl, hX5, hB5, hSW, hSE, hL⟩ := hcut
    have X5 := Lib.hid hX5
    have BB5 := Lib.hid hB5
    have SW := Lib.hid hSW
    have SE := Lib.hid hSE
    have LX := Lib.hid hL
    clear hX5 hB5 hSW hSE hL S5o HR L5
    have R5 := Lib.hid (R4.out.below LX.out)
    have XE5 := Lib.hid ((LX.out.block _ (lt_of_block X4.out)).trans X4.out)
    have K5 := Lib.hid (K4.out.on LX.out)
    have SH5 := Lib.hid (HSH4.out.below (KpS.of LX.out).hd)
    have WD5 : Hid (∀ k, k < m.nl → Sl 1 (gW (x.S k).w) (x.S k).nw (g k) (HdS S1 wc)) := fun k hk => (HWD4.out k hk).below (KpS.of LX.out).hd
    have LOC : Hid (∀ q9, wc.heap.size ≤ q9 → S1 q9 = false) := fun q9 hq => by
      cases c9 : S1 q9 with
      | false => rfl
      | true => have := SLO.out q9 c9; have := Z0.out; have := Z4.out; have := Y4.out; have := LX.out.size; omega
    have ZA : Hid (u1.heap.size < wc.heap.size ∧ u.heap.size < u1.heap.size ∧ P < u.heap.size ∧ B5 < wc.heap.size) := ⟨by have := Z4.out; have := Y4.out; have := LX.out.size; omega, by have := Z0.out; omega, hP, lt_of_block X5.out⟩
    have B6 := Lib.hid (balloc wc (.cells #[] 55))
    have OZ : Hid ((wc.alloc (.cells #[] 55)).ownsRow wc.heap.size 55 3 (.slice (some ⟨wc.heap.size, 0, none⟩) 0 0) 0 []) := World.ownsRow_lit (base := wc.heap.size) (e := 55) (size := 3) wc #[] 0 (Nat.le_refl _) (by decide) rfl
    have hcw : (wc.alloc (.cells #[] 55)).cell? ⟨P, 6, none⟩ = some (.slice (some ⟨bs, os, none⟩) m.nl cS) := (R5.out.below B6.out).cells.2.2.2.2.2.2.1
    have SL6 := Lib.hid (SH5.out.hds.below B6.out)
    have HB6 := Lib.hid B6.out.size
    go_wp2_with (at_builtin; refine wpList_append_any rfl _ _ 49 rfl wc.heap.size 55 i1 (.agg #[.slice none 0 0, .int .i64 0, .int .i64 0]) 3 40 Tryz.underlying49 hi1 hy0 hy1 hy2 rfl (by decide) (.slice (some ⟨wc.heap.size, 0, none⟩) 0 0) 0 _ rfl OZ.out (gT x.S g) m.nl (.slice (some ⟨bs, os, none⟩) m.nl cS) rfl SL6.out (fun i hi c _ => gT_one (WD5.out i hi) c) (by unfold maxLen; omega) (by omega) HB6.out m.nl (Nat.zero_add _) ?_)
    intro aO cO w6 hown hgr
    have O6 : Hid (w6.ownsRow wc.heap.size 55 3 (.slice aO m.nl cO) m.nl (rowCells 3 (gT x.S g) m.nl)) := hown
    have L6 : Hid (Below wc.heap.size wc w6) := B6.out.trans (below_grown OZ.out HB6.out hgr)
    obtain ⟨bO, hbO, hob, hSR⟩ := StRow.of O6.out (by omega)
    obtain ⟨cO2, e9, sO1, sO2⟩ := id hSR.v
    simp only [Value.slice.injEq, true_and] at e9
    obtain ⟨rfl, rfl⟩ := e9
    have SR6 := Lib.hid hSR
    have BO := Lib.hid hbO
    clear hown hgr hcw hob hbO hSR
    have r0 : w6.cell? ⟨bO, d * 3, none⟩ = some (g d) := SR6.out.c d hd 0 (by omega)
    have r1 : w6.cell? ⟨bO, d * 3 + 1, none⟩ = some (.int .i64 (x.S d).sent) := SR6.out.c d hd 1 (by omega)
    have r2 : w6.cell? ⟨bO, d * 3 + 2, none⟩ = some (.int .i64 (x.S d).dice) := SR6.out.c d hd 2 (by omega)
    have rf : ∀ q9, w6.frozen? ⟨bO, q9, none⟩ = false := by obtain ⟨cs, h9⟩ := SR6.out.b; exact fun q9 => Lib.frozen_of_heap h9 q9
    obtain ⟨t0, t1, t2⟩ := three_cells8 ((L6.out.block _ (lt_of_block X5.out)).trans X5.out)
    obtain ⟨q0, q1, q2, q3, q4⟩ := five_cells8 ((L6.out.block _ (lt_of_block XE5.out)).trans XE5.out)
    go_upto_region 8 with fail
    change Code.wp _ _ _ _ (World.setCells w6 bO (d * 3) [.slice ax H.s.nw cx, .int .i64 H.s.sent, .int .i64 H.s.dice])
    have L7 := Lib.hid (L6.out.trans (put_low7 BO.out [.slice ax H.s.nw cx, .int .i64 H.s.sent, .int .i64 H.s.dice] (d * 3) w6))
    have SR7 : Hid (StRow bO (gT (updS x.S d H.s) fun k => if k = d then .slice ax H.s.nw cx else g k) m.nl (.slice (some ⟨bO, 0, none⟩) m.nl cO) (World.setCells w6 bO (d * 3) [.slice ax H.s.nw cx, .int .i64 H.s.sent, .int .i64 H.s.dice])) := by
      refine SR6.out.set hd _ _ _ ?_ ?_ ?_ (fun i hi j => ?_)
      · simp [gT]
      · simp [gT, updS]
      · simp [gT, updS]
      · rcases j with _ | _ | j <;> simp [gT, updS, hi]
    clear r0 r1 r2 rf t0 t1 t2 q0 q1 q2 q3 q4
    generalize World.setCells w6 bO (d * 3) [.slice ax H.s.nw cx, .int .i64 H.s.sent, .int .i64 H.s.dice] = w7 at *
    have R7 := Lib.hid (R5.out.below L7.out)
    have ST7 : Hid (StsAt (updS x.S d H.s) m.nl (.slice (some ⟨bO, 0, none⟩) m.nl cO) (HdS S1 w7)) := by
      refine ⟨_, sl_loc SR7.out.sl (fun b9 hb9 => .inr ?_), fun k hk => ?_⟩
      · simp only [Value.ownBlock, Option.some.injEq] at hb9
        exact LOC.out b9 (by have := BO.out; omega)
      · by_cases c : k = d
        · subst c
          simp only [updS]
          exact SW.out.below (KpS.of L7.out).hd
        · simp only [updS, if_neg c]
          exact (WD5.out k hk).below (KpS.of L7.out).hd
    have SE7 := Lib.hid (SE.out.below (KpS.of (S := S1) L7.out).hd)
    have XE7 := Lib.hid ((L7.out.block _ (lt_of_block XE5.out)).trans XE5.out)
    have K7 := Lib.hid (K5.out.on L7.out)
    have hcw := R7.out.cells.2.2.2.2.2.2.1
    have hfz := R7.out.cells.2.2.2.2.2.2.2.2.2 6
    have R8 : Hid (RSim S1 P m vd vp vl vi ⟨updS x.S d H.s, W2⟩ nd D (.slice (some ⟨bO, 0, none⟩) m.nl cO) (.slice (some ⟨b, o1, none⟩) W2.length (cW - 1)) (vD) (w7.setCell ⟨P, 6, none⟩ (.slice (some ⟨bO, 0, none⟩) m.nl cO))) := R7.out.put 6 _ rfl ST7.out R7.out.wt R7.out.dn R7.out.wf
    have KS8 := Lib.hid (Kp.set P 6 (.slice (some ⟨bO, 0, none⟩) m.nl cO) w7)
    have SE8 := Lib.hid (SE7.out.below (KS8.out.hds R7.out.hP))
    have XE8 := Lib.hid ((KS8.out.blk (lt_of_block XE7.out) (by have := ZA.out; omega)).trans XE7.out)
    have K8 := Lib.hid (K7.out.trans KS8.out)
    have Z8 := Lib.hid (show wc.heap.size ≤ (w7.setCell ⟨P, 6, none⟩ (.slice (some ⟨bO, 0, none⟩) m.nl cO)).heap.size by rw [World.size_setCell]; exact L7.out.size)
    go_upto_region 9 with fail
    clear hcw hfz
    generalize w7.setCell ⟨P, 6, none⟩ (.slice (some ⟨bO, 0, none⟩) m.nl cO) = w8 at *
    clear R4 R5 R7 K4 K5 K7 KS8 SE SE7 SW XE5 XE7 X5 SH5 WD5 O6 SR6 SR7 ST7 SL6 OZ B6 L6 L7 LX HSH4 HWD4 X4 HSH HWD HST R1 R2
    go_wp2_with fail
    go_loopw [10] (fun i wq => ∃ (k : Nat) (vW' : Value), k ≤ H.l.n ∧ i = .int .i64 k ∧ RSim S1 P m vd vp vl vi ⟨updS x.S d H.s, insAll W2 ((List.range k).map H.l.f)⟩ nd D (.slice (some ⟨bO, 0, none⟩) m.nl cO) (vW') (vD) wq ∧ Kp P w8 wq) (fun i _ => H.l.n - (intOf i).toNat)
    case atStart => exact ⟨0, _, Nat.zero_le _, rfl, R8.out, Kp.refl P w8⟩
    case round =>
      obtain ⟨k, vW', hk, rfl, hrs, hkp⟩ := hrel
      have RQ := Lib.hid hrs
      have KQ := Lib.hid hkp
      clear hrs hkp
      have hk0 : (0 : Int) ≤ (k : Int) := by omega
      by_cases hlt : k < H.l.n
      · have hj2 : (k : Int) < (H.l.n : Int) := by omega
        have d3 : decide (k < H.l.n) = true := by simp [hlt]
        obtain ⟨a9, c9, e9, g1, g2, h3⟩ := (SE8.out.below (KQ.out.hds R8.out.hP)).hds
        simp only [Value.slice.injEq, true_and] at e9
        obtain ⟨rfl, rfl⟩ := e9
        obtain ⟨bE, oE, rfl, hA⟩ := h3 (by omega)
        have k0 : wr.cell? ⟨bE, oE + k * 5, none⟩ = some (.float .f64 (H.l.f k).t) := hA.2 k hlt 0 (by omega)
        have k1 : wr.cell? ⟨bE, oE + k * 5 + 1, none⟩ = some (.int .i64 (H.l.f k).src) := hA.2 k hlt 1 (by omega)
        have k2 : wr.cell? ⟨bE, oE + k * 5 + 2, none⟩ = some (.int .i64 (H.l.f k).n) := hA.2 k hlt 2 (by omega)
        have k3 : wr.cell? ⟨bE, oE + k * 5 + 3, none⟩ = some (.int .i64 (H.l.f k).dst) := hA.2 k hlt 3 (by omega)
        have k4 : wr.cell? ⟨bE, oE + k * 5 + 4, none⟩ = some (.int .i64 (H.l.f k).pay) := hA.2 k hlt 4 (by omega)
        have HPUT := Lib.hid (rput_any S1 P m vd vp vl vi _ nd D (.slice (some ⟨bO, 0, none⟩) m.nl cO) vW' vD (H.l.f k) wr RQ.out (by show (insAll W2 _).length ≤ 1000; rw [insAll_length]; simp; omega))
        unfold eval8 at HPUT
        clear h3 hA
        go_wp2_with (go_at_call 29; refine HPUT.out.mono ?_; rintro z w9 ⟨rfl, ⟨vW2, h5⟩, k5⟩; have R9 := Lib.hid h5; have K9 := Lib.hid k5; clear h5 k5 k0 k1 k2 k3 k4)
        go_roundw
        case rel => exact ⟨k + 1, vW2, by omega, by go_num, by rw [toL_snoc, insAll_snoc]; exact R9.out, KQ.out.trans K9.out⟩
        case measure => simp [intOf]; omega
      · obtain rfl : k = H.l.n := by omega
        have d3 : decide (H.l.n < H.l.n) = false := by simp
        have XE9 := Lib.hid ((KQ.out.blk (lt_of_block XE8.out) (by have := ZA.out; omega)).trans XE8.out)
        obtain ⟨q0, q1, q2, q3, q4⟩ := five_cells8 XE9.out
        have B10 := Lib.hid (balloc wr (.cells #[.float .f64 et, .int .i64 es, .int .i64 en, .int .i64 (d : Int), .int .i64 ep, .int .i64 H.f] 43))
        have X10 := Lib.hid (heap_alloc_new wr (.cells #[.float .f64 et, .int .i64 es, .int .i64 en, .int .i64 (d : Int), .int .i64 ep, .int .i64 H.f] 43))
        have K9 := Lib.hid (K8.out.trans KQ.out)
        have Z9 := Lib.hid (show wc.heap.size ≤ wr.heap.size from Nat.le_trans Z8.out KQ.out.size)
        have R10 := Lib.hid (RQ.out.below B10.out)
        have RW9 := Lib.hid (show wr.heap.size < (wr.alloc (.cells #[.float .f64 et, .int .i64 es, .int .i64 en, .int .i64 (d : Int), .int .i64 ep, .int .i64 H.f] 43)).heap.size from lt_of_block X10.out)
        go_upto_region 14 with fail
        change Code.wp _ _ _ _ (wr.alloc (.cells #[.float .f64 et, .int .i64 es, .int .i64 en, .int .i64 (d : Int), .int .i64 ep, .int .i64 H.f] 43))
        clear q0 q1 q2 q3 q4
        generalize wr.alloc (.cells #[.float .f64 et, .int .i64 es, .int .i64 en, .int .i64 (d : Int), .int .i64 ep, .int .i64 H.f] 43) = w10 at *
        have SLD : Hid (∀ w', Below w10.heap.size w10 w' → Sl 6 (gD D) nd vD w') := fun w' k => (R10.out.dn.hds).below k
        have SS : Hid (∀ w', Below w10.heap.size w10 w' → (fun w' => w'.cell? ⟨P, 8, none⟩ = some (vD) ∧ w'.cell? ⟨wr.heap.size, 0, none⟩ = some (.float .f64 et) ∧ w'.cell? ⟨wr.heap.size, 1, none⟩ = some (.int .i64 es) ∧ w'.cell? ⟨wr.heap.size, 2, none⟩ = some (.int .i64 en) ∧ w'.cell? ⟨wr.heap.size, 3, none⟩ = some (.int .i64 (d : Int)) ∧ w'.cell? ⟨wr.heap.size, 4, none⟩ = some (.int .i64 ep) ∧ w'.cell? ⟨wr.heap.size, 5, none⟩ = some (.int .i64 H.f)) w') := fun w' k => by
          obtain ⟨q0, q1, q2, q3, q4, q5⟩ := six_cells7 ((k.block _ (lt_of_block X10.out)).trans X10.out)
          exact ⟨(R10.out.below k).cells.2.2.2.2.2.2.2.2.1, q0, q1, q2, q3, q4, q5⟩
        have L11 := Lib.hid (bdrew w10)
        go_cut [] (fun wx => ∃ vW' vDn, RSim S1 P m vd vp vl vi ⟨updS x.S d H.s, insAll W2 (toL H.l)⟩ (nd + 1) (fun i => if i = nd then ⟨⟨et, es, en, (d : Int), ep⟩, H.f⟩ else D i) (.slice (some ⟨bO, 0, none⟩) m.nl cO) (vW') (vDn) wx ∧ Kp P w10 wx)
        case first =>
          refine wp_region_x_drew 12 (S := (fun w' => w'.cell? ⟨P, 8, none⟩ = some (vD) ∧ w'.cell? ⟨wr.heap.size, 0, none⟩ = some (.float .f64 et) ∧ w'.cell? ⟨wr.heap.size, 1, none⟩ = some (.int .i64 es) ∧ w'.cell? ⟨wr.heap.size, 2, none⟩ = some (.int .i64 en) ∧ w'.cell? ⟨wr.heap.size, 3, none⟩ = some (.int .i64 (d : Int)) ∧ w'.cell? ⟨wr.heap.size, 4, none⟩ = some (.int .i64 ep) ∧ w'.cell? ⟨wr.heap.size, 5, none⟩ = some (.int .i64 H.f))) (by kernel_rfl) ?_ (fun hHeld => ?_)
          · exact SS.out _ L11.out
          change wpAnyX _ _ _ _ _ _ _ _ _ (World.drew _)
          generalize World.drew _ = w11 at *
          first
            | refine tx0 0 (oi := ⟨_, _, _, _, _, _⟩) rfl ?_
            | refine tx1 0 (oi := ⟨_, _, _, _, _, _⟩) (v := ?_) rfl ?_ ?_; rotate_left; · (intro w5 hSw; (try dsimp only at hSw); go_simp; (try with_reducible rfl))
          try go_frame
          first
            | refine tx0 2 (oi := ⟨_, _, _, _, _, _⟩) rfl ?_
            | refine tx1 2 (oi := ⟨_, _, _, _, _, _⟩) (v := ?_) rfl ?_ ?_; rotate_left; · (intro w5 hSw; (try dsimp only at hSw); go_simp; (try with_reducible rfl))
          try go_frame
          first
            | refine tx0 3 (oi := ⟨_, _, _, _, _, _⟩) rfl ?_
            | refine tx1 3 (oi := ⟨_, _, _, _, _, _⟩) (v := ?_) rfl ?_ ?_; rotate_left; · (intro w5 hSw; (try dsimp only at hSw); go_simp; (try with_reducible rfl))
          try go_frame
          first
            | refine tx0 4 (oi := ⟨_, _, _, _, _, _⟩) rfl ?_
            | refine tx1 4 (oi := ⟨_, _, _, _, _, _⟩) (v := ?_) rfl ?_ ?_; rotate_left; · (intro w5 hSw; (try dsimp only at hSw); go_simp; (try with_reducible rfl))
          try go_frame
          first
            | refine tx0 5 (oi := ⟨_, _, _, _, _, _⟩) rfl ?_
            | refine tx1 5 (oi := ⟨_, _, _, _, _, _⟩) (v := ?_) rfl ?_ ?_; rotate_left; · (intro w5 hSw; (try dsimp only at hSw); go_simp; (try with_reducible rfl))
          try go_frame
          first
            | refine tx0 7 (oi := ⟨_, _, _, _, _, _⟩) rfl ?_
            | refine tx1 7 (oi := ⟨_, _, _, _, _, _⟩) (v := ?_) rfl ?_ ?_; rotate_left; · (intro w5 hSw; (try dsimp only at hSw); go_simp; (try with_reducible rfl))
          try go_frame
          refine wpAnyX_ready (rs := [1, 8]) (by kernel_rfl) (by simp) ?_
          refine AllReadyX.cons (o := ⟨_, _, _, _, _, _⟩) rfl (fun K hK => ?_) (AllReadyX.cons (o := ⟨_, _, _, _, _, _⟩) rfl (fun K hK => ?_) AllReadyX.nil)
          · have L12 := Lib.hid (L11.out.trans ((balloc w11 (.cells #[] 43)).mono L11.out.size))
            have B1 : Hid ((w11.alloc (.cells #[] 43)).ownsRow w10.heap.size 43 6 (.slice (some ⟨w11.heap.size, 0, none⟩) 0 0) (0) ([])) := World.ownsRow_lit (base := w10.heap.size) (e := 43) (size := 6) w11 #[] 0 L11.out.size (by decide) rfl
            go_simp
            refine hK.out _ _ ?_ (fun hHeld => ?_)
            · exact SS.out _ L12.out
            clear hK K
            try go_frame
            have hw1 : Below w11.heap.size w11 (w11.alloc (.cells #[] 43)) := balloc w11 (.cells #[] 43)
            have hs1 : (w11.alloc (.cells #[] 43)).heap.size = w11.heap.size + 1 := World.size_alloc _ _
            generalize w11.alloc (.cells #[] 43) = w12 at *
            refine wpAnyX_ready (rs := [6, 8]) (by kernel_rfl) (by simp) ?_
            refine AllReadyX.cons (o := ⟨_, _, _, _, _, _⟩) rfl (fun K hK => ?_) (AllReadyX.cons (o := ⟨_, _, _, _, _, _⟩) rfl (fun K hK => ?_) AllReadyX.nil)
            · refine step_append_any rfl (.tmp 85) (.tmp 89) 47 rfl w10.heap.size 43 i2 (.agg #[.float .f64 0, .int .i64 0, .int .i64 0, .int .i64 0, .int .i64 0, .int .i64 0]) 6 48 Tryz.underlying47 hi2 hx0 hx1 hx2 rfl (by decide) (.slice (some ⟨w11.heap.size, 0, none⟩) 0 0) 0 _ (by simp [Act.eval]) B1.out (gD D) nd (vD) (by simp [Act.eval]) (SLD.out _ L12.out) (fun _ _ _ _ => gD_oneR _ _ _) (by unfold maxLen; omega) (by omega) L12.out.size nd (Nat.zero_add _) ?_
              intro a6 c6 w13 hown6 hgr6
              have L13 := Lib.hid (L12.out.trans (below_grown B1.out L12.out.size hgr6))
              have O6 : Hid (w13.ownsRow w10.heap.size 43 6 (.slice a6 nd c6) (nd) (rowCells 6 (gD D) nd)) := hown6
              refine hK.out _ _ ?_ (fun hHeld => ?_)
              · exact SS.out _ L13.out
              clear hK K
              try go_frame
              refine wpAnyX_ready (rs := [8]) (by kernel_rfl) (by simp) ?_
              refine AllReadyX.cons (o := ⟨_, _, _, _, _, _⟩) rfl (fun K hK => ?_) AllReadyX.nil
              have L14 := Lib.hid (L13.out.trans ((balloc w13 (.cells #[.float .f64 et, .int .i64 es, .int .i64 en, .int .i64 (d : Int), .int .i64 ep, .int .i64 H.f] 43)).mono L13.out.size))
              have B8 : Hid ((w13.alloc (.cells #[.float .f64 et, .int .i64 es, .int .i64 en, .int .i64 (d : Int), .int .i64 ep, .int .i64 H.f] 43)).ownsRow w10.heap.size 43 6 (.slice (some ⟨w13.heap.size, 0, none⟩) 1 1) (1) (rowCells 6 (gD fun _ => ⟨⟨et, es, en, (d : Int), ep⟩, H.f⟩) 1)) := World.ownsRow_lit (base := w10.heap.size) (e := 43) (size := 6) w13 #[.float .f64 et, .int .i64 es, .int .i64 en, .int .i64 (d : Int), .int .i64 ep, .int .i64 H.f] 1 L13.out.size (by decide) rfl
              go_simp
              refine hK.out _ _ ?_ (fun hHeld => ?_)
              · exact SS.out _ L14.out
              clear hK K
              try go_frame
              have hw8 : Below w13.heap.size w13 (w13.alloc (.cells #[.float .f64 et, .int .i64 es, .int .i64 en, .int .i64 (d : Int), .int .i64 ep, .int .i64 H.f] 43)) := balloc w13 (.cells #[.float .f64 et, .int .i64 es, .int .i64 en, .int .i64 (d : Int), .int .i64 ep, .int .i64 H.f] 43)
              have hs8 : (w13.alloc (.cells #[.float .f64 et, .int .i64 es, .int .i64 en, .int .i64 (d : Int), .int .i64 ep, .int .i64 H.f] 43)).heap.size = w13.heap.size + 1 := World.size_alloc _ _
              generalize w13.alloc (.cells #[.float .f64 et, .int .i64 es, .int .i64 en, .int .i64 (d : Int), .int .i64 ep, .int .i64 H.f] 43) = w14 at *
              have O6n := own_below O6.out hw8
              clear O6
              have O6 := Lib.hid O6n
              refine wpAnyX_ready (rs := [9]) (by kernel_rfl) (by simp) ?_
              refine AllReadyX.cons (o := ⟨_, _, _, _, _, _⟩) rfl (fun K hK => ?_) AllReadyX.nil
              refine step_append_any rfl (.tmp 90) (.tmp 92) 47 rfl w10.heap.size 43 i2 (.agg #[.float .f64 0, .int .i64 0, .int .i64 0, .int .i64 0, .int .i64 0, .int .i64 0]) 6 48 Tryz.underlying47 hi2 hx0 hx1 hx2 rfl (by decide) (.slice a6 nd c6) nd _ (by simp [Act.eval]) O6.out (gD fun _ => ⟨⟨et, es, en, (d : Int), ep⟩, H.f⟩) 1 (.slice (some ⟨w13.heap.size, 0, none⟩) 1 1) (by simp [Act.eval]) (own_sl B8.out) (fun _ _ _ _ => gD_oneR _ _ _) (by unfold maxLen; omega) (by omega) L14.out.size (nd + 1) rfl ?_
              intro aN cN wN hownN hgrN
              have LN := Lib.hid (L14.out.trans (below_grown O6.out L14.out.size hgrN))
              have ON : Hid (wN.ownsRow w10.heap.size 43 6 (.slice aN (nd + 1) cN) (nd + 1) (rowCells 6 (gD (fun i => if i = nd then ⟨⟨et, es, en, (d : Int), ep⟩, H.f⟩ else D i)) (nd + 1))) := by
                have h := hownN
                rw [done_cells] at h
                exact h
              refine hK.out _ _ ?_ (fun hHeld => ?_)
              · exact SS.out _ LN.out
              clear hK K
              try go_frame
              clear hownN hgrN
              refine wpAnyX_ready (rs := [10]) (by kernel_rfl) (by simp) ?_
              refine AllReadyX.cons (o := ⟨_, _, _, _, _, _⟩) rfl (fun K hK => ?_) AllReadyX.nil
              go_simp
              refine hK.out _ _ ?_ (fun hHeld => ?_)
              · exact SS.out _ LN.out
              clear hK K
              try go_frame
              refine wpAnyX_ready (rs := [11]) (by kernel_rfl) (by simp) ?_
              refine AllReadyX.cons (o := ⟨_, _, _, _, _, _⟩) rfl (fun K hK => ?_) AllReadyX.nil
              go_simp
              refine hK.out _ _ ?_ (fun hHeld => ?_)
              · exact SS.out _ LN.out
              clear hK K
              try go_frame
              refine wpAnyX_last (o := ⟨_, _, _, _, _, _⟩) (by kernel_rfl) rfl (fun K hK => ?_) (by kernel_rfl)
              have RN := Lib.hid (R10.out.below LN.out)
              have hfz := RN.out.cells.2.2.2.2.2.2.2.2.2 8
              have hcw := RN.out.cells.2.2.2.2.2.2.2.2.1
              have RF : Hid (RSim S1 P m vd vp vl vi ⟨updS x.S d H.s, insAll W2 (toL H.l)⟩ (nd + 1) (fun i => if i = nd then ⟨⟨et, es, en, (d : Int), ep⟩, H.f⟩ else D i) (.slice (some ⟨bO, 0, none⟩) m.nl cO) (vW') (.slice aN (nd + 1) cN) (wN.setCell ⟨P, 8, none⟩ (.slice aN (nd + 1) cN))) := RN.out.put 8 _ rfl RN.out.st RN.out.wt (own_sl (own_new R10.out.lo ON.out (Nat.le_refl _))) RN.out.wf
              have KF := Lib.hid ((Kp.of (tb := P) LN.out).trans (Kp.set P 8 (.slice aN (nd + 1) cN) wN))
              go_simp
              refine hK.out _ _ ?_
              clear hK K
              try go_frame
              generalize wN.setCell ⟨P, 8, none⟩ (.slice aN (nd + 1) cN) = wF at *
              clear hfz hcw hHeld
              go_wp2_with fail
              go_meet
              exact ⟨_, _, RF.out, KF.out⟩
            · have L13 := Lib.hid (L12.out.trans ((balloc w12 (.cells #[.float .f64 et, .int .i64 es, .int .i64 en, .int .i64 (d : Int), .int .i64 ep, .int .i64 H.f] 43)).mono L12.out.size))
              have B8 : Hid ((w12.alloc (.cells #[.float .f64 et, .int .i64 es, .int .i64 en, .int .i64 (d : Int), .int .i64 ep, .int .i64 H.f] 43)).ownsRow w10.heap.size 43 6 (.slice (some ⟨w12.heap.size, 0, none⟩) 1 1) (1) (rowCells 6 (gD fun _ => ⟨⟨et, es, en, (d : Int), ep⟩, H.f⟩) 1)) := World.ownsRow_lit (base := w10.heap.size) (e := 43) (size := 6) w12 #[.float .f64 et, .int .i64 es, .int .i64 en, .int .i64 (d : Int), .int .i64 ep, .int .i64 H.f] 1 L12.out.size (by decide) rfl
              go_simp
              refine hK.out _ _ ?_ (fun hHeld => ?_)
              · exact SS.out _ L13.out
              clear hK K
              try go_frame
              have hw8 : Below w12.heap.size w12 (w12.alloc (.cells #[.float .f64 et, .int .i64 es, .int .i64 en, .int .i64 (d : Int), .int .i64 ep, .int .i64 H.f] 43)) := balloc w12 (.cells #[.float .f64 et, .int .i64 es, .int .i64 en, .int .i64 (d : Int), .int .i64 ep, .int .i64 H.f] 43)
              have hs8 : (w12.alloc (.cells #[.float .f64 et, .int .i64 es, .int .i64 en, .int .i64 (d : Int), .int .i64 ep, .int .i64 H.f] 43)).heap.size = w12.heap.size + 1 := World.size_alloc _ _
              generalize w12.alloc (.cells #[.float .f64 et, .int .i64 es, .int .i64 en, .int .i64 (d : Int), .int .i64 ep, .int .i64 H.f] 43) = w13 at *
              have B1n := Lib.hid (own_below B1.out hw8)
              refine wpAnyX_ready (rs := [6]) (by kernel_rfl) (by simp) ?_
              refine AllReadyX.cons (o := ⟨_, _, _, _, _, _⟩) rfl (fun K hK => ?_) AllReadyX.nil
              refine step_append_any rfl (.tmp 85) (.tmp 89) 47 rfl w10.heap.size 43 i2 (.agg #[.float .f64 0, .int .i64 0, .int .i64 0, .int .i64 0, .int .i64 0, .int .i64 0]) 6 48 Tryz.underlying47 hi2 hx0 hx1 hx2 rfl (by decide) (.slice (some ⟨w11.heap.size, 0, none⟩) 0 0) 0 _ (by simp [Act.eval]) B1n.out (gD D) nd (vD) (by simp [Act.eval]) (SLD.out _ L13.out) (fun _ _ _ _ => gD_oneR _ _ _) (by unfold maxLen; omega) (by omega) L13.out.size nd (Nat.zero_add _) ?_
              intro a6 c6 w14 hown6 hgr6
              have L14 := Lib.hid (L13.out.trans (below_grown B1n.out L13.out.size hgr6))
              have O6 : Hid (w14.ownsRow w10.heap.size 43 6 (.slice a6 nd c6) (nd) (rowCells 6 (gD D) nd)) := hown6
              have B8n := Lib.hid (own_past B8.out hgr6 (fun g9 hg => by simp [Value.ownBlock] at hg ⊢; omega))
              refine hK.out _ _ ?_ (fun hHeld => ?_)
              · exact SS.out _ L14.out
              clear hK K
              try go_frame
              refine wpAnyX_ready (rs := [9]) (by kernel_rfl) (by simp) ?_
              refine AllReadyX.cons (o := ⟨_, _, _, _, _, _⟩) rfl (fun K hK => ?_) AllReadyX.nil
              refine step_append_any rfl (.tmp 90) (.tmp 92) 47 rfl w10.heap.size 43 i2 (.agg #[.float .f64 0, .int .i64 0, .int .i64 0, .int .i64 0, .int .i64 0, .int .i64 0]) 6 48 Tryz.underlying47 hi2 hx0 hx1 hx2 rfl (by decide) (.slice a6 nd c6) nd _ (by simp [Act.eval]) O6.out (gD fun _ => ⟨⟨et, es, en, (d : Int), ep⟩, H.f⟩) 1 (.slice (some ⟨w12.heap.size, 0, none⟩) 1 1) (by simp [Act.eval]) (own_sl B8n.out) (fun _ _ _ _ => gD_oneR _ _ _) (by unfold maxLen; omega) (by omega) L14.out.size (nd + 1) rfl ?_
              intro aN cN wN hownN hgrN
              have LN := Lib.hid (L14.out.trans (below_grown O6.out L14.out.size hgrN))
              have ON : Hid (wN.ownsRow w10.heap.size 43 6 (.slice aN (nd + 1) cN) (nd + 1) (rowCells 6 (gD (fun i => if i = nd then ⟨⟨et, es, en, (d : Int), ep⟩, H.f⟩ else D i)) (nd + 1))) := by
                have h := hownN
                rw [done_cells] at h
                exact h
              refine hK.out _ _ ?_ (fun hHeld => ?_)
              · exact SS.out _ LN.out
              clear hK K
              try go_frame
              clear hownN hgrN
              refine wpAnyX_ready (rs := [10]) (by kernel_rfl) (by simp) ?_
              refine AllReadyX.cons (o := ⟨_, _, _, _, _, _⟩) rfl (fun K hK => ?_) AllReadyX.nil
              go_simp
              refine hK.out _ _ ?_ (fun hHeld => ?_)
              · exact SS.out _ LN.out
              clear hK K
              try go_frame
              refine wpAnyX_ready (rs := [11]) (by kernel_rfl) (by simp) ?_
              refine AllReadyX.cons (o := ⟨_, _, _, _, _, _⟩) rfl (fun K hK => ?_) AllReadyX.nil
              go_simp
              refine hK.out _ _ ?_ (fun hHeld => ?_)
              · exact SS.out _ LN.out
              clear hK K
              try go_frame
              refine wpAnyX_last (o := ⟨_, _, _, _, _, _⟩) (by kernel_rfl) rfl (fun K hK => ?_) (by kernel_rfl)
              have RN := Lib.hid (R10.out.below LN.out)
              have hfz := RN.out.cells.2.2.2.2.2.2.2.2.2 8
              have hcw := RN.out.cells.2.2.2.2.2.2.2.2.1
              have RF : Hid (RSim S1 P m vd vp vl vi ⟨updS x.S d H.s, insAll W2 (toL H.l)⟩ (nd + 1) (fun i => if i = nd then ⟨⟨et, es, en, (d : Int), ep⟩, H.f⟩ else D i) (.slice (some ⟨bO, 0, none⟩) m.nl cO) (vW') (.slice aN (nd + 1) cN) (wN.setCell ⟨P, 8, none⟩ (.slice aN (nd + 1) cN))) := RN.out.put 8 _ rfl RN.out.st RN.out.wt (own_sl (own_new R10.out.lo ON.out (Nat.le_refl _))) RN.out.wf
              have KF := Lib.hid ((Kp.of (tb := P) LN.out).trans (Kp.set P 8 (.slice aN (nd + 1) cN) wN))
              go_simp
              refine hK.out _ _ ?_
              clear hK K
              try go_frame
              generalize wN.setCell ⟨P, 8, none⟩ (.slice aN (nd + 1) cN) = wF at *
              clear hfz hcw hHeld
              go_wp2_with fail
              go_meet
              exact ⟨_, _, RF.out, KF.out⟩
          · have L12 := Lib.hid (L11.out.trans ((balloc w11 (.cells #[.float .f64 et, .int .i64 es, .int .i64 en, .int .i64 (d : Int), .int .i64 ep, .int .i64 H.f] 43)).mono L11.out.size))
            have B8 : Hid ((w11.alloc (.cells #[.float .f64 et, .int .i64 es, .int .i64 en, .int .i64 (d : Int), .int .i64 ep, .int .i64 H.f] 43)).ownsRow w10.heap.size 43 6 (.slice (some ⟨w11.heap.size, 0, none⟩) 1 1) (1) (rowCells 6 (gD fun _ => ⟨⟨et, es, en, (d : Int), ep⟩, H.f⟩) 1)) := World.ownsRow_lit (base := w10.heap.size) (e := 43) (size := 6) w11 #[.float .f64 et, .int .i64 es, .int .i64 en, .int .i64 (d : Int), .int .i64 ep, .int .i64 H.f] 1 L11.out.size (by decide) rfl
            go_simp
            refine hK.out _ _ ?_ (fun hHeld => ?_)
            · exact SS.out _ L12.out
            clear hK K
            try go_frame
            have hw8 : Below w11.heap.size w11 (w11.alloc (.cells #[.float .f64 et, .int .i64 es, .int .i64 en, .int .i64 (d : Int), .int .i64 ep, .int .i64 H.f] 43)) := balloc w11 (.cells #[.float .f64 et, .int .i64 es, .int .i64 en, .int .i64 (d : Int), .int .i64 ep, .int .i64 H.f] 43)
            have hs8 : (w11.alloc (.cells #[.float .f64 et, .int .i64 es, .int .i64 en, .int .i64 (d : Int), .int .i64 ep, .int .i64 H.f] 43)).heap.size = w11.heap.size + 1 := World.size_alloc _ _
            generalize w11.alloc (.cells #[.float .f64 et, .int .i64 es, .int .i64 en, .int .i64 (d : Int), .int .i64 ep, .int .i64 H.f] 43) = w12 at *
            refine wpAnyX_ready (rs := [1]) (by kernel_rfl) (by simp) ?_
            refine AllReadyX.cons (o := ⟨_, _, _, _, _, _⟩) rfl (fun K hK => ?_) AllReadyX.nil
            have L13 := Lib.hid (L12.out.trans ((balloc w12 (.cells #[] 43)).mono L12.out.size))
            have B1 : Hid ((w12.alloc (.cells #[] 43)).ownsRow w10.heap.size 43 6 (.slice (some ⟨w12.heap.size, 0, none⟩) 0 0) (0) ([])) := World.ownsRow_lit (base := w10.heap.size) (e := 43) (size := 6) w12 #[] 0 L12.out.size (by decide) rfl
            go_simp
            refine hK.out _ _ ?_ (fun hHeld => ?_)
            · exact SS.out _ L13.out
            clear hK K
            try go_frame
            have hw1 : Below w12.heap.size w12 (w12.alloc (.cells #[] 43)) := balloc w12 (.cells #[] 43)
            have hs1 : (w12.alloc (.cells #[] 43)).heap.size = w12.heap.size + 1 := World.size_alloc _ _
            generalize w12.alloc (.cells #[] 43) = w13 at *
            have B8m := Lib.hid (own_below B8.out hw1)
            refine wpAnyX_ready (rs := [6]) (by kernel_rfl) (by simp) ?_
            refine AllReadyX.cons (o := ⟨_, _, _, _, _, _⟩) rfl (fun K hK => ?_) AllReadyX.nil
            refine step_append_any rfl (.tmp 85) (.tmp 89) 47 rfl w10.heap.size 43 i2 (.agg #[.float .f64 0, .int .i64 0, .int .i64 0, .int .i64 0, .int .i64 0, .int .i64 0]) 6 48 Tryz.underlying47 hi2 hx0 hx1 hx2 rfl (by decide) (.slice (some ⟨w12.heap.size, 0, none⟩) 0 0) 0 _ (by simp [Act.eval]) B1.out (gD D) nd (vD) (by simp [Act.eval]) (SLD.out _ L13.out) (fun _ _ _ _ => gD_oneR _ _ _) (by unfold maxLen; omega) (by omega) L13.out.size nd (Nat.zero_add _) ?_
            intro a6 c6 w14 hown6 hgr6
            have L14 := Lib.hid (L13.out.trans (below_grown B1.out L13.out.size hgr6))
            have O6 : Hid (w14.ownsRow w10.heap.size 43 6 (.slice a6 nd c6) (nd) (rowCells 6 (gD D) nd)) := hown6
            have B8n := Lib.hid (own_past B8m.out hgr6 (fun g9 hg => by simp [Value.ownBlock] at hg ⊢; omega))
            refine hK.out _ _ ?_ (fun hHeld => ?_)
            · exact SS.out _ L14.out
            clear hK K
            try go_frame
            refine wpAnyX_ready (rs := [9]) (by kernel_rfl) (by simp) ?_
            refine AllReadyX.cons (o := ⟨_, _, _, _, _, _⟩) rfl (fun K hK => ?_) AllReadyX.nil
            refine step_append_any rfl (.tmp 90) (.tmp 92) 47 rfl w10.heap.size 43 i2 (.agg #[.float .f64 0, .int .i64 0, .int .i64 0, .int .i64 0, .int .i64 0, .int .i64 0]) 6 48 Tryz.underlying47 hi2 hx0 hx1 hx2 rfl (by decide) (.slice a6 nd c6) nd _ (by simp [Act.eval]) O6.out (gD fun _ => ⟨⟨et, es, en, (d : Int), ep⟩, H.f⟩) 1 (.slice (some ⟨w11.heap.size, 0, none⟩) 1 1) (by simp [Act.eval]) (own_sl B8n.out) (fun _ _ _ _ => gD_oneR _ _ _) (by unfold maxLen; omega) (by omega) L14.out.size (nd + 1) rfl ?_
            intro aN cN wN hownN hgrN
            have LN := Lib.hid (L14.out.trans (below_grown O6.out L14.out.size hgrN))
            have ON : Hid (wN.ownsRow w10.heap.size 43 6 (.slice aN (nd + 1) cN) (nd + 1) (rowCells 6 (gD (fun i => if i = nd then ⟨⟨et, es, en, (d : Int), ep⟩, H.f⟩ else D i)) (nd + 1))) := by
              have h := hownN
              rw [done_cells] at h
              exact h
            refine hK.out _ _ ?_ (fun hHeld => ?_)
            · exact SS.out _ LN.out
            clear hK K
            try go_frame
            clear hownN hgrN
            refine wpAnyX_ready (rs := [10]) (by kernel_rfl) (by simp) ?_
            refine AllReadyX.cons (o := ⟨_, _, _, _, _, _⟩) rfl (fun K hK => ?_) AllReadyX.nil
            go_simp
            refine hK.out _ _ ?_ (fun hHeld => ?_)
            · exact SS.out _ LN.out
            clear hK K
            try go_frame
            refine wpAnyX_ready (rs := [11]) (by kernel_rfl) (by simp) ?_
            refine AllReadyX.cons (o := ⟨_, _, _, _, _, _⟩) rfl (fun K hK => ?_) AllReadyX.nil
            go_simp
            refine hK.out _ _ ?_ (fun hHeld => ?_)
            · exact SS.out _ LN.out
            clear hK K
            try go_frame
            refine wpAnyX_last (o := ⟨_, _, _, _, _, _⟩) (by kernel_rfl) rfl (fun K hK => ?_) (by kernel_rfl)
            have RN := Lib.hid (R10.out.below LN.out)
            have hfz := RN.out.cells.2.2.2.2.2.2.2.2.2 8
            have hcw := RN.out.cells.2.2.2.2.2.2.2.2.1
            have RF : Hid (RSim S1 P m vd vp vl vi ⟨updS x.S d H.s, insAll W2 (toL H.l)⟩ (nd + 1) (fun i => if i = nd then ⟨⟨et, es, en, (d : Int), ep⟩, H.f⟩ else D i) (.slice (some ⟨bO, 0, none⟩) m.nl cO) (vW') (.slice aN (nd + 1) cN) (wN.setCell ⟨P, 8, none⟩ (.slice aN (nd + 1) cN))) := RN.out.put 8 _ rfl RN.out.st RN.out.wt (own_sl (own_new R10.out.lo ON.out (Nat.le_refl _))) RN.out.wf
            have KF := Lib.hid ((Kp.of (tb := P) LN.out).trans (Kp.set P 8 (.slice aN (nd + 1) cN) wN))
            go_simp
            refine hK.out _ _ ?_
            clear hK K
            try go_frame
            generalize wN.setCell ⟨P, 8, none⟩ (.slice aN (nd + 1) cN) = wF at *
            clear hfz hcw hHeld
            go_wp2_with fail
            go_meet
            exact ⟨_, _, RF.out, KF.out⟩
        case rest =>
          obtain ⟨vW3, vDn, hrf, hkf⟩ := hcut
          have RF := Lib.hid hrf
          have KF := Lib.hid hkf
          clear hrf hkf SS SLD L11
          rename_i wE _
          have KA := Lib.hid ((K9.out.on B10.out).trans KF.out)
          have X0F := Lib.hid ((KA.out.blk (lt_of_block X0.out) (by have := ZA.out; omega)).trans X0.out)
          have X10F := Lib.hid ((KF.out.blk (lt_of_block X10.out) (by have := ZA.out; have := Z9.out; omega)).trans X10.out)
          have KU := Lib.hid ((Kp.of (tb := P) B0.out).trans KA.out)
          obtain ⟨t0, t1, t2, t3, t4, t5⟩ := six_cells7 X10F.out
          obtain ⟨z0, z1, z2, z3, z4, z5⟩ := six_cells7 X0F.out
          have zf : ∀ q9, wc.frozen? ⟨u.heap.size, q9, none⟩ = false := fun q9 => Lib.frozen_of_heap X0F.out q9
          have X9 := Lib.hid (put_six8 X0F.out (.float .f64 et) (.int .i64 es) (.int .i64 en) (.int .i64 (d : Int)) (.int .i64 ep) (.int .i64 H.f))
          have KZ := Lib.hid (show Kp P u (World.setCells wc u.heap.size 0 [.float .f64 et, .int .i64 es, .int .i64 en, .int .i64 (d : Int), .int .i64 ep, .int .i64 H.f]) from KU.out.low (put_low7 (Nat.le_refl _) [.float .f64 et, .int .i64 es, .int .i64 en, .int .i64 (d : Int), .int .i64 ep, .int .i64 H.f] 0 wc))
          have RZ : Hid (RSim S P m vd vp vl vi ⟨updS x.S d H.s, insAll W2 (toL H.l)⟩ (nd + 1) (fun i => if i = nd then ⟨⟨et, es, en, (d : Int), ep⟩, H.f⟩ else D i) (.slice (some ⟨bO, 0, none⟩) m.nl cO) (vW3) (vDn) (World.setCells wc u.heap.size 0 [.float .f64 et, .int .i64 es, .int .i64 en, .int .i64 (d : Int), .int .i64 ep, .int .i64 H.f])) := by
            refine (RF.out.kept (T := fun k => k == u.heap.size) (KpS.sets (by simp) [.float .f64 et, .int .i64 es, .int .i64 en, .int .i64 (d : Int), .int .i64 ep, .int .i64 H.f] 0 wc) (fun k hk => ?_) ?_).unhide SUB.out HSP.out
            · simp only [beq_iff_eq] at hk; rw [hk]; exact SD0.out
            · have := ZA.out; simp; omega
          go_wp2_with fail
          change bodyPost _ _ _ _ _ (World.setCells wc u.heap.size 0 [.float .f64 et, .int .i64 es, .int .i64 en, .int .i64 (d : Int), .int .i64 ep, .int .i64 H.f])
          clear z0 z1 z2 z3 z4 z5 zf t0 t1 t2 t3 t4 t5
          generalize World.setCells wc u.heap.size 0 [.float .f64 et, .int .i64 es, .int .i64 en, .int .i64 (d : Int), .int .i64 ep, .int .i64 H.f] = wF at *
          obtain ⟨z0, z1, z2, z3, z4, z5⟩ := six_cells7 X9.out
          exact bodyPost_ret (v := .tuple #[.agg #[.float .f64 et, .int .i64 es, .int .i64 en, .int .i64 (d : Int), .int .i64 ep, .int .i64 H.f], .bool true]) (by simp [results, Tryz.results11, go_sem, z0, z1, z2, z3, z4, z5]) rfl ⟨rfl, ⟨_, _, _, RZ.out⟩, KZ.out⟩

end Go.Proofs.YthkfaeplmmlnlaaGreat
