/- The contracts of the program's Waiting, Handled, State. The contract of the program's eventsOf. The contracts of dice.New, take, Next, Count. The program's machine in memory: one block with the registers and all that is told of a run, its dice, its words and what was sent in rows of their own. -/
import Derived.Lib.Builder
import Derived.Lib.SmallJoins
import Derived.Test.YthkfaeplmmlnlaaGreatRZ12
import Derived.Test.YthkfaeplmmlnlaaGreatRZ14
import Derived.Test.YthkfaeplmmlnlaaGreatRZ8
import Derived.Test.YthkfaeplmmlnlaaGreatRZ11
import Derived.Test.YthkfaeplmmlnlaaGreatRActP4
import Derived.Test.YthkfaeplmmlnlaaGreatRZ2
import Derived.Test.YthkfaeplmmlnlaaGreatRZ4
namespace Go.Proofs.YthkfaeplmmlnlaaGreat
open Go.RowKit Go.Deep Go.Maps
set_option linter.unusedVariables false
set_option maxRecDepth 100000

theorem pwaiting_any (S : Nat → Bool) (P bm bc bs : Nat) (m : Mdl) (vd vp vl vi vS : Value) (x : Sm) (nx nd : Nat) (u : World) (h : PSim S P bm bc bs m vd vp vl vi vS x nx nd u) :
    Calls Tryz.prog 13 #[.pointer (some ⟨P, 0, none⟩)] u fun r u' => r = .returned (.int .i64 (x.W.length : Int)) ∧ u' = u := by
  obtain ⟨D, L, h1, h2, h3, h4⟩ := h.mp
  obtain ⟨p0, p1, p2, p3, p4, p5, p6, p7, p8, p9, p10, pf⟩ := h.cells
  have hz : Maps.size D = x.W.length := by rw [h2.size, ← h3.length_eq, List.length_map]
  go_enter Tryz.func13, Tryz.ntmps13
  go_wp2_with (first
    | (at_len; refine wpList_len_own _ rfl _ 66 rfl 3 41 Tryz.underlying66 evR bm nx D rfl h1 ?_; rw [hz])
    | fail)
  go_ret
  exact ⟨rfl, rfl⟩
theorem pwaiting_nil (u : World) : Calls Tryz.prog 13 #[.pointer none] u fun r u' => r = .returned (.int .i64 0) ∧ u' = u := by
  go_enter Tryz.func13, Tryz.ntmps13
  go_wp2_with fail
  go_ret
  exact ⟨rfl, rfl⟩
theorem phandled_any (S : Nat → Bool) (P bm bc bs : Nat) (m : Mdl) (vd vp vl vi vS : Value) (x : Sm) (nx nd : Nat) (u : World) (h : PSim S P bm bc bs m vd vp vl vi vS x nx nd u) :
    Calls Tryz.prog 14 #[.pointer (some ⟨P, 0, none⟩)] u fun r u' => r = .returned (.int .i64 (nd : Int)) ∧ u' = u := by
  obtain ⟨p0, p1, p2, p3, p4, p5, p6, p7, p8, p9, p10, pf⟩ := h.cells
  go_enter Tryz.func14, Tryz.ntmps14
  go_wp2_with fail
  go_ret
  exact ⟨rfl, rfl⟩
theorem phandled_nil (u : World) : Calls Tryz.prog 14 #[.pointer none] u fun r u' => r = .returned (.int .i64 0) ∧ u' = u := by
  go_enter Tryz.func14, Tryz.ntmps14
  go_wp2_with fail
  go_ret
  exact ⟨rfl, rfl⟩
theorem other_setsL {q b : Nat} (h : q ≠ b) : ∀ (l : List Value) (o : Nat) (w : World), (w.setCells b o l).heap[q]? = w.heap[q]?
  | [], _, w => rfl
  | v :: l, o, w => (other_setsL h l (o + 1) _).trans (Below.heap_setCell w ⟨b, o, none⟩ v q h)
/-- a state's zero value in the result's cell -/
theorem pstate_nil (lp : Int) (u : World) : Calls Tryz.prog 16 #[.pointer none, .int .i64 lp] u fun r u' => r = .returned (.agg #[.slice none 0 0, .int .i64 0, .int .i64 0]) ∧ Below u.heap.size u u' := by
  have X1 := Lib.hid (heap_alloc_new u (.cells #[.slice none 0 0, .int .i64 0, .int .i64 0] 55))
  have B1 := Lib.hid (balloc u (.cells #[.slice none 0 0, .int .i64 0, .int .i64 0] 55))
  go_enter Tryz.func16, Tryz.ntmps16
  go_upto_region 2 with fail
  generalize u.alloc (.cells #[.slice none 0 0, .int .i64 0, .int .i64 0] 55) = w1 at *
  obtain ⟨t0, t1, t2⟩ := three_cells8 X1.out
  have tf : ∀ q9, w1.frozen? ⟨u.heap.size, q9, none⟩ = false := fun q9 => Lib.frozen_of_heap X1.out q9
  have X5 := Lib.hid (put_three8 X1.out (.slice none 0 0) (.int .i64 0) (.int .i64 0))
  have L5 := Lib.hid (B1.out.trans (put_low7 (base := u.heap.size) (Nat.le_refl _) [.slice none 0 0, .int .i64 0, .int .i64 0] 0 w1))
  go_wp2_with fail
  change bodyPost _ _ _ _ _ (World.setCells w1 u.heap.size 0 [.slice none 0 0, .int .i64 0, .int .i64 0])
  clear t0 t1 t2 tf
  generalize World.setCells w1 u.heap.size 0 [.slice none 0 0, .int .i64 0, .int .i64 0] = w5 at *
  obtain ⟨z0, z1, z2⟩ := three_cells8 X5.out
  exact bodyPost_ret (v := .agg #[.slice none 0 0, .int .i64 0, .int .i64 0]) (by simp [results, Tryz.results16, go_sem, z0, z1, z2]) rfl ⟨rfl, L5.out⟩

theorem pstate_out (S : Nat → Bool) (P bm bc bs : Nat) (m : Mdl) (vd vp vl vi vS : Value) (x : Sm) (nx nd : Nat) (lp : Int) (u : World) (h : PSim S P bm bc bs m vd vp vl vi vS x nx nd u) (hl : lp < 0 ∨ (m.nl : Int) ≤ lp) :
    Calls Tryz.prog 16 #[.pointer (some ⟨P, 0, none⟩), .int .i64 lp] u fun r u' => r = .returned (.agg #[.slice none 0 0, .int .i64 0, .int .i64 0]) ∧ Below u.heap.size u u' := by
  have X1 := Lib.hid (heap_alloc_new u (.cells #[.slice none 0 0, .int .i64 0, .int .i64 0] 55))
  have B1 := Lib.hid (balloc u (.cells #[.slice none 0 0, .int .i64 0, .int .i64 0] 55))
  obtain ⟨g, ⟨⟨c, rfl, s1, s2⟩, _, _⟩, _⟩ := id h.st
  have R1 := Lib.hid (h.below B1.out)
  clear h
  by_cases h0 : lp < 0
  · have d1 : decide (lp < 0) = true := by simp [h0]
    go_enter Tryz.func16, Tryz.ntmps16
    go_upto_region 2 with fail
    generalize u.alloc (.cells #[.slice none 0 0, .int .i64 0, .int .i64 0] 55) = w1 at *
    obtain ⟨t0, t1, t2⟩ := three_cells8 X1.out
    have tf : ∀ q9, w1.frozen? ⟨u.heap.size, q9, none⟩ = false := fun q9 => Lib.frozen_of_heap X1.out q9
    have X5 := Lib.hid (put_three8 X1.out (.slice none 0 0) (.int .i64 0) (.int .i64 0))
    have L5 := Lib.hid (B1.out.trans (put_low7 (base := u.heap.size) (Nat.le_refl _) [.slice none 0 0, .int .i64 0, .int .i64 0] 0 w1))
    go_wp2_with fail
    change bodyPost _ _ _ _ _ (World.setCells w1 u.heap.size 0 [.slice none 0 0, .int .i64 0, .int .i64 0])
    clear t0 t1 t2 tf
    generalize World.setCells w1 u.heap.size 0 [.slice none 0 0, .int .i64 0, .int .i64 0] = w5 at *
    obtain ⟨z0, z1, z2⟩ := three_cells8 X5.out
    exact bodyPost_ret (v := .agg #[.slice none 0 0, .int .i64 0, .int .i64 0]) (by simp [results, Tryz.results16, go_sem, z0, z1, z2]) rfl ⟨rfl, L5.out⟩
  · have d1 : decide (lp < 0) = false := by simp [h0]
    have d2 : decide ((m.nl : Int) ≤ lp) = true := by simp; omega
    go_enter Tryz.func16, Tryz.ntmps16
    go_upto_region 1 with fail
    generalize u.alloc (.cells #[.slice none 0 0, .int .i64 0, .int .i64 0] 55) = w1 at *
    obtain ⟨p0, p1, p2, p3, p4, p5, p6, p7, p8, p9, p10, pf⟩ := R1.out.cells
    go_upto_region 2 with fail
    clear p0 p1 p2 p3 p4 p5 p6 p7 p8 p9 p10 pf
    obtain ⟨t0, t1, t2⟩ := three_cells8 X1.out
    have tf : ∀ q9, w1.frozen? ⟨u.heap.size, q9, none⟩ = false := fun q9 => Lib.frozen_of_heap X1.out q9
    have X5 := Lib.hid (put_three8 X1.out (.slice none 0 0) (.int .i64 0) (.int .i64 0))
    have L5 := Lib.hid (B1.out.trans (put_low7 (base := u.heap.size) (Nat.le_refl _) [.slice none 0 0, .int .i64 0, .int .i64 0] 0 w1))
    go_wp2_with fail
    change bodyPost _ _ _ _ _ (World.setCells w1 u.heap.size 0 [.slice none 0 0, .int .i64 0, .int .i64 0])
    clear t0 t1 t2 tf
    generalize World.setCells w1 u.heap.size 0 [.slice none 0 0, .int .i64 0, .int .i64 0] = w5 at *
    obtain ⟨z0, z1, z2⟩ := three_cells8 X5.out
    exact bodyPost_ret (v := .agg #[.slice none 0 0, .int .i64 0, .int .i64 0]) (by simp [results, Tryz.results16, go_sem, z0, z1, z2]) rfl ⟨rfl, L5.out⟩

set_option maxHeartbeats 1600000 in
theorem pstate_in (S : Nat → Bool) (P bm bc bs : Nat) (m : Mdl) (vd vp vl vi vS : Value) (x : Sm) (nx nd : Nat) (L : Nat) (u : World) (h : PSim S P bm bc bs m vd vp vl vi vS x nx nd u) (hl : L < m.nl) (hw : (x.S L).nw ≤ 100) :
    Calls Tryz.prog 16 #[.pointer (some ⟨P, 0, none⟩), .int .i64 (L : Int)] u fun r u' => ∃ v, r = .returned v ∧ StaAt u.heap.size (x.S L) v u' ∧ Below u.heap.size u u' := by
  have X1 := Lib.hid (heap_alloc_new u (.cells #[.slice none 0 0, .int .i64 0, .int .i64 0] 55))
  have B1 := Lib.hid (balloc u (.cells #[.slice none 0 0, .int .i64 0, .int .i64 0] 55))
  have R1 := Lib.hid (h.below B1.out)
  obtain ⟨g, sr, hwd⟩ := id h.st
  have SR := Lib.hid sr
  obtain ⟨c, rfl, s1, s2⟩ := id sr.v
  have HS := Lib.hid (hwd L hl).hds
  have hbs := sr.lt
  clear h sr hwd
  have hl0 : (0 : Int) ≤ (L : Int) := by omega
  have hl1 : (L : Int) < (m.nl : Int) := by omega
  have d1 : decide ((L : Int) < 0) = false := by simp
  have d2 : decide (m.nl ≤ L) = false := by simp; omega
  have HC := Lib.hid (copyAny8 (x.S L) (g L))
  unfold sval at HC
  go_enter Tryz.func16, Tryz.ntmps16
  go_upto_region 1 with fail
  generalize u.alloc (.cells #[.slice none 0 0, .int .i64 0, .int .i64 0] 55) = w1 at *
  obtain ⟨p0, p1, p2, p3, p4, p5, p6, p7, p8, p9, p10, pf⟩ := R1.out.cells
  have r0 : w1.cell? ⟨bs, L * 3, none⟩ = some (g L) := (SR.out.kept (B1.out.block _ hbs)).c L hl 0 (by omega)
  have r1 : w1.cell? ⟨bs, L * 3 + 1, none⟩ = some (.int .i64 (x.S L).sent) := (SR.out.kept (B1.out.block _ hbs)).c L hl 1 (by omega)
  have r2 : w1.cell? ⟨bs, L * 3 + 2, none⟩ = some (.int .i64 (x.S L).dice) := (SR.out.kept (B1.out.block _ hbs)).c L hl 2 (by omega)
  go_upto_region 3 with fail
  go_wp2_with (first
    | (go_at_call 34; refine (HC.out _ hw (HS.out.below B1.out)).mono ?_; rintro r w2 ⟨v2, rfl, ⟨vI, rfl, ho⟩, hb2⟩; unfold sval; have B2 := Lib.hid (B1.out.trans (hb2.mono B1.out.size)); have X2 := Lib.hid ((hb2.block _ (lt_of_block X1.out)).trans X1.out); have O2 := Lib.hid (own_lower ho B1.out.size); obtain ⟨ax, cx, rfl, _⟩ := own_form ho; clear ho hb2 p0 p1 p2 p3 p4 p5 p6 p7 p8 p9 p10 pf r0 r1 r2; obtain ⟨t0, t1, t2⟩ := three_cells8 X2.out; have tf : ∀ q9, w2.frozen? ⟨u.heap.size, q9, none⟩ = false := fun q9 => Lib.frozen_of_heap X2.out q9)
    | fail)
  change bodyPost _ _ _ _ _ (World.setCells w2 u.heap.size 0 [.slice ax (x.S L).nw cx, .int .i64 (x.S L).sent, .int .i64 (x.S L).dice])
  have X5 := Lib.hid (put_three8 X2.out (.slice ax (x.S L).nw cx) (.int .i64 (x.S L).sent) (.int .i64 (x.S L).dice))
  have L5 := Lib.hid (B2.out.trans (put_low7 (base := u.heap.size) (Nat.le_refl _) [.slice ax (x.S L).nw cx, .int .i64 (x.S L).sent, .int .i64 (x.S L).dice] 0 w2))
  have O5 : Hid ((World.setCells w2 u.heap.size 0 [.slice ax (x.S L).nw cx, .int .i64 (x.S L).sent, .int .i64 (x.S L).dice]).ownsRow u.heap.size 3 1 (.slice ax (x.S L).nw cx) (x.S L).nw (rowCells 1 (gW (x.S L).w) (x.S L).nw)) := own_kept O2.out fun q hq => other_setsL (by
    rintro rfl
    rcases O2.out.2 with ⟨e9, _⟩ | ⟨g9, cap, cur, e9, _, h9, _⟩
    · rw [e9] at hq; simp [Value.ownBlock] at hq
    · rw [e9] at hq
      simp only [Value.ownBlock, Option.some.injEq] at hq
      subst hq
      rw [X2.out] at h9
      simp only [Option.some.injEq, Obj.cells.injEq] at h9
      exact absurd h9.2.1 (by decide)) _ _ _
  clear t0 t1 t2 tf
  generalize World.setCells w2 u.heap.size 0 [.slice ax (x.S L).nw cx, .int .i64 (x.S L).sent, .int .i64 (x.S L).dice] = w5 at *
  obtain ⟨z0, z1, z2⟩ := three_cells8 X5.out
  exact bodyPost_ret (v := .agg #[.slice ax (x.S L).nw cx, .int .i64 (x.S L).sent, .int .i64 (x.S L).dice]) (by simp [results, Tryz.results16, go_sem, z0, z1, z2]) rfl ⟨_, rfl, ⟨_, rfl, O5.out⟩, L5.out⟩

end Go.Proofs.YthkfaeplmmlnlaaGreat
namespace Go.Proofs.YthkfaeplmmlnlaaGreat
open Go.RowKit Go.Deep
set_option linter.unusedVariables false
set_option maxRecDepth 100000

/-- events where all went well -/
def gate8 (b : Bool) (l : Evs) : Evs := match b with
  | true => l
  | false => evs0
set_option maxHeartbeats 3200000 in
theorem eventsOf8_any (m : Mdl) (lp : Int) (s : Sta) (e : Evn) (o : Ou) (hns : o.ns ≤ 4) (vS : Value) (c0 c1 c2 c3 : Value) (w : World) (hs : Sl 3 (gS o.sn) o.ns vS w)
    (HP : Hid (∀ k, k < o.ns → ∀ u, Below w.heap.size w u → Calls Tryz.prog 86 #[.int .i64 (k : Int), .agg #[.int .i64 (o.sn k).dst, .int .i64 (o.sn k).dl, .int .i64 (o.sn k).pay], c0, c1, c2, c3] u fun r w' => r = .returned (putV m lp s e (o.sn k) k) ∧ Below u.heap.size u w')) :
    Calls Tryz.prog 64 #[vS, .float .f64 m.fin, .func (.func 86) #[] #[c0, c1, c2, c3]] w fun r w' =>
      ∃ v, r = .returned (.tuple #[v, .bool (laterB m e o o.ns)]) ∧ EvsAt w.heap.size (gate8 (laterB m e o o.ns) (sentE m lp s e o o.ns)) v w' ∧ Below w.heap.size w w' := by
  obtain ⟨i0, hi0, hz0, hz1, hz2⟩ := info_parts info_event8
  have hsf := store_float
  have HS := Lib.hid hs
  have HNS := Lib.hid hns
  obtain ⟨ao, co, rfl, lo1, lo2, ko⟩ := id hs
  have KO := Lib.hid ko
  clear hs hns ko
  go_enter Tryz.func64, Tryz.ntmps64
  go_wp2_with fail
  go_loopw [8, 15] (fun v i wr => ∃ j : Nat, j ≤ o.ns ∧ i = .int .i64 j ∧ EvsAt w.heap.size (sentE m lp s e o j) v wr ∧ laterB m e o j = true ∧ Below w.heap.size w wr) (fun _ i _ => o.ns - (intOf i).toNat)
  case atStart => exact ⟨0, Nat.zero_le _, rfl, evsAt_none _ _, rfl, Below.refl _ _⟩
  case round =>
    obtain ⟨j, hj, rfl, hv, hlb, hl⟩ := hrel
    have HV := Lib.hid hv
    have HL := Lib.hid hl
    have HLB := Lib.hid hlb
    obtain ⟨az, cz, rfl, _⟩ := id hv
    clear hv hl hlb
    have hn4 := HNS.out
    by_cases hlt : j < o.ns
    · obtain ⟨b, q, rfl, h1⟩ := KO.out (by omega)
      have hA2 := h1.below HL.out
      obtain ⟨x0, x1, x2⟩ := hA2.three j hlt
      simp only [gS] at x0 x1 x2
      have HPJ := Lib.hid (HP.out j hlt)
      have HLT := Lib.hid hlt
      have hj2 : (j : Int) < (o.ns : Int) := by omega
      have hj0 : (0 : Int) ≤ (j : Int) := by omega
      have hjt : ((j : Nat) : Int).toNat = j := by omega
      have hbn : (sentE m lp s e o j).n ≤ j := sentE_n m lp s e o j
      have WS : Hid (whenS m e o j = laterSpec e.t (m.d (dlyN m.nd (o.sn j).dl))) := rfl
      unfold putV at HPJ
      generalize laterSpec e.t (m.d (dlyN m.nd (o.sn j).dl)) = ts at *
      obtain ⟨t, te⟩ := ts
      simp only at HPJ
      have EB : Hid (sentE m lp s e o (j + 1) = if leqF t m.fin then (sentE m lp s e o j).push ⟨t, lp, s.sent + (j : Int), (o.sn j).dst, (o.sn j).pay⟩ else sentE m lp s e o j) := by
        show _ = _
        rw [show sentE m lp s e o (j + 1) = (if leqF (whenS m e o j).1 m.fin then (sentE m lp s e o j).push ⟨(whenS m e o j).1, lp, s.sent + (j : Int), (o.sn j).dst, (o.sn j).pay⟩ else sentE m lp s e o j) from rfl, WS.out]
      have EL : Hid (laterB m e o (j + 1) = decide (te = 0)) := by
        show _ = _
        rw [show laterB m e o (j + 1) = (laterB m e o j && decide ((whenS m e o j).2 = 0)) from rfl, WS.out, HLB.out]; rfl
      have L1 := Lib.hid (bthen HL.out (balloc wr (.cells #[.int .i64 (o.sn j).dst, .int .i64 (o.sn j).dl, .int .i64 (o.sn j).pay] 97)))
      have V1 := Lib.hid (HV.out.below (balloc wr (.cells #[.int .i64 (o.sn j).dst, .int .i64 (o.sn j).dl, .int .i64 (o.sn j).pay] 97)))
      have Y1 := Lib.hid (heap_alloc_new wr (.cells #[.int .i64 (o.sn j).dst, .int .i64 (o.sn j).dl, .int .i64 (o.sn j).pay] 97))
      clear h1 hA2 KO
      generalize hu : wr.alloc (.cells #[.int .i64 (o.sn j).dst, .int .i64 (o.sn j).dl, .int .i64 (o.sn j).pay] 97) = u1 at *
      go_upto_region 5 with fail
      try rw [hu]
      clear hu x0 x1 x2
      generalize wr.heap.size = q1 at *
      obtain ⟨y0, y1, y2⟩ := three_cells8 Y1.out
      by_cases ht : te = 0
      · subst ht
        rw [if_pos rfl] at HPJ
        have EL2 : Hid (laterB m e o (j + 1) = true) := by show _ = _; rw [EL.out]; rfl
        clear EL WS
        cases hq : leqF t m.fin with
        | false =>
          have dq : ((FloatKind.f64.format.order t m.fin == some Ordering.lt) || (FloatKind.f64.format.order t m.fin == some Ordering.eq)) = false := hq
          rw [hq] at EB
          clear hq
          go_upto_region 6 with (go_at_call 86; refine (HPJ.out _ L1.out).mono ?_; rintro r w1 ⟨rfl, hb1⟩; have L2 := Lib.hid (bthen L1.out hb1); have V2 := Lib.hid (V1.out.below hb1); clear hb1 y0 y1 y2)
          have V3 := Lib.hid (V2.out.below (balloc w1 (.cells #[.float .f64 t, .int .i64 lp, .int .i64 (s.sent + (j : Int)), .int .i64 (o.sn j).dst, .int .i64 (o.sn j).pay] 41)))
          have L3 := Lib.hid (bthen L2.out (balloc w1 (.cells #[.float .f64 t, .int .i64 lp, .int .i64 (s.sent + (j : Int)), .int .i64 (o.sn j).dst, .int .i64 (o.sn j).pay] 41)))
          have T3 := Lib.hid (heap_alloc_new w1 (.cells #[.float .f64 t, .int .i64 lp, .int .i64 (s.sent + (j : Int)), .int .i64 (o.sn j).dst, .int .i64 (o.sn j).pay] 41))
          change Code.wp _ _ _ _ (w1.alloc (.cells #[.float .f64 t, .int .i64 lp, .int .i64 (s.sent + (j : Int)), .int .i64 (o.sn j).dst, .int .i64 (o.sn j).pay] 41))
          generalize w1.alloc (.cells #[.float .f64 t, .int .i64 lp, .int .i64 (s.sent + (j : Int)), .int .i64 (o.sn j).dst, .int .i64 (o.sn j).pay] 41) = u3 at *
          generalize w1.heap.size = q3 at *
          obtain ⟨t0, t1, t2, t3, t4⟩ := five_cells8 T3.out
          go_wp2_with fail
          go_roundw
          case rel => exact ⟨j + 1, by omega, by go_num, by rw [EB.out]; exact V3.out, EL2.out, L3.out⟩
          case measure => simp [intOf]; omega
        | true =>
          have dq : ((FloatKind.f64.format.order t m.fin == some Ordering.lt) || (FloatKind.f64.format.order t m.fin == some Ordering.eq)) = true := hq
          rw [hq] at EB
          clear hq
          go_upto_region 6 with (go_at_call 86; refine (HPJ.out _ L1.out).mono ?_; rintro r w1 ⟨rfl, hb1⟩; have L2 := Lib.hid (bthen L1.out hb1); have V2 := Lib.hid (V1.out.below hb1); clear hb1 y0 y1 y2)
          have V3 := Lib.hid (V2.out.below (balloc w1 (.cells #[.float .f64 t, .int .i64 lp, .int .i64 (s.sent + (j : Int)), .int .i64 (o.sn j).dst, .int .i64 (o.sn j).pay] 41)))
          have L3 := Lib.hid (bthen L2.out (balloc w1 (.cells #[.float .f64 t, .int .i64 lp, .int .i64 (s.sent + (j : Int)), .int .i64 (o.sn j).dst, .int .i64 (o.sn j).pay] 41)))
          have T3 := Lib.hid (heap_alloc_new w1 (.cells #[.float .f64 t, .int .i64 lp, .int .i64 (s.sent + (j : Int)), .int .i64 (o.sn j).dst, .int .i64 (o.sn j).pay] 41))
          change Code.wp _ _ _ _ (w1.alloc (.cells #[.float .f64 t, .int .i64 lp, .int .i64 (s.sent + (j : Int)), .int .i64 (o.sn j).dst, .int .i64 (o.sn j).pay] 41))
          generalize w1.alloc (.cells #[.float .f64 t, .int .i64 lp, .int .i64 (s.sent + (j : Int)), .int .i64 (o.sn j).dst, .int .i64 (o.sn j).pay] 41) = u3 at *
          generalize w1.heap.size = q3 at *
          obtain ⟨t0, t1, t2, t3, t4⟩ := five_cells8 T3.out
          have V4 := Lib.hid (V3.out.below (balloc u3 (.cells #[.float .f64 t, .int .i64 lp, .int .i64 (s.sent + (j : Int)), .int .i64 (o.sn j).dst, .int .i64 (o.sn j).pay] 41)))
          have L4 := Lib.hid (L3.out.trans ((balloc u3 (.cells #[.float .f64 t, .int .i64 lp, .int .i64 (s.sent + (j : Int)), .int .i64 (o.sn j).dst, .int .i64 (o.sn j).pay] 41)).mono L3.out.size))
          have HNW := Lib.hid (news_cells7 u3 #[.float .f64 t, .int .i64 lp, .int .i64 (s.sent + (j : Int)), .int .i64 (o.sn j).dst, .int .i64 (o.sn j).pay] 41)
          have HOW : Hid ((u3.alloc (.cells #[.float .f64 t, .int .i64 lp, .int .i64 (s.sent + (j : Int)), .int .i64 (o.sn j).dst, .int .i64 (o.sn j).pay] 41)).ownsRow w.heap.size 41 5 (.slice az (sentE m lp s e o j).n cz) (sentE m lp s e o j).n (rowCells 5 (gV8 (sentE m lp s e o j).f) (sentE m lp s e o j).n)) := by
            obtain ⟨_, _, e1, h1⟩ := V4.out
            simp only [Value.slice.injEq, true_and] at e1
            obtain ⟨rfl, rfl⟩ := e1
            exact h1
          have HBS : Hid (w.heap.size ≤ (u3.alloc (.cells #[.float .f64 t, .int .i64 lp, .int .i64 (s.sent + (j : Int)), .int .i64 (o.sn j).dst, .int .i64 (o.sn j).pay] 41)).heap.size) := L4.out.size
          go_wp2_with (at_builtin; refine wpList_append_own _ rfl _ _ 50 rfl w.heap.size 41 i0 (.agg #[.float .f64 0, .int .i64 0, .int .i64 0, .int .i64 0, .int .i64 0]) 5 40 Tryz.underlying50 hi0 hz0 hz1 hz2 rfl (by decide) (.slice az (sentE m lp s e o j).n cz) (sentE m lp s e o j).n _ rfl HOW.out ⟨u3.heap.size, 0, none⟩ 1 1 [.float .f64 t, .int .i64 lp, .int .i64 (s.sent + (j : Int)), .int .i64 (o.sn j).dst, .int .i64 (o.sn j).pay] rfl rfl HNW.out (by simp [Value.oneCell']) (by unfold maxLen; omega) (by omega) HBS.out ?_)
          intro v1 w10 hown hgr hnn
          have L5 := Lib.hid (L4.out.trans (below_grown HOW.out HBS.out hgr))
          have V5 : Hid (EvsAt w.heap.size (sentE m lp s e o (j + 1)) v1 w10) := by
            show EvsAt _ _ _ _
            rw [EB.out]
            first | rw [if_pos rfl] | rw [if_pos trivial]
            obtain ⟨a1, c1, e1⟩ : ∃ a c, v1 = .slice a ((sentE m lp s e o j).n + 1) c := by
              rcases hown.2 with ⟨rfl, h⟩ | ⟨g, cap, cur, rfl, _⟩
              · exact absurd h (Nat.succ_ne_zero _)
              · exact ⟨_, _, rfl⟩
            subst e1
            refine ⟨a1, c1, rfl, ?_⟩
            rw [← push_cells (sentE m lp s e o j) ⟨t, lp, s.sent + (j : Int), (o.sn j).dst, (o.sn j).pay⟩]
            exact hown
          clear hown hgr hnn
          go_wp2_with fail
          go_roundw
          case rel => exact ⟨j + 1, by omega, by go_num, V5.out, EL2.out, L5.out⟩
          case measure => simp [intOf]; omega
      · rw [if_neg ht] at HPJ
        have EH : Hid (laterB m e o o.ns = false) := (laterB_false (j := j) (by rw [WS.out]; exact ht) _ HLT.out)
        clear ht EL EB WS
        go_upto_region 6 with (go_at_call 86; refine (HPJ.out _ L1.out).mono ?_; rintro r w1 ⟨rfl, hb1⟩; have L2 := Lib.hid (bthen L1.out hb1); have V2 := Lib.hid (V1.out.below hb1); clear hb1 y0 y1 y2)
        have L3 := Lib.hid (bthen L2.out (balloc w1 (.cells #[.float .f64 0, .int .i64 0, .int .i64 0, .int .i64 0, .int .i64 0] 41)))
        change Code.wp _ _ _ _ (w1.alloc (.cells #[.float .f64 0, .int .i64 0, .int .i64 0, .int .i64 0, .int .i64 0] 41))
        generalize w1.alloc (.cells #[.float .f64 0, .int .i64 0, .int .i64 0, .int .i64 0, .int .i64 0] 41) = u3 at *
        go_wp2_with fail
        go_ret2
        exact ⟨.slice none 0 0, by rw [EH.out]; rfl, by rw [EH.out]; exact evsAt_none _ _, L3.out⟩
    · obtain rfl : j = o.ns := by omega
      go_wp2_with fail
      go_ret2
      exact ⟨.slice az (sentE m lp s e o o.ns).n cz, by rw [HLB.out]; rfl, by rw [HLB.out]; exact HV.out, HL.out⟩

end Go.Proofs.YthkfaeplmmlnlaaGreat
namespace Go.Proofs.YthkfaeplmmlnlaaGreat
open Go.RowKit

/-- dice with a word and a next count lie in block b -/
def DiceAt (a : Nat) (c : Int) (b : Nat) (w : World) : Prop := w.heap[b]? = some (.cells #[.int .u64 a, .int .i64 c] 164 (0, 0))
theorem diceAt_lt {a : Nat} {c : Int} {b : Nat} {w : World} (h : DiceAt a c b w) : b < w.heap.size := by
  unfold DiceAt at h
  rcases Nat.lt_or_ge b w.heap.size with k | k
  · exact k
  · rw [Array.getElem?_eq_none k] at h; cases h
theorem diceAt_below {a : Nat} {c : Int} {b : Nat} {w w2 : World} (h : DiceAt a c b w) (k : Below w.heap.size w w2) : DiceAt a c b w2 := by
  have := k.block b (diceAt_lt h)
  unfold DiceAt at *
  rw [this, h]
theorem diceAt_drew {a : Nat} {c : Int} {b : Nat} {w : World} (h : DiceAt a c b w) : DiceAt a c b w.drew := h
theorem diceAt_new (a : Nat) (c : Int) (w : World) : DiceAt a c w.heap.size (w.alloc (.cells #[.int .u64 a, .int .i64 c] 164)) :=
  heap_alloc_new w _
theorem diceAt_set {a : Nat} {c : Int} {b : Nat} {w : World} (h : DiceAt a c b w) (d : Int) : DiceAt a d b (w.setCell ⟨b, 1, none⟩ (.int .i64 d)) := by
  unfold DiceAt at *
  rw [Joins.block_setCell h]
  rfl
theorem diceAt_other {a : Nat} {c : Int} {b k : Nat} {w : World} (h : DiceAt a c b w) (hk : b ≠ k) (v : Value) : DiceAt a c b (w.setCell ⟨k, 1, none⟩ v) := by
  unfold DiceAt at *
  rw [Below.heap_setCell w ⟨k, 1, none⟩ v b hk, h]

theorem new_any (s p c : Int) (w : World) :
    Calls Tryz.prog 103 #[.int .i64 s, .int .i64 p, .int .i64 c] w fun e w' => e = .returned (.pointer (some ⟨w.heap.size, 0, none⟩)) ∧ w' = w.alloc (.cells #[.int .u64 (wordN s p), .int .i64 c] 164) := by
  have H := Lib.hid (wordOf_any s p)
  generalize wordN s p = a at H ⊢
  go_enter Tryz.func103, Tryz.ntmps103
  go_wp2_with (go_at_call 109; refine (H.out _).mono ?_; rintro e w' ⟨rfl, rfl⟩)
  go_ret
  exact ⟨rfl, rfl⟩

theorem take4_any (a : Nat) (c : Int) (b : Nat) (w : World) (h : DiceAt a c b w) :
    Calls Tryz.prog 119 #[.pointer (some ⟨b, 0, none⟩), .func (.func 120) #[.int .u64 a] #[]] w fun e w' => e = .returned (.int .u64 (behindN a c)) ∧ w' = w.setCell ⟨b, 1, none⟩ (.int .i64 (wrap64 (c + 1))) := by
  have H := Lib.hid (wroll_any a c)
  generalize behindN a c = q at H ⊢
  have c1 : w.cell? ⟨b, 1, none⟩ = some (.int .i64 c) := by rw [Lib.cell_of_heap h]; rfl
  have f1 : w.frozen? ⟨b, 1, none⟩ = false := Lib.frozen_of_heap h 1
  clear h
  go_enter Tryz.func119, Tryz.ntmps119
  go_wp2_with (go_at_call 120; refine (H.out _).mono ?_; rintro e w' ⟨rfl, rfl⟩)
  go_ret
  exact ⟨rfl, rfl⟩

/-- what may not be rolled is not rolled -/
theorem next_low (p : Option Addr) (n : Int) (hn : n < 1) (w : World) :
    Calls Tryz.prog 116 #[.pointer p, .int .i64 n] w fun e w' => e = .returned (.tuple #[.int .i64 0, .bool false]) ∧ w = w' := by
  cases p
  all_goals
    go_enter Tryz.func116, Tryz.ntmps116
    go_wp2_with fail
    exact bodyPost_ret (v := .tuple #[.int .i64 0, .bool false]) (by simp [results, Tryz.results116, go_sem]) rfl ⟨rfl, rfl⟩
/-- nil dice roll nothing -/
theorem next_nil (n : Int) (w : World) :
    Calls Tryz.prog 116 #[.pointer none, .int .i64 n] w fun e w' => e = .returned (.tuple #[.int .i64 0, .bool false]) ∧ w = w' := by
  go_enter Tryz.func116, Tryz.ntmps116
  go_wp2_with fail
  exact bodyPost_ret (v := .tuple #[.int .i64 0, .bool false]) (by simp [results, Tryz.results116, go_sem]) rfl ⟨rfl, rfl⟩
/-- the next roll -/
theorem next_pos (a : Nat) (c n : Int) (b : Nat) (h1 : 1 ≤ n) (hn : n ≤ 9223372036854775807) (w : World) (h : DiceAt a c b w) :
    Calls Tryz.prog 116 #[.pointer (some ⟨b, 0, none⟩), .int .i64 n] w fun e w' => e = .returned (.tuple #[.int .i64 (belowN (behindN a c) n), .bool true]) ∧ w' = w.setCell ⟨b, 1, none⟩ (.int .i64 (wrap64 (c + 1))) := by
  have hmf : ∀ (fn : Fn) (first cap : Array Value) (w : World), (Instr.makeFunc fn first cap).run Tryz.prog w = .ok (.func fn first cap) w := fun _ _ _ _ => rfl
  have H := Lib.hid (take4_any a c b w h)
  have H2 := Lib.hid (below_any (behindN a c) n (behindN_lt a c) hn)
  have c0 : w.cell? ⟨b, 0, none⟩ = some (.int .u64 a) := by rw [Lib.cell_of_heap h]; rfl
  generalize belowN (behindN a c) n = r at H2 ⊢
  generalize behindN a c = q at H H2
  clear h
  go_enter Tryz.func116, Tryz.ntmps116
  go_wp2_with (first | (go_at_call 119; refine H.out.mono ?_; rintro e w' ⟨rfl, rfl⟩) | (go_at_call 118; refine (H2.out _).mono ?_; rintro e w' ⟨rfl, rfl⟩))
  exact bodyPost_ret (v := .tuple #[.int .i64 r, .bool true]) (by simp [results, Tryz.results116, go_sem]) rfl ⟨rfl, rfl⟩

theorem count_nil (w : World) :
    Calls Tryz.prog 97 #[.pointer none] w fun e w' => e = .returned (.int .i64 0) ∧ w = w' := by
  go_enter Tryz.func97, Tryz.ntmps97
  go_wp2_with fail
  go_ret
  exact ⟨rfl, rfl⟩
theorem count_any (a : Nat) (c : Int) (b : Nat) (w : World) (h : DiceAt a c b w) :
    Calls Tryz.prog 97 #[.pointer (some ⟨b, 0, none⟩)] w fun e w' => e = .returned (.int .i64 c) ∧ w = w' := by
  have c1 : w.cell? ⟨b, 1, none⟩ = some (.int .i64 c) := by rw [Lib.cell_of_heap h]; rfl
  clear h
  go_enter Tryz.func97, Tryz.ntmps97
  go_wp2_with fail
  go_ret
  exact ⟨rfl, rfl⟩

end Go.Proofs.YthkfaeplmmlnlaaGreat
namespace Go.Proofs.YthkfaeplmmlnlaaGreat
open Go.RowKit
set_option linter.unusedVariables false
set_option maxRecDepth 100000

/-- the machine's cells -/
def vmC (g : Nat → Int) (vw : Value) (bd : Nat) (lps : Int) (vs : Value) (pc n f : Int) : Array Value :=
  #[.int .i64 (g 0), .int .i64 (g 1), .int .i64 (g 2), .int .i64 (g 3), .int .i64 (g 4), .int .i64 (g 5), .int .i64 (g 6), .int .i64 (g 7), vw, .pointer (some ⟨bd, 0, none⟩), .int .i64 lps, vs, .int .i64 pc, .int .i64 n, .int .i64 f]
theorem vmC_at (g : Nat → Int) (vw : Value) (bd : Nat) (lps : Int) (vs : Value) (pc n f : Int) {i : Nat} (hi : i < 8) : (vmC g vw bd lps vs pc n f)[i]? = some (.int .i64 (g i)) := by
  have : i = 0 ∨ i = 1 ∨ i = 2 ∨ i = 3 ∨ i = 4 ∨ i = 5 ∨ i = 6 ∨ i = 7 := by omega
  rcases this with rfl | rfl | rfl | rfl | rfl | rfl | rfl | rfl <;> rfl
theorem vmC_set (g : Nat → Int) (vw : Value) (bd : Nat) (lps : Int) (vs : Value) (pc n f : Int) {i : Nat} (hi : i < 8) (v : Int) : (vmC g vw bd lps vs pc n f).setIfInBounds i (.int .i64 v) = vmC (upd g i v) vw bd lps vs pc n f := by
  have : i = 0 ∨ i = 1 ∨ i = 2 ∨ i = 3 ∨ i = 4 ∨ i = 5 ∨ i = 6 ∨ i = 7 := by omega
  rcases this with rfl | rfl | rfl | rfl | rfl | rfl | rfl | rfl <;> rfl

/-- the machine lies in block P, its dice in block bd -/
structure VmAt (base P bd a : Nat) (lps : Int) (vw vs : Value) (r : Mch) (u : World) : Prop where
  lo : base ≤ P
  lo2 : base ≤ bd
  box : u.heap[P]? = some (.cells (vmC r.g vw bd lps vs (r.pc : Int) (r.n : Int) r.f) 155 (0, 0))
  dice : u.heap[bd]? = some (.cells #[.int .u64 a, .int .i64 r.dice] 164 (0, 0))
  w : u.ownsRow base 3 1 vw r.nw (rowCells 1 (gW r.w) r.nw)
  s : u.ownsRow base 97 3 vs r.ns (rowCells 3 (gS r.sn) r.ns)
section
variable {base P bd a : Nat} {lps : Int} {vw vs : Value} {r : Mch} {u : World}
theorem VmAt.ne (h : VmAt base P bd a lps vw vs r u) : P ≠ bd := by
  rintro rfl
  have := h.box.symm.trans h.dice
  simp only [Option.some.injEq, Obj.cells.injEq] at this
  exact absurd this.2.1 (by decide)
theorem VmAt.below (h : VmAt base P bd a lps vw vs r u) {u2 : World} (k : Below u.heap.size u u2) : VmAt base P bd a lps vw vs r u2 :=
  ⟨h.lo, h.lo2, (k.block _ (lt_of_block h.box)).trans h.box, (k.block _ (lt_of_block h.dice)).trans h.dice, own_below h.w k, own_below h.s k⟩
theorem VmAt.drew (h : VmAt base P bd a lps vw vs r u) : VmAt base P bd a lps vw vs r u.drew := h.below (bdrew u)
theorem VmAt.drewN (h : VmAt base P bd a lps vw vs r u) (n : Nat) : VmAt base P bd a lps vw vs r (u.drewN n) := h.below (below_drewN (Below.refl _ _) n)
theorem VmAt.reg (h : VmAt base P bd a lps vw vs r u) {i : Nat} (hi : i < 8) : u.cell? ⟨P, i, none⟩ = some (.int .i64 (r.g i)) := by
  rw [Lib.cell_of_heap h.box]; exact vmC_at r.g vw bd lps vs _ _ _ hi
theorem VmAt.fz (h : VmAt base P bd a lps vw vs r u) (i : Nat) : u.frozen? ⟨P, i, none⟩ = false := Lib.frozen_of_heap h.box i
theorem VmAt.cells (h : VmAt base P bd a lps vw vs r u) : u.cell? ⟨P, 8, none⟩ = some vw ∧ u.cell? ⟨P, 9, none⟩ = some (.pointer (some ⟨bd, 0, none⟩)) ∧ u.cell? ⟨P, 10, none⟩ = some (.int .i64 lps) ∧ u.cell? ⟨P, 11, none⟩ = some vs ∧ u.cell? ⟨P, 12, none⟩ = some (.int .i64 (r.pc : Int)) ∧ u.cell? ⟨P, 13, none⟩ = some (.int .i64 (r.n : Int)) ∧ u.cell? ⟨P, 14, none⟩ = some (.int .i64 r.f) ∧ ∀ q, u.frozen? ⟨P, q, none⟩ = false := by
  refine ⟨?_, ?_, ?_, ?_, ?_, ?_, ?_, fun q => Lib.frozen_of_heap h.box q⟩ <;> (rw [Lib.cell_of_heap h.box]; rfl)
theorem VmAt.form (h : VmAt base P bd a lps vw vs r u) : ∃ a c, vw = .slice a r.nw c := by
  rcases h.w.2 with ⟨rfl, h0⟩ | ⟨b, cap, cur, rfl, _⟩
  · exact ⟨none, 0, by rw [h0]⟩
  · exact ⟨_, _, rfl⟩
theorem VmAt.form2 (h : VmAt base P bd a lps vw vs r u) : ∃ a c, vs = .slice a r.ns c := by
  rcases h.s.2 with ⟨rfl, h0⟩ | ⟨b, cap, cur, rfl, _⟩
  · exact ⟨none, 0, by rw [h0]⟩
  · exact ⟨_, _, rfl⟩
/-- a store into the machine's block -/
theorem VmAt.putP (h : VmAt base P bd a lps vw vs r u) {o : Nat} {v : Value} {vs2 : Value} {r2 : Mch} (hn : r2.nw = r.nw) (hw : r2.w = r.w) (hd : r2.dice = r.dice)
    (hb : (vmC r.g vw bd lps vs (r.pc : Int) (r.n : Int) r.f).setIfInBounds o v = vmC r2.g vw bd lps vs2 (r2.pc : Int) (r2.n : Int) r2.f)
    (hs : u.ownsRow base 97 3 vs2 r2.ns (rowCells 3 (gS r2.sn) r2.ns)) : VmAt base P bd a lps vw vs2 r2 (u.setCell ⟨P, o, none⟩ v) := by
  have hne := h.ne
  refine ⟨h.lo, h.lo2, ?_, ?_, ?_, own_setCell hs (own_not hs h.box (by decide))⟩
  · have := Joins.block_setCell (i := o) h.box v
    rw [hb] at this
    exact this
  · rw [hd]; exact (Below.heap_setCell u ⟨P, o, none⟩ _ _ (by show bd ≠ P; omega)).trans h.dice
  · rw [hn, hw]; exact own_setCell h.w (own_not h.w h.box (by decide))
theorem VmAt.setReg (h : VmAt base P bd a lps vw vs r u) {i : Nat} (hi : i < 8) (v : Int) : VmAt base P bd a lps vw vs { r with g := upd r.g i v } (u.setCell ⟨P, i, none⟩ (.int .i64 v)) := h.putP rfl rfl rfl (vmC_set _ _ _ _ _ _ _ _ hi v) h.s
theorem VmAt.setPc (h : VmAt base P bd a lps vw vs r u) (p : Nat) : VmAt base P bd a lps vw vs { r with pc := p } (u.setCell ⟨P, 12, none⟩ (.int .i64 (p : Int))) := h.putP rfl rfl rfl rfl h.s
theorem VmAt.setN (h : VmAt base P bd a lps vw vs r u) (p : Nat) : VmAt base P bd a lps vw vs { r with n := p } (u.setCell ⟨P, 13, none⟩ (.int .i64 (p : Int))) := h.putP rfl rfl rfl rfl h.s
theorem VmAt.setF (h : VmAt base P bd a lps vw vs r u) (d : Int) : VmAt base P bd a lps vw vs { r with f := d } (u.setCell ⟨P, 14, none⟩ (.int .i64 d)) := h.putP rfl rfl rfl rfl h.s
theorem VmAt.setDice (h : VmAt base P bd a lps vw vs r u) (d : Int) : VmAt base P bd a lps vw vs { r with dice := d } (u.setCell ⟨bd, 1, none⟩ (.int .i64 d)) := by
  have hne := h.ne
  refine ⟨h.lo, h.lo2, (Below.heap_setCell u ⟨bd, 1, none⟩ _ _ hne).trans h.box, ?_, own_setCell h.w (own_not h.w h.dice (by decide)), own_setCell h.s (own_not h.s h.dice (by decide))⟩
  exact Joins.block_setCell (i := 1) h.dice _
/-- the words' row: where there are any -/
theorem VmAt.words (h : VmAt base P bd a lps vw vs r u) {k : Nat} (hk : k < r.nw) : ∃ bw cap, vw = .slice (some ⟨bw, 0, none⟩) r.nw cap ∧ bw ≠ P ∧ base ≤ bw ∧ r.nw ≤ cap ∧ cap ≤ maxLen ∧ u.cell? ⟨bw, k, none⟩ = some (.int .i64 (r.w k)) ∧ (∀ q, u.frozen? ⟨bw, q, none⟩ = false) ∧
    ∀ v, VmAt base P bd a lps vw vs { r with w := upd r.w k v } (u.setCell ⟨bw, k, none⟩ (.int .i64 v)) := by
  have hw := h.w
  have hwP := own_not h.w h.box (by decide)
  have hwD := own_not h.w h.dice (by decide)
  rcases hw.2 with ⟨rfl, h0⟩ | ⟨bw, cap, cur, rfl, l1, l2, l3, l4, l5, l6⟩
  · omega
  have n2 : bw ≠ P := by rintro rfl; exact hwP rfl
  have n3 : bw ≠ bd := by rintro rfl; exact hwD rfl
  have at_ : ∀ j, j < r.nw → cur[j]? = some (.int .i64 (r.w j)) := fun j hj => by
    have e := rowCells_at (gW r.w) (C := 1) (n := r.nw) (i := j) (j := 0) hj (by omega)
    rw [← l6, List.getElem?_take, if_pos (by omega)] at e
    rw [← Array.getElem?_toList]
    simpa [gW] using e
  refine ⟨bw, cap, rfl, n2, l1, l3, l4, ?_, fun q => Lib.frozen_of_heap l2 q, fun v => ?_⟩
  · rw [Lib.cell_of_heap l2]; exact at_ k hk
  refine ⟨h.lo, h.lo2, (Below.heap_setCell u ⟨bw, k, none⟩ _ _ (by show P ≠ bw; omega)).trans h.box, (Below.heap_setCell u ⟨bw, k, none⟩ _ _ (by show bd ≠ bw; omega)).trans h.dice, ?_, own_setCell h.s (own_not h.s l2 (by decide))⟩
  have hh := Joins.block_setCell (i := k) l2 (.int .i64 v)
  refine ⟨by rw [rowCells_len], .inr ⟨bw, cap, _, rfl, l1, hh, l3, l4, by simpa using l5, ?_⟩⟩
  apply List.ext_getElem?
  intro j
  rw [List.getElem?_take]
  by_cases hj : j < r.nw * 1
  · rw [if_pos hj]
    have e := rowCells_at (gW (upd r.w k v)) (C := 1) (n := r.nw) (i := j) (j := 0) (by omega) (by omega)
    rw [show j * 1 + 0 = j by omega] at e
    rw [show rowCells 1 (gW ({ r with w := upd r.w k v } : Mch).w) ({ r with w := upd r.w k v } : Mch).nw = rowCells 1 (gW (upd r.w k v)) r.nw from rfl, e, Array.getElem?_toList, Array.getElem?_setIfInBounds]
    have hsz : j < cur.size := by rw [l5]; omega
    by_cases e2 : k = j
    · subst e2
      simp [upd, gW, hsz]
    · rw [if_neg e2, at_ j (by omega)]
      simp [upd, gW, show ¬ j = k by omega]
  · rw [if_neg hj, List.getElem?_eq_none (by rw [rowCells_len]; show _ ≤ _; exact Nat.le_of_not_lt hj)]
/-- one was sent -/
theorem VmAt.sent (h : VmAt base P bd a lps vw vs r u) (x : Snt) {w4 : World} {v' : Value}
    (hown : w4.ownsRow base 97 3 v' (r.ns + 1) (rowCells 3 (gS r.sn) r.ns ++ [.int .i64 x.dst, .int .i64 x.dl, .int .i64 x.pay])) (hg : u.grownBy w4 vs.ownBlock) :
    w4.heap[P]? = some (.cells (vmC r.g vw bd lps vs (r.pc : Int) (r.n : Int) r.f) 155 (0, 0)) ∧
    VmAt base P bd a lps vw v' { r with ns := r.ns + 1, sn := fun i => if i = r.ns then x else r.sn i } (w4.setCell ⟨P, 11, none⟩ v') := by
  have e1 : rowCells 3 (gS r.sn) r.ns = rowCells 3 (gS fun i => if i = r.ns then x else r.sn i) r.ns := by
    unfold rowCells
    refine List.map_congr_left fun k hk => ?_
    rw [List.mem_range] at hk
    have : k / 3 ≠ r.ns := by have := (Nat.div_lt_iff_lt_mul (show 0 < 3 by omega)).2 hk; omega
    simp only [gS, if_neg this]
  rw [e1, rowCells_succ (C := 3) (by omega) (gS fun i => if i = r.ns then x else r.sn i) r.ns [.int .i64 x.dst, .int .i64 x.dl, .int .i64 x.pay] rfl (fun j hj => by
    have : j = 0 ∨ j = 1 ∨ j = 2 := by omega
    rcases this with rfl | rfl | rfl <;> simp [gS])] at hown
  have hp := grown_keep7 h.s hg h.box (by decide)
  have hb := grown_keep7 h.s hg h.dice (by decide)
  have hne := h.ne
  refine ⟨hp, h.lo, h.lo2, ?_, (Below.heap_setCell w4 ⟨P, 11, none⟩ _ _ (by show bd ≠ P; omega)).trans hb, own_setCell (grown_own h.s hg h.w (by decide)) (own_not h.w h.box (by decide)), own_setCell hown (own_not hown hp (by decide))⟩
  exact Joins.block_setCell (i := 11) hp v'
end

end Go.Proofs.YthkfaeplmmlnlaaGreat
