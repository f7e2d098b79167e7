/- Step as it goes on, and Run. The contract of the program's Run. The contract of the laws' ticker, and what it comes to. -/
import Derived.Maps.AppendAt
import Derived.Test.YthkfaeplmmlnlaaGreatRPlStep
namespace Go.Proofs.YthkfaeplmmlnlaaGreat
open Go.RowKit Go.Deep Go.Maps
set_option linter.unusedVariables false
set_option maxRecDepth 100000

set_option maxHeartbeats 1600000 in
theorem pstep_none (S : Nat → Bool) (P bm bc bs : Nat) (m : Mdl) (vd vp vl vi vS : Value) (x : Sm) (nx nd : Nat) (u : World) (h : PSim S P bm bc bs m vd vp vl vi vS x nx nd u) (hw : x.W = []) :
    Calls Tryz.prog 10 #[.pointer (some ⟨P, 0, none⟩)] u fun z u' => z = .returned (.tuple #[.agg #[.float .f64 0, .int .i64 0, .int .i64 0, .int .i64 0, .int .i64 0, .int .i64 0], .bool false]) ∧ Below u.heap.size u u' := by
  have hsf := store_float
  have X0 := Lib.hid (heap_alloc_new u (.cells #[.float .f64 0, .int .i64 0, .int .i64 0, .int .i64 0, .int .i64 0, .int .i64 0] 43))
  have B0 := Lib.hid (balloc u (.cells #[.float .f64 0, .int .i64 0, .int .i64 0, .int .i64 0, .int .i64 0, .int .i64 0] 43))
  have HW : Hid (Calls Tryz.prog 13 #[.pointer (some ⟨P, 0, none⟩)] (u.alloc (.cells #[.float .f64 0, .int .i64 0, .int .i64 0, .int .i64 0, .int .i64 0, .int .i64 0] 43)) fun z w' => z = .returned (.int .i64 0) ∧ w' = (u.alloc (.cells #[.float .f64 0, .int .i64 0, .int .i64 0, .int .i64 0, .int .i64 0, .int .i64 0] 43))) := by
    have h9 := pwaiting_any S P bm bc bs m vd vp vl vi _ x nx nd _ (h.below B0.out)
    rw [hw] at h9
    exact h9
  clear h hw
  go_enter Tryz.func10, Tryz.ntmps10
  go_upto_region 1 with fail
  generalize u.alloc (.cells #[.float .f64 0, .int .i64 0, .int .i64 0, .int .i64 0, .int .i64 0, .int .i64 0] 43) = u1 at *
  have zf : ∀ q9, u1.frozen? ⟨u.heap.size, q9, none⟩ = false := fun q9 => Lib.frozen_of_heap X0.out q9
  obtain ⟨z0, z1, z2, z3, z4, z5⟩ := six_cells7 X0.out
  have X9 := Lib.hid (put_six8 X0.out (.float .f64 0) (.int .i64 0) (.int .i64 0) (.int .i64 0) (.int .i64 0) (.int .i64 0))
  have L9 := Lib.hid (B0.out.trans (put_low7 (base := u.heap.size) (Nat.le_refl _) [.float .f64 0, .int .i64 0, .int .i64 0, .int .i64 0, .int .i64 0, .int .i64 0] 0 u1))
  go_upto_region 2 with (go_at_call 13; refine HW.out.mono ?_; rintro z w9 ⟨rfl, hw9⟩; rw [hw9]; clear hw9 w9)
  go_wp2_with fail
  change bodyPost _ _ _ _ _ (World.setCells u1 u.heap.size 0 [.float .f64 0, .int .i64 0, .int .i64 0, .int .i64 0, .int .i64 0, .int .i64 0])
  clear z0 z1 z2 z3 z4 z5 zf
  generalize World.setCells u1 u.heap.size 0 [.float .f64 0, .int .i64 0, .int .i64 0, .int .i64 0, .int .i64 0, .int .i64 0] = u9 at *
  obtain ⟨z0, z1, z2, z3, z4, z5⟩ := six_cells7 X9.out
  exact bodyPost_ret (v := .tuple #[.agg #[.float .f64 0, .int .i64 0, .int .i64 0, .int .i64 0, .int .i64 0, .int .i64 0], .bool false]) (by simp [results, Tryz.results10, go_sem, z0, z1, z2, z3, z4, z5]) rfl ⟨rfl, L9.out⟩

set_option maxHeartbeats 1600000 in
theorem pstep_nil (u : World) :
    Calls Tryz.prog 10 #[.pointer none] u fun z u' => z = .returned (.tuple #[.agg #[.float .f64 0, .int .i64 0, .int .i64 0, .int .i64 0, .int .i64 0, .int .i64 0], .bool false]) ∧ Below u.heap.size u u' := by
  have hsf := store_float
  have X0 := Lib.hid (heap_alloc_new u (.cells #[.float .f64 0, .int .i64 0, .int .i64 0, .int .i64 0, .int .i64 0, .int .i64 0] 43))
  have B0 := Lib.hid (balloc u (.cells #[.float .f64 0, .int .i64 0, .int .i64 0, .int .i64 0, .int .i64 0, .int .i64 0] 43))
  go_enter Tryz.func10, Tryz.ntmps10
  go_upto_region 1 with fail
  generalize u.alloc (.cells #[.float .f64 0, .int .i64 0, .int .i64 0, .int .i64 0, .int .i64 0, .int .i64 0] 43) = u1 at *
  have zf : ∀ q9, u1.frozen? ⟨u.heap.size, q9, none⟩ = false := fun q9 => Lib.frozen_of_heap X0.out q9
  obtain ⟨z0, z1, z2, z3, z4, z5⟩ := six_cells7 X0.out
  have X9 := Lib.hid (put_six8 X0.out (.float .f64 0) (.int .i64 0) (.int .i64 0) (.int .i64 0) (.int .i64 0) (.int .i64 0))
  have L9 := Lib.hid (B0.out.trans (put_low7 (base := u.heap.size) (Nat.le_refl _) [.float .f64 0, .int .i64 0, .int .i64 0, .int .i64 0, .int .i64 0, .int .i64 0] 0 u1))
  go_upto_region 2 with (go_at_call 13; refine (pwaiting_nil _).mono ?_; rintro z w9 ⟨rfl, hw9⟩; rw [hw9]; clear hw9 w9)
  go_wp2_with fail
  change bodyPost _ _ _ _ _ (World.setCells u1 u.heap.size 0 [.float .f64 0, .int .i64 0, .int .i64 0, .int .i64 0, .int .i64 0, .int .i64 0])
  clear z0 z1 z2 z3 z4 z5 zf
  generalize World.setCells u1 u.heap.size 0 [.float .f64 0, .int .i64 0, .int .i64 0, .int .i64 0, .int .i64 0, .int .i64 0] = u9 at *
  obtain ⟨z0, z1, z2, z3, z4, z5⟩ := six_cells7 X9.out
  exact bodyPost_ret (v := .tuple #[.agg #[.float .f64 0, .int .i64 0, .int .i64 0, .int .i64 0, .int .i64 0, .int .i64 0], .bool false]) (by simp [results, Tryz.results10, go_sem, z0, z1, z2, z3, z4, z5]) rfl ⟨rfl, L9.out⟩

/-- the event that is handled next, and its fault -/
def dnP (m : Mdl) (x : Sm) : Dn := match x.W with
  | [] => ⟨zE, 0⟩
  | e :: _ => ⟨e, (hanP m x e).f⟩
def dnV (q : Dn) : Value := .agg #[.float .f64 (q).e.t, .int .i64 (q).e.src, .int .i64 (q).e.n, .int .i64 (q).e.dst, .int .i64 (q).e.pay, .int .i64 (q).f]
/-- what holds of a simulation behind k steps, in the program's memory -/
structure PAt (S : Nat → Bool) (P bm bc bs : Nat) (m : Mdl) (vd vp vl vi vS : Value) (x : Sm) (k nd : Nat) (u : World) : Prop where
  inv : InvP m k x
  sim : ∃ nx, nx ≤ 16 + 4 * k ∧ PSim S P bm bc bs m vd vp vl vi vS x nx nd u
  lo : ∀ q, S q = true → q < u.heap.size
theorem PAt.below {S : Nat → Bool} {P bm bc bs : Nat} {m : Mdl} {vd vp vl vi vS : Value} {x : Sm} {k nd : Nat} {u u2 : World} (h : PAt S P bm bc bs m vd vp vl vi vS x k nd u) (b : Below u.heap.size u u2) : PAt S P bm bc bs m vd vp vl vi vS x k nd u2 := by
  obtain ⟨i, ⟨nx, hx, s⟩, l⟩ := h
  exact ⟨i, ⟨nx, hx, s.below b⟩, fun q hq => Nat.lt_of_lt_of_le (l q hq) b.size⟩
/-- while a hidden block is written, and others come to be hidden -/
theorem PSim.grow {S S2 : Nat → Bool} {P bm bc bs : Nat} {m : Mdl} {vd vp vl vi vS : Value} {x : Sm} {nx nd : Nat} {u u2 : World} {row : Option Nat} (h : PSim S P bm bc bs m vd vp vl vi vS x nx nd u) (g : u.grownBy u2 row) (hr : ∀ b, row = some b → S b = true ∧ b ≠ P ∧ b ≠ bm ∧ b ≠ bs) (e : ∀ k, k < u.heap.size → S2 k = S k) : PSim S2 P bm bc bs m vd vp vl vi vS x nx nd u2 := by
  obtain ⟨l1, l2, l3, l4⟩ := h.lt
  have k2 : Below (HdS S u).heap.size (HdS S u) (HdS S2 u2) := by
    rw [HdS.size]
    refine ⟨g.os, g.tape, g.output, by rw [HdS.size, HdS.size]; exact g.size, fun k hk => ?_⟩
    have hk2 : k < u2.heap.size := Nat.lt_of_lt_of_le hk g.size
    by_cases c : some k = row
    · have hs := (hr k c.symm).1
      rw [HdS.block, HdS.block, e k hk, hs, Array.getElem?_eq_getElem hk, Array.getElem?_eq_getElem hk2]; rfl
    · rw [HdS.block, HdS.block, e k hk, g.block k hk c]
  have ne : ∀ k, (k = P ∨ k = bm ∨ k = bs) → some k ≠ row := fun k hk c => by have := hr k c.symm; omega
  have nc : some bc ≠ row := fun c => by have := (hr bc c.symm).1; rw [h.hc] at this; cases this
  obtain ⟨g3, r, hw⟩ := h.st
  exact ⟨(g.block _ l1 (ne _ (.inl rfl))).trans h.box, (g.block _ l4 nc).trans h.cap, (e _ l1).trans h.hP, (e _ l2).trans h.hm, (e _ l3).trans h.hs, (e _ l4).trans h.hc, h.mdl.below k2, ⟨g3, r.kept (g.block _ l3 (ne _ (.inr (.inr rfl)))), fun i hi => (hw i hi).below k2⟩, h.mp.kept (g.block _ l2 (ne _ (.inr (.inl rfl))))⟩
theorem PAt.grow {S S2 : Nat → Bool} {P bm bc bs : Nat} {m : Mdl} {vd vp vl vi vS : Value} {x : Sm} {k nd : Nat} {u u2 : World} {row : Option Nat} (h : PAt S P bm bc bs m vd vp vl vi vS x k nd u) (g : u.grownBy u2 row) (hr : ∀ b, row = some b → S b = true ∧ b ≠ P ∧ b ≠ bm ∧ b ≠ bs) (e : ∀ k, k < u.heap.size → S2 k = S k) (hl : ∀ q, S2 q = true → q < u2.heap.size) : PAt S2 P bm bc bs m vd vp vl vi vS x k nd u2 := by
  obtain ⟨i, ⟨nx, hx, s⟩, l⟩ := h
  exact ⟨i, ⟨nx, hx, s.grow g hr e⟩, hl⟩
theorem PAt.unhide {S S1 : Nat → Bool} {P bm bc bs : Nat} {m : Mdl} {vd vp vl vi vS : Value} {x : Sm} {k nd : Nat} {u : World} (h : PAt S1 P bm bc bs m vd vp vl vi vS x k nd u) (hs : ∀ k, S k = true → S1 k = true) (h1 : S P = true) (h2 : S bm = true) (h3 : S bs = true) (h4 : S bc = false) : PAt S P bm bc bs m vd vp vl vi vS x k nd u := by
  obtain ⟨i, ⟨nx, hx, s⟩, l⟩ := h
  exact ⟨i, ⟨nx, hx, pSim_unhide s hs h1 h2 h3 h4⟩, fun q hq => l q (hs q hq)⟩
theorem PAt.lt {S : Nat → Bool} {P bm bc bs : Nat} {m : Mdl} {vd vp vl vi vS : Value} {x : Sm} {k nd : Nat} {u : World} (h : PAt S P bm bc bs m vd vp vl vi vS x k nd u) : (P < u.heap.size ∧ bm < u.heap.size ∧ bs < u.heap.size ∧ bc < u.heap.size) ∧ S P = true ∧ S bm = true ∧ S bs = true ∧ S bc = false := by
  obtain ⟨i, ⟨nx, hx, s⟩, l⟩ := h
  exact ⟨s.lt, s.hP, s.hm, s.hs, s.hc⟩
theorem PAt.wait {S : Nat → Bool} {P bm bc bs : Nat} {m : Mdl} {vd vp vl vi vS : Value} {x : Sm} {k nd : Nat} {u : World} (h : PAt S P bm bc bs m vd vp vl vi vS x k nd u) :
    Calls Tryz.prog 13 #[.pointer (some ⟨P, 0, none⟩)] u fun r u' => r = .returned (.int .i64 (x.W.length : Int)) ∧ u' = u := by
  obtain ⟨i, ⟨nx, hx, s⟩, l⟩ := h
  exact pwaiting_any S P bm bc bs m vd vp vl vi vS x nx nd u s
theorem PAt.handled {S : Nat → Bool} {P bm bc bs : Nat} {m : Mdl} {vd vp vl vi vS : Value} {x : Sm} {k nd : Nat} {u : World} (h : PAt S P bm bc bs m vd vp vl vi vS x k nd u) :
    Calls Tryz.prog 14 #[.pointer (some ⟨P, 0, none⟩)] u fun r u' => r = .returned (.int .i64 (nd : Int)) ∧ u' = u := by
  obtain ⟨i, ⟨nx, hx, s⟩, l⟩ := h
  exact phandled_any S P bm bc bs m vd vp vl vi vS x nx nd u s
theorem PAt.state {S : Nat → Bool} {P bm bc bs : Nat} {m : Mdl} {vd vp vl vi vS : Value} {x : Sm} {k nd : Nat} {u : World} (h : PAt S P bm bc bs m vd vp vl vi vS x k nd u) (L : Nat) (hl : L < m.nl) :
    Calls Tryz.prog 16 #[.pointer (some ⟨P, 0, none⟩), .int .i64 (L : Int)] u fun r u' => ∃ v, r = .returned v ∧ StaAt u.heap.size (x.S L) v u' ∧ Below u.heap.size u u' := by
  obtain ⟨i, ⟨nx, hx, s⟩, l⟩ := h
  exact pstate_in S P bm bc bs m vd vp vl vi vS x nx nd L u s hl (by have := (i.st L hl).nw; omega)
/-- a step, where an event waits -/
theorem PAt.step {S : Nat → Bool} {P bm bc bs : Nat} {m : Mdl} {vd vp vl vi vS : Value} {x : Sm} {k nd : Nat} {u : World} (h : PAt S P bm bc bs m vd vp vl vi vS x k nd u) (hc : chkN m = 0) (hr : MdlR m) (hk : k ≤ 20000) (hnd : nd ≤ 1000000) (hw : x.W ≠ []) :
    Calls Tryz.prog 10 #[.pointer (some ⟨P, 0, none⟩)] u fun z u' => z = .returned (.tuple #[dnV (dnP m x), .bool true]) ∧ PAt S P bm bc bs m vd vp vl vi vS (stepP m x) (k + 1) (nd + 1) u' ∧ KpS (T3 P bm bs) u u' := by
  obtain ⟨i, ⟨nx, hx, s⟩, l⟩ := h
  cases hW : x.W with
  | nil => exact absurd hW hw
  | cons e r =>
    have he : e ∈ x.W := by rw [hW]; exact List.mem_cons_self
    have ge := i.ev e he
    have ho := han_ok hc hr (by omega) i he
    obtain ⟨et, es, en, ed, ep⟩ := e
    obtain ⟨d, rfl⟩ : ∃ d : Nat, ed = (d : Int) := ⟨ed.toNat, by have := ge.dst; simp only at this; omega⟩
    have hd : d < m.nl := by have := ge.dst; simp only at this; omega
    have gs := i.st d hd
    have hh : hanP m x ⟨et, es, en, (d : Int), ep⟩ = handH m (d : Int) (x.S d) ⟨et, es, en, (d : Int), ep⟩ := rfl
    have hB : Bd (beginM (inpOf m (d : Int) (x.S d) ⟨et, es, en, (d : Int), ep⟩)) := by
      have hnl := (chk_nl hc).2.1
      exact bd_begin ge.pay (show r64v (d : Int) by unfold r64v; omega) (show r64v (m.nl : Int) by unfold r64v; omega) (show (x.S d).nw ≤ _ by have := gs.nw; omega) gs.w
    have dn : dnP m x = ⟨⟨et, es, en, (d : Int), ep⟩, (hanP m x ⟨et, es, en, (d : Int), ep⟩).f⟩ := by unfold dnP; rw [hW]
    refine (pstep_some S P bm bc bs m vd vp vl vi vS x nx nd et es en d ep r (hanP m x ⟨et, es, en, (d : Int), ep⟩) u s l hW i.so i.un (by omega) hnd hc hr.b hd hB hh ho.n4).mono ?_
    rintro z u' ⟨rfl, h1, h2⟩
    refine ⟨by rw [dn]; rfl, ⟨inv_step hc hr (by omega) i, ⟨nx + (hanP m x ⟨et, es, en, (d : Int), ep⟩).l.n, by have := ho.n4; omega, ?_⟩, fun q hq => Nat.lt_of_lt_of_le (l q hq) h2.size⟩, h2⟩
    rw [stepP_some hW]
    exact h1
theorem PAt.stop {S : Nat → Bool} {P bm bc bs : Nat} {m : Mdl} {vd vp vl vi vS : Value} {x : Sm} {k nd : Nat} {u : World} (h : PAt S P bm bc bs m vd vp vl vi vS x k nd u) (hw : x.W = []) :
    Calls Tryz.prog 10 #[.pointer (some ⟨P, 0, none⟩)] u fun z u' => z = .returned (.tuple #[.agg #[.float .f64 0, .int .i64 0, .int .i64 0, .int .i64 0, .int .i64 0, .int .i64 0], .bool false]) ∧ Below u.heap.size u u' := by
  obtain ⟨i, ⟨nx, hx, s⟩, l⟩ := h
  exact pstep_none S P bm bc bs m vd vp vl vi vS x nx nd u s hw

end Go.Proofs.YthkfaeplmmlnlaaGreat
namespace Go.Proofs.YthkfaeplmmlnlaaGreat
open Go.RowKit Go.Deep Go.Maps
set_option linter.unusedVariables false
set_option maxRecDepth 100000

theorem info_done9 : (Tryz.prog.info? 43).map (fun i => (i.zero, i.size, i.bytes)) = some (some (.agg #[.float .f64 0, .int .i64 0, .int .i64 0, .int .i64 0, .int .i64 0, .int .i64 0]), 6, 48) := by kernel_rfl
/-- what is handled by each step -/
def dnF (m : Mdl) (x : Sm) (i : Nat) : Dn := dnP m (stepsP m i x)
theorem push_done (m : Mdl) (x : Sm) (j : Nat) : rowCells 6 (gD (dnF m x)) j ++ [.float .f64 (dnF m x j).e.t, .int .i64 (dnF m x j).e.src, .int .i64 (dnF m x j).e.n, .int .i64 (dnF m x j).e.dst, .int .i64 (dnF m x j).e.pay, .int .i64 (dnF m x j).f] = rowCells 6 (gD (dnF m x)) (j + 1) :=
  rowCells_succ (C := 6) (by omega) (gD (dnF m x)) j _ rfl (fun q hq => by
    have : q = 0 ∨ q = 1 ∨ q = 2 ∨ q = 3 ∨ q = 4 ∨ q = 5 := by omega
    rcases this with rfl | rfl | rfl | rfl | rfl | rfl <;> simp [gD])

set_option maxHeartbeats 3200000 in
theorem prun_any (S : Nat → Bool) (P bm bc bs : Nat) (m : Mdl) (vd vp vl vi vS : Value) (x : Sm) (k nd : Nat) (n : Int) (u : World) (h : PAt S P bm bc bs m vd vp vl vi vS x k nd u) (hc : chkN m = 0) (hr : MdlR m) (hk : k + n.toNat ≤ 20000) (hnd : nd + n.toNat ≤ 1000000) :
    Calls Tryz.prog 19 #[.pointer (some ⟨P, 0, none⟩), .int .i64 n] u fun z u' => ∃ v j, z = .returned v ∧ j ≤ n.toNat ∧ (∀ i, i < j → (stepsP m i x).W ≠ []) ∧ (j < n.toNat → (stepsP m j x).W = []) ∧ u'.ownsRow u.heap.size 43 6 (v) (j) (rowCells 6 (gD (dnF m x)) (j)) ∧ PAt S P bm bc bs m vd vp vl vi vS (stepsP m j x) (k + j) (nd + j) u' ∧ KpS (T3 P bm bs) u u' := by
  obtain ⟨i0, hi0, hz0, hz1, hz2⟩ := info_parts info_done9
  have hsf := store_float
  have R0 := Lib.hid h
  have LT := Lib.hid h.lt
  have HR := Lib.hid hr
  have HK := Lib.hid hk
  have HD := Lib.hid hnd
  have HN : Hid (∀ j : Nat, (j : Int) < n ↔ j < n.toNat) := fun j => by omega
  clear h hr hk hnd
  go_enter Tryz.func19, Tryz.ntmps19
  go_wp2_with fail
  go_loopw [5, 9] (fun v i wr => ∃ (j : Nat) (a : Option Addr) (c : Nat) (S2 : Nat → Bool), j ≤ n.toNat ∧ i = .int .i64 j ∧ v = .slice a j c ∧ (∀ i, i < j → (stepsP m i x).W ≠ []) ∧ wr.ownsRow u.heap.size 43 6 (.slice a j c) (j) (rowCells 6 (gD (dnF m x)) (j)) ∧ PAt S2 P bm bc bs m vd vp vl vi vS (stepsP m j x) (k + j) (nd + j) wr ∧ KpS (T3 P bm bs) u wr ∧ (∀ q, S q = true → S2 q = true) ∧ S2 bc = false ∧ ∀ g, (Value.slice a j c).ownBlock = some g → S2 g = true) (fun _ i _ => n.toNat - (intOf i).toNat)
  case atStart => exact ⟨0, none, 0, S, Nat.zero_le _, rfl, rfl, fun i hi => absurd hi (Nat.not_lt_zero i), by rw [rowCells_zero]; exact World.ownsRow_nil _ _ _ _, R0.out, KpS.refl _ u, fun q hq => hq, LT.out.2.2.2.2, fun g hg => by simp [Value.ownBlock] at hg⟩
  case round =>
    obtain ⟨j, a, c, S2, hj, rfl, rfl, hne, ho, hp, hkp, hs1, hs2, hs3⟩ := hrel
    have NE := Lib.hid hne
    have OR := Lib.hid ho
    have PR := Lib.hid hp
    have KR := Lib.hid hkp
    have HS1 := Lib.hid hs1
    have HS2 := Lib.hid hs2
    have HS3 := Lib.hid hs3
    clear hne ho hp hkp hs1 hs2 hs3
    have hj0 : (0 : Int) ≤ (j : Int) := by omega
    by_cases hlt : j < n.toNat
    · have d1 : decide ((j : Int) < n) = true := by simp [(HN.out j).2 hlt]
      have HJ := Lib.hid hlt
      clear hlt
      by_cases hw : (stepsP m j x).W = []
      · have HST := Lib.hid (PR.out.stop hw)
        go_upto_region 5 with (go_at_call 10; refine HST.out.mono ?_; rintro z w2 ⟨rfl, hb2⟩; have B2 := Lib.hid hb2; clear hb2)
        have B3 := Lib.hid (B2.out.trans ((balloc w2 (.cells #[.float .f64 0, .int .i64 0, .int .i64 0, .int .i64 0, .int .i64 0, .int .i64 0] 43)).mono B2.out.size))
        generalize w2.alloc (.cells #[.float .f64 0, .int .i64 0, .int .i64 0, .int .i64 0, .int .i64 0, .int .i64 0] 43) = w3 at *
        have FO := Lib.hid (own_below OR.out B3.out)
        have FP := Lib.hid ((PR.out.below B3.out).unhide HS1.out LT.out.2.1 LT.out.2.2.1 LT.out.2.2.2.1 LT.out.2.2.2.2)
        have FK := Lib.hid (KR.out.on B3.out)
        go_wp2_with fail
        go_ret
        exact ⟨_, j, rfl, Nat.le_of_lt HJ.out, NE.out, fun _ => hw, FO.out, FP.out, FK.out⟩
      · obtain ⟨q, hq⟩ : ∃ q, q = dnF m x j := ⟨_, rfl⟩
        have HQ := Lib.hid hq
        have HST : Hid (Calls Tryz.prog 10 #[.pointer (some ⟨P, 0, none⟩)] wr fun z u' => z = .returned (.tuple #[.agg #[.float .f64 (q).e.t, .int .i64 (q).e.src, .int .i64 (q).e.n, .int .i64 (q).e.dst, .int .i64 (q).e.pay, .int .i64 (q).f], .bool true]) ∧ PAt S2 P bm bc bs m vd vp vl vi vS (stepP m (stepsP m j x)) (k + j + 1) (nd + j + 1) u' ∧ KpS (T3 P bm bs) wr u') := by
          rw [hq]
          exact PR.out.step hc HR.out (by have := HK.out; have := HJ.out; omega) (by have := HD.out; have := HJ.out; omega) hw
        clear hq
        have WNE := Lib.hid hw
        clear hw
        go_upto_region 5 with (go_at_call 10; refine HST.out.mono ?_; rintro z w2 ⟨rfl, hp2, hk2⟩; have P2 := Lib.hid hp2; have K2 := Lib.hid hk2; clear hp2 hk2)
        have X3 := Lib.hid (heap_alloc_new w2 (.cells #[.float .f64 (q).e.t, .int .i64 (q).e.src, .int .i64 (q).e.n, .int .i64 (q).e.dst, .int .i64 (q).e.pay, .int .i64 (q).f] 43))
        have B3 := Lib.hid (balloc w2 (.cells #[.float .f64 (q).e.t, .int .i64 (q).e.src, .int .i64 (q).e.n, .int .i64 (q).e.dst, .int .i64 (q).e.pay, .int .i64 (q).f] 43))
        change Code.wp _ _ _ _ (w2.alloc (.cells #[.float .f64 (q).e.t, .int .i64 (q).e.src, .int .i64 (q).e.n, .int .i64 (q).e.dst, .int .i64 (q).e.pay, .int .i64 (q).f] 43))
        have O2 : Hid (w2.ownsRow u.heap.size 43 6 (.slice a j c) (j) (rowCells 6 (gD (dnF m x)) (j))) := own_kept OR.out fun g9 hg => K2.out.blk (own_lt OR.out hg).2 (T3.no (by have := (own_lt OR.out hg).1; have := LT.out; omega) (by have := (own_lt OR.out hg).1; have := LT.out; omega) (by have := (own_lt OR.out hg).1; have := LT.out; omega))
        have O3 := Lib.hid (own_below O2.out B3.out)
        have P3 := Lib.hid (P2.out.below B3.out)
        have K3 := Lib.hid ((KR.out.trans K2.out).on B3.out)
        generalize w2.alloc (.cells #[.float .f64 (q).e.t, .int .i64 (q).e.src, .int .i64 (q).e.n, .int .i64 (q).e.dst, .int .i64 (q).e.pay, .int .i64 (q).f] 43) = w3 at *
        obtain ⟨q0, q1, q2, q3, q4, q5⟩ := six_cells7 X3.out
        have HNW := Lib.hid (news_cells7 w3 #[.float .f64 (q).e.t, .int .i64 (q).e.src, .int .i64 (q).e.n, .int .i64 (q).e.dst, .int .i64 (q).e.pay, .int .i64 (q).f] 43)
        have B4 := Lib.hid (balloc w3 (.cells #[.float .f64 (q).e.t, .int .i64 (q).e.src, .int .i64 (q).e.n, .int .i64 (q).e.dst, .int .i64 (q).e.pay, .int .i64 (q).f] 43))
        have O4 := Lib.hid (own_below O3.out B4.out)
        have P4 := Lib.hid (P3.out.below B4.out)
        have K4 := Lib.hid (K3.out.on B4.out)
        have HBS := Lib.hid (show u.heap.size ≤ (w3.alloc (.cells #[.float .f64 (q).e.t, .int .i64 (q).e.src, .int .i64 (q).e.n, .int .i64 (q).e.dst, .int .i64 (q).e.pay, .int .i64 (q).f] 43)).heap.size from K4.out.size)
        have hjn := Lib.hid (show j ≤ 20000 by have := HK.out; have := HJ.out; omega)
        have hjm := hjn.out
        go_wp2_with (at_builtin; refine wpList_append_own_at _ rfl _ _ 47 rfl u.heap.size 43 i0 (.agg #[.float .f64 0, .int .i64 0, .int .i64 0, .int .i64 0, .int .i64 0, .int .i64 0]) 6 48 Tryz.underlying47 hi0 hz0 hz1 hz2 rfl (by decide) (.slice a j c) j _ rfl O4.out ⟨w3.heap.size, 0, none⟩ 1 1 [.float .f64 (q).e.t, .int .i64 (q).e.src, .int .i64 (q).e.n, .int .i64 (q).e.dst, .int .i64 (q).e.pay, .int .i64 (q).f] rfl rfl HNW.out (by simp [Value.oneCell']) (by unfold maxLen; omega) (by omega) HBS.out ?_)
        intro v1 w5 hown hgr hnn hat
        have O5 : Hid (w5.ownsRow u.heap.size 43 6 (v1) ((j + 1)) (rowCells 6 (gD (dnF m x)) ((j + 1)))) := by
          rw [← push_done, ← HQ.out]; exact hown
        have NB : Hid (∀ b, (Value.slice a j c).ownBlock = some b → S2 b = true ∧ b ≠ P ∧ b ≠ bm ∧ b ≠ bs) := fun b hb => by
          have h1 := (own_lt OR.out hb).1
          have := LT.out
          exact ⟨HS3.out b hb, by omega, by omega, by omega⟩
        have P5 : Hid (PAt (fun q => S2 q || decide (v1.ownBlock = some q)) P bm bc bs m vd vp vl vi vS (stepsP m (j + 1) x) (k + (j + 1)) (nd + (j + 1)) w5) := by
          rw [stepsP_succ, show k + (j + 1) = k + j + 1 by omega, show nd + (j + 1) = nd + j + 1 by omega]
          refine P4.out.grow hgr NB.out (fun q hq => ?_) (fun q hq => ?_)
          · by_cases c9 : v1.ownBlock = some q
            · rcases hat with h9 | h9
              · rw [HS3.out q (h9.symm.trans c9)]; simp
              · have h8 := Option.some.inj (c9.symm.trans h9); rw [World.size_alloc] at hq; omega
            · simp [c9]
          · simp only [Bool.or_eq_true, decide_eq_true_eq] at hq
            rcases hq with hq | hq
            · exact Nat.lt_of_lt_of_le (P4.out.lo q hq) hgr.size
            · exact (own_lt hown hq).2
        have K5 : Hid (KpS (T3 P bm bs) u w5) := K4.out.low ⟨hgr.os, hgr.tape, hgr.output, hgr.size, fun q hq => hgr.block q (Nat.lt_of_lt_of_le hq K4.out.size) (fun c9 => by have := (own_lt OR.out c9.symm).1; omega)⟩
        have C5 := Lib.hid (show (fun q => S2 q || decide (v1.ownBlock = some q)) bc = false by
          have h1 := HS2.out
          have h2 : v1.ownBlock ≠ some bc := fun c9 => by have := (own_lt hown c9).1; have := LT.out; omega
          simp [h1, h2])
        obtain ⟨a1, c1, rfl, _⟩ := own_form hown
        clear hown hgr hnn hat
        go_wp2_with fail
        go_roundw
        case rel =>
          refine ⟨j + 1, a1, c1, _, HJ.out, by go_num, rfl, fun i hi => ?_, O5.out, P5.out, K5.out, fun q hq => by simp [HS1.out q hq], C5.out, fun g9 hg => by simp [hg]⟩
          by_cases c9 : i = j
          · subst c9; exact WNE.out
          · exact NE.out i (by omega)
        case measure => have := HJ.out; simp [intOf]; omega
    · obtain rfl : j = n.toNat := by omega
      have d1 : decide ((n.toNat : Int) < n) = false := by simp; omega
      go_wp2_with fail
      go_ret
      exact ⟨_, n.toNat, rfl, Nat.le_refl _, NE.out, fun h9 => absurd h9 (Nat.lt_irrefl _), OR.out, PR.out.unhide HS1.out LT.out.2.1 LT.out.2.2.1 LT.out.2.2.2.1 LT.out.2.2.2.2, KR.out⟩

end Go.Proofs.YthkfaeplmmlnlaaGreat
namespace Go.Proofs.YthkfaeplmmlnlaaGreat
open Go.RowKit Go.Deep Go.Maps
set_option linter.unusedVariables false
set_option maxRecDepth 100000

def tkM : Mdl := ⟨0, 4611686018427387904, 1, fun _ => 4602678819172646912, 1, fun _ => 1, fun _ _ => ⟨12, 1, 5, 0⟩, 1, fun _ => 0, fun _ => 0, fun _ _ => 0, 1, fun _ => ⟨4607182418800017408, 0, 7⟩⟩
theorem tk_check : chkN tkM = 0 := by decide +kernel
theorem tk_r : MdlR tkM := ⟨fun _ _ => by show r64v 5; unfold r64v; decide, fun _ _ => by show r64v 0; unfold r64v; decide, fun _ => by show r64v 7; unfold r64v; decide⟩
theorem tk_runs : (stepsP tkM 0 (newP tkM)).W.length ≠ 0 ∧ (stepsP tkM 1 (newP tkM)).W.length ≠ 0 ∧ (stepsP tkM 2 (newP tkM)).W.length ≠ 0 ∧ (stepsP tkM 3 (newP tkM)).W.length = 0 := by decide +kernel
theorem tk_done : (dnF tkM (newP tkM) 0).e.t = 4607182418800017408 ∧ (dnF tkM (newP tkM) 1).e.t = 4609434218613702656 ∧ (dnF tkM (newP tkM) 2).e.t = 4611686018427387904 ∧ (dnF tkM (newP tkM) 2).e.pay = 7 := by decide +kernel
theorem sl_blockP {C n b : Nat} {cs : Array Value} {E : TypeId} {fr : Nat × Nat} {g : Nat → Nat → Value} {u : World} (h : u.heap[b]? = some (.cells cs E fr)) (hn : n ≤ 1000) (hg : ∀ i, i < n → ∀ j, j < C → cs[i * C + j]? = some (g i j)) : Sl C g n (.slice (some ⟨b, 0, none⟩) n n) u :=
  ⟨_, n, rfl, Nat.le_refl _, by omega, fun _ => ⟨b, 0, rfl, lt_of_block h, fun i hi j hj => by rw [Nat.zero_add, Lib.cell_of_heap h]; exact hg i hi j hj⟩⟩

set_option maxHeartbeats 3200000 in
theorem ticker_any (w : World) : Calls Tryz.prog 18 #[] w fun e w' => ∃ vd vp vl vi, e = .returned (mval tkM vd vp vl vi) ∧ MdlAt tkM vd vp vl vi w' ∧ Below w.heap.size w w' := by
  have hsf := store_float
  have Z1 := Lib.hid (heap_alloc_new w (.cells #[.int .i64 0, .float .f64 0, .slice none 0 0, .slice none 0 0, .slice none 0 0, .slice none 0 0] 28))
  have B1 := Lib.hid (balloc w (.cells #[.int .i64 0, .float .f64 0, .slice none 0 0, .slice none 0 0, .slice none 0 0, .slice none 0 0] 28))
  have N1 : Hid ((w.alloc (.cells #[.int .i64 0, .float .f64 0, .slice none 0 0, .slice none 0 0, .slice none 0 0, .slice none 0 0] 28)).heap.size = w.heap.size + 1) := World.size_alloc _ _
  go_enter Tryz.func18, Tryz.ntmps18
  go_upto_region 1 with fail
  generalize w.alloc (.cells #[.int .i64 0, .float .f64 0, .slice none 0 0, .slice none 0 0, .slice none 0 0, .slice none 0 0] 28) = u1 at *
  have y1 : (u1.alloc (.cells #[.float .f64 4602678819172646912] 22)).heap.size = u1.heap.size + 1 := by rw [World.size_alloc]
  have y2 : ((u1.alloc (.cells #[.float .f64 4602678819172646912] 22)).alloc (.cells #[.int .i64 12, .int .i64 1, .int .i64 5, .int .i64 0] 99)).heap.size = u1.heap.size + 2 := by rw [World.size_alloc, y1]
  have y3 : (((u1.alloc (.cells #[.float .f64 4602678819172646912] 22)).alloc (.cells #[.int .i64 12, .int .i64 1, .int .i64 5, .int .i64 0] 99)).alloc (.cells #[.slice (some ⟨u1.heap.size + 1, 0, none⟩) 1 1] 61)).heap.size = u1.heap.size + 3 := by rw [World.size_alloc, y2]
  have y4 : ((((u1.alloc (.cells #[.float .f64 4602678819172646912] 22)).alloc (.cells #[.int .i64 12, .int .i64 1, .int .i64 5, .int .i64 0] 99)).alloc (.cells #[.slice (some ⟨u1.heap.size + 1, 0, none⟩) 1 1] 61)).alloc (.cells #[.int .i64 0, .slice none 0 0] 63)).heap.size = u1.heap.size + 4 := by rw [World.size_alloc, y3]
  have y5 : (((((u1.alloc (.cells #[.float .f64 4602678819172646912] 22)).alloc (.cells #[.int .i64 12, .int .i64 1, .int .i64 5, .int .i64 0] 99)).alloc (.cells #[.slice (some ⟨u1.heap.size + 1, 0, none⟩) 1 1] 61)).alloc (.cells #[.int .i64 0, .slice none 0 0] 63)).alloc (.cells #[.float .f64 4607182418800017408, .int .i64 0, .int .i64 7] 78)).heap.size = u1.heap.size + 5 := by rw [World.size_alloc, y4]
  have e1 := heap_alloc_new u1 (.cells #[.float .f64 4602678819172646912] 22)
  have e2 := heap_alloc_new (u1.alloc (.cells #[.float .f64 4602678819172646912] 22)) (.cells #[.int .i64 12, .int .i64 1, .int .i64 5, .int .i64 0] 99)
  have e3 := heap_alloc_new ((u1.alloc (.cells #[.float .f64 4602678819172646912] 22)).alloc (.cells #[.int .i64 12, .int .i64 1, .int .i64 5, .int .i64 0] 99)) (.cells #[.slice (some ⟨u1.heap.size + 1, 0, none⟩) 1 1] 61)
  have e4 := heap_alloc_new (((u1.alloc (.cells #[.float .f64 4602678819172646912] 22)).alloc (.cells #[.int .i64 12, .int .i64 1, .int .i64 5, .int .i64 0] 99)).alloc (.cells #[.slice (some ⟨u1.heap.size + 1, 0, none⟩) 1 1] 61)) (.cells #[.int .i64 0, .slice none 0 0] 63)
  have e5 := heap_alloc_new ((((u1.alloc (.cells #[.float .f64 4602678819172646912] 22)).alloc (.cells #[.int .i64 12, .int .i64 1, .int .i64 5, .int .i64 0] 99)).alloc (.cells #[.slice (some ⟨u1.heap.size + 1, 0, none⟩) 1 1] 61)).alloc (.cells #[.int .i64 0, .slice none 0 0] 63)) (.cells #[.float .f64 4607182418800017408, .int .i64 0, .int .i64 7] 78)
  rw [y1] at e2
  rw [y2] at e3
  rw [y3] at e4
  rw [y4] at e5
  have BV : Hid (Below u1.heap.size u1 (((((u1.alloc (.cells #[.float .f64 4602678819172646912] 22)).alloc (.cells #[.int .i64 12, .int .i64 1, .int .i64 5, .int .i64 0] 99)).alloc (.cells #[.slice (some ⟨u1.heap.size + 1, 0, none⟩) 1 1] 61)).alloc (.cells #[.int .i64 0, .slice none 0 0] 63)).alloc (.cells #[.float .f64 4607182418800017408, .int .i64 0, .int .i64 7] 78))) := (bthen (bthen (bthen (bthen (balloc u1 (.cells #[.float .f64 4602678819172646912] 22)) (balloc _ (.cells #[.int .i64 12, .int .i64 1, .int .i64 5, .int .i64 0] 99))) (balloc _ (.cells #[.slice (some ⟨u1.heap.size + 1, 0, none⟩) 1 1] 61))) (balloc _ (.cells #[.int .i64 0, .slice none 0 0] 63))) (balloc _ (.cells #[.float .f64 4607182418800017408, .int .i64 0, .int .i64 7] 78)))
  have hd1 := Lib.hid ((Below.heap_alloc ((((u1.alloc (.cells #[.float .f64 4602678819172646912] 22)).alloc (.cells #[.int .i64 12, .int .i64 1, .int .i64 5, .int .i64 0] 99)).alloc (.cells #[.slice (some ⟨u1.heap.size + 1, 0, none⟩) 1 1] 61)).alloc (.cells #[.int .i64 0, .slice none 0 0] 63)) (.cells #[.float .f64 4607182418800017408, .int .i64 0, .int .i64 7] 78) _ (by rw [y4]; omega)).trans ((Below.heap_alloc (((u1.alloc (.cells #[.float .f64 4602678819172646912] 22)).alloc (.cells #[.int .i64 12, .int .i64 1, .int .i64 5, .int .i64 0] 99)).alloc (.cells #[.slice (some ⟨u1.heap.size + 1, 0, none⟩) 1 1] 61)) (.cells #[.int .i64 0, .slice none 0 0] 63) _ (by rw [y3]; omega)).trans ((Below.heap_alloc ((u1.alloc (.cells #[.float .f64 4602678819172646912] 22)).alloc (.cells #[.int .i64 12, .int .i64 1, .int .i64 5, .int .i64 0] 99)) (.cells #[.slice (some ⟨u1.heap.size + 1, 0, none⟩) 1 1] 61) _ (by rw [y2]; omega)).trans ((Below.heap_alloc (u1.alloc (.cells #[.float .f64 4602678819172646912] 22)) (.cells #[.int .i64 12, .int .i64 1, .int .i64 5, .int .i64 0] 99) _ (by rw [y1]; omega)).trans e1))))
  have hc1 := Lib.hid ((Below.heap_alloc ((((u1.alloc (.cells #[.float .f64 4602678819172646912] 22)).alloc (.cells #[.int .i64 12, .int .i64 1, .int .i64 5, .int .i64 0] 99)).alloc (.cells #[.slice (some ⟨u1.heap.size + 1, 0, none⟩) 1 1] 61)).alloc (.cells #[.int .i64 0, .slice none 0 0] 63)) (.cells #[.float .f64 4607182418800017408, .int .i64 0, .int .i64 7] 78) _ (by rw [y4]; omega)).trans ((Below.heap_alloc (((u1.alloc (.cells #[.float .f64 4602678819172646912] 22)).alloc (.cells #[.int .i64 12, .int .i64 1, .int .i64 5, .int .i64 0] 99)).alloc (.cells #[.slice (some ⟨u1.heap.size + 1, 0, none⟩) 1 1] 61)) (.cells #[.int .i64 0, .slice none 0 0] 63) _ (by rw [y3]; omega)).trans ((Below.heap_alloc ((u1.alloc (.cells #[.float .f64 4602678819172646912] 22)).alloc (.cells #[.int .i64 12, .int .i64 1, .int .i64 5, .int .i64 0] 99)) (.cells #[.slice (some ⟨u1.heap.size + 1, 0, none⟩) 1 1] 61) _ (by rw [y2]; omega)).trans e2)))
  have hp1 := Lib.hid ((Below.heap_alloc ((((u1.alloc (.cells #[.float .f64 4602678819172646912] 22)).alloc (.cells #[.int .i64 12, .int .i64 1, .int .i64 5, .int .i64 0] 99)).alloc (.cells #[.slice (some ⟨u1.heap.size + 1, 0, none⟩) 1 1] 61)).alloc (.cells #[.int .i64 0, .slice none 0 0] 63)) (.cells #[.float .f64 4607182418800017408, .int .i64 0, .int .i64 7] 78) _ (by rw [y4]; omega)).trans ((Below.heap_alloc (((u1.alloc (.cells #[.float .f64 4602678819172646912] 22)).alloc (.cells #[.int .i64 12, .int .i64 1, .int .i64 5, .int .i64 0] 99)).alloc (.cells #[.slice (some ⟨u1.heap.size + 1, 0, none⟩) 1 1] 61)) (.cells #[.int .i64 0, .slice none 0 0] 63) _ (by rw [y3]; omega)).trans e3))
  have hl1 := Lib.hid ((Below.heap_alloc ((((u1.alloc (.cells #[.float .f64 4602678819172646912] 22)).alloc (.cells #[.int .i64 12, .int .i64 1, .int .i64 5, .int .i64 0] 99)).alloc (.cells #[.slice (some ⟨u1.heap.size + 1, 0, none⟩) 1 1] 61)).alloc (.cells #[.int .i64 0, .slice none 0 0] 63)) (.cells #[.float .f64 4607182418800017408, .int .i64 0, .int .i64 7] 78) _ (by rw [y4]; omega)).trans e4)
  have hi1 := Lib.hid e5
  have ZV := Lib.hid ((BV.out.block _ (lt_of_block Z1.out)).trans Z1.out)
  clear y1 y2 y3 y4 y5 e1 e2 e3 e4 e5
  obtain ⟨z0, z1, z2, z3, z4, z5⟩ := six_cells7 ZV.out
  have zf : ∀ q, (((((u1.alloc (.cells #[.float .f64 4602678819172646912] 22)).alloc (.cells #[.int .i64 12, .int .i64 1, .int .i64 5, .int .i64 0] 99)).alloc (.cells #[.slice (some ⟨u1.heap.size + 1, 0, none⟩) 1 1] 61)).alloc (.cells #[.int .i64 0, .slice none 0 0] 63)).alloc (.cells #[.float .f64 4607182418800017408, .int .i64 0, .int .i64 7] 78)).frozen? ⟨w.heap.size, q, none⟩ = false := fun q => Lib.frozen_of_heap ZV.out q
  go_wp2_with fail
  change bodyPost _ _ _ _ _ (World.setCells (((((u1.alloc (.cells #[.float .f64 4602678819172646912] 22)).alloc (.cells #[.int .i64 12, .int .i64 1, .int .i64 5, .int .i64 0] 99)).alloc (.cells #[.slice (some ⟨u1.heap.size + 1, 0, none⟩) 1 1] 61)).alloc (.cells #[.int .i64 0, .slice none 0 0] 63)).alloc (.cells #[.float .f64 4607182418800017408, .int .i64 0, .int .i64 7] 78)) w.heap.size 0 [.int .i64 0, .float .f64 4611686018427387904, .slice (some ⟨u1.heap.size, 0, none⟩) 1 1, .slice (some ⟨u1.heap.size + 2, 0, none⟩) 1 1, .slice (some ⟨u1.heap.size + 3, 0, none⟩) 1 1, .slice (some ⟨u1.heap.size + 4, 0, none⟩) 1 1])
  have BS := Lib.hid (put_low7 (Nat.le_refl w.heap.size) [.int .i64 0, .float .f64 4611686018427387904, .slice (some ⟨u1.heap.size, 0, none⟩) 1 1, .slice (some ⟨u1.heap.size + 2, 0, none⟩) 1 1, .slice (some ⟨u1.heap.size + 3, 0, none⟩) 1 1, .slice (some ⟨u1.heap.size + 4, 0, none⟩) 1 1] 0 (((((u1.alloc (.cells #[.float .f64 4602678819172646912] 22)).alloc (.cells #[.int .i64 12, .int .i64 1, .int .i64 5, .int .i64 0] 99)).alloc (.cells #[.slice (some ⟨u1.heap.size + 1, 0, none⟩) 1 1] 61)).alloc (.cells #[.int .i64 0, .slice none 0 0] 63)).alloc (.cells #[.float .f64 4607182418800017408, .int .i64 0, .int .i64 7] 78)))
  have SO : ∀ q, w.heap.size < q → (World.setCells (((((u1.alloc (.cells #[.float .f64 4602678819172646912] 22)).alloc (.cells #[.int .i64 12, .int .i64 1, .int .i64 5, .int .i64 0] 99)).alloc (.cells #[.slice (some ⟨u1.heap.size + 1, 0, none⟩) 1 1] 61)).alloc (.cells #[.int .i64 0, .slice none 0 0] 63)).alloc (.cells #[.float .f64 4607182418800017408, .int .i64 0, .int .i64 7] 78)) w.heap.size 0 [.int .i64 0, .float .f64 4611686018427387904, .slice (some ⟨u1.heap.size, 0, none⟩) 1 1, .slice (some ⟨u1.heap.size + 2, 0, none⟩) 1 1, .slice (some ⟨u1.heap.size + 3, 0, none⟩) 1 1, .slice (some ⟨u1.heap.size + 4, 0, none⟩) 1 1]).heap[q]? = (((((u1.alloc (.cells #[.float .f64 4602678819172646912] 22)).alloc (.cells #[.int .i64 12, .int .i64 1, .int .i64 5, .int .i64 0] 99)).alloc (.cells #[.slice (some ⟨u1.heap.size + 1, 0, none⟩) 1 1] 61)).alloc (.cells #[.int .i64 0, .slice none 0 0] 63)).alloc (.cells #[.float .f64 4607182418800017408, .int .i64 0, .int .i64 7] 78)).heap[q]? := fun q hq => other_setsL (by omega) _ _ _
  have h5 := put_six8 ZV.out (.int .i64 0) (.float .f64 4611686018427387904) (.slice (some ⟨u1.heap.size, 0, none⟩) 1 1) (.slice (some ⟨u1.heap.size + 2, 0, none⟩) 1 1) (.slice (some ⟨u1.heap.size + 3, 0, none⟩) 1 1) (.slice (some ⟨u1.heap.size + 4, 0, none⟩) 1 1)
  have n1 := N1.out
  have d1 := (SO _ (by omega)).trans hd1.out
  have c1 := (SO _ (by omega)).trans hc1.out
  have p1 := (SO _ (by omega)).trans hp1.out
  have l1 := (SO _ (by omega)).trans hl1.out
  have i1 := (SO _ (by omega)).trans hi1.out
  have LZ := Lib.hid ((B1.out.trans (BV.out.mono (by omega))).trans BS.out)
  obtain ⟨t0, t1, t2, t3, t4, t5⟩ := six_cells7 h5
  clear SO BS BV h5 z0 z1 z2 z3 z4 z5 zf hd1 hc1 hp1 hl1 hi1 ZV
  generalize World.setCells (((((u1.alloc (.cells #[.float .f64 4602678819172646912] 22)).alloc (.cells #[.int .i64 12, .int .i64 1, .int .i64 5, .int .i64 0] 99)).alloc (.cells #[.slice (some ⟨u1.heap.size + 1, 0, none⟩) 1 1] 61)).alloc (.cells #[.int .i64 0, .slice none 0 0] 63)).alloc (.cells #[.float .f64 4607182418800017408, .int .i64 0, .int .i64 7] 78)) w.heap.size 0 [.int .i64 0, .float .f64 4611686018427387904, .slice (some ⟨u1.heap.size, 0, none⟩) 1 1, .slice (some ⟨u1.heap.size + 2, 0, none⟩) 1 1, .slice (some ⟨u1.heap.size + 3, 0, none⟩) 1 1, .slice (some ⟨u1.heap.size + 4, 0, none⟩) 1 1] = w9 at *
  have MA : Hid (MdlAt tkM (.slice (some ⟨u1.heap.size, 0, none⟩) 1 1) (.slice (some ⟨u1.heap.size + 2, 0, none⟩) 1 1) (.slice (some ⟨u1.heap.size + 3, 0, none⟩) 1 1) (.slice (some ⟨u1.heap.size + 4, 0, none⟩) 1 1) w9) := by
    refine ⟨sl_blockP (C := 1) (n := 1) d1 (by decide) (fun i hi j hj => ?_), ⟨fun _ => .slice (some ⟨u1.heap.size + 1, 0, none⟩) 1 1, sl_blockP (C := 1) (n := 1) p1 (by decide) (fun i hi j hj => ?_), fun i hi => sl_blockP (C := 4) (n := 1) c1 (by decide) (fun k hk j hj => ?_)⟩, ⟨fun _ => .slice none 0 0, sl_blockP (C := 2) (n := 1) l1 (by decide) (fun i hi j hj => ?_), fun i hi => sl_none8 _ _ _⟩, sl_blockP (C := 3) (n := 1) i1 (by decide) (fun i hi j hj => ?_)⟩
    · obtain ⟨rfl, rfl⟩ : i = 0 ∧ j = 0 := by omega
      rfl
    · obtain ⟨rfl, rfl⟩ : i = 0 ∧ j = 0 := by omega
      rfl
    · have hk : k = 0 := by omega
      have hj : j = 0 ∨ j = 1 ∨ j = 2 ∨ j = 3 := by omega
      subst hk
      rcases hj with rfl | rfl | rfl | rfl <;> rfl
    · have hi : i = 0 := by omega
      have hj : j = 0 ∨ j = 1 := by omega
      subst hi
      rcases hj with rfl | rfl <;> rfl
    · have hi : i = 0 := by omega
      have hj : j = 0 ∨ j = 1 ∨ j = 2 := by omega
      subst hi
      rcases hj with rfl | rfl | rfl <;> rfl
  exact bodyPost_ret (v := .agg #[.int .i64 0, .float .f64 4611686018427387904, .slice (some ⟨u1.heap.size, 0, none⟩) 1 1, .slice (some ⟨u1.heap.size + 2, 0, none⟩) 1 1, .slice (some ⟨u1.heap.size + 3, 0, none⟩) 1 1, .slice (some ⟨u1.heap.size + 4, 0, none⟩) 1 1]) (by simp [results, Tryz.results18, go_sem, t0, t1, t2, t3, t4, t5]) rfl ⟨_, _, _, _, rfl, MA.out, LZ.out⟩

end Go.Proofs.YthkfaeplmmlnlaaGreat
