/- append to an empty slice: a new row. -/
import Derived.Deep.AppendSrc
import Derived.Test.YtaaagmcdbmppmaaYZ18
namespace Go.Proofs.Ytaaagmcdbmppmaa
open Go.RowKit Go.Deep
set_option linter.unusedVariables false
set_option linter.unusedSimpArgs false
set_option maxRecDepth 100000

/-- append of a row's cells to an empty slice: a new row -/
theorem step_append_new9 {P : Program} {w : World} {ops : Array Oper} {o : Oper} {a : Act} {K : Act → World → Prop} {Q : Exit → Act → World → Prop} {E : Prop} (hgd : o.guard = none) (s x : Operand) (t : TypeId)
    (ho : o.op = .call { callee := .builtin .append, args := #[s, x], argTypes := #[t, t] })
    (e : TypeId) (i : TypeInfo) (z : Value) (bytes : Nat) (ht : P.underlying t = some (.slice e)) (hi : P.info? e = some i) (hz : i.zero = some z) (hsize : i.size = 1) (hby : i.bytes = bytes) (hzs : z.cells.size = 1)
    (ao : Option Addr) (hs : a.eval s = .slice ao 0 0) (B n c : Nat) (G : Nat → Nat → Value) (hx : a.eval x = .slice (some ⟨B, 0, none⟩) n c) (hr : RowB e 1 B G n (.slice (some ⟨B, 0, none⟩) n c) w) (h1 : ∀ i, i < n → (G i 0).oneCell' = true)
    (hn : 0 < n ∧ n ≤ 4096) (hbytes : bytes ≤ 1024)
    (h : ∀ g cap w', w.heap.size ≤ g → RowB e 1 g G n (.slice (some ⟨g, 0, none⟩) n cap) w' → Below w.heap.size w w' → K (a.put o.dst (.slice (some ⟨g, 0, none⟩) n cap)) w') : if Region.wanted o (yielded ops a.tmps) = true then Oper.wp P o a w K Q else E := by
  have hw : Region.wanted o (yielded ops a.tmps) = true := by simp [Region.wanted, hgd]
  rw [if_pos hw]
  have hl : (rowCells 1 G n).length = n := by rw [rowCells_len, Nat.mul_one]
  have hcells : ∀ j u, (rowCells 1 G n)[j]? = some u → w.cell? ((⟨B, 0, none⟩ : Addr).add j) = some u := by
    intro j u hj
    have hjn : j < n := by
      rcases Nat.lt_or_ge j n with c | c
      · exact c
      · rw [List.getElem?_eq_none (by rw [hl]; exact c)] at hj; cases hj
    have e1 := rowCells_at G (C := 1) (n := n) (i := j) (j := 0) hjn (by omega)
    rw [Nat.mul_one, Nat.add_zero, hj] at e1
    rw [add_plain, Nat.zero_add, hr.cell1 hjn]
    exact e1.symm
  have hone : ∀ u ∈ rowCells 1 G n, u.oneCell' = true := by
    intro u hu
    obtain ⟨j, hj, rfl⟩ := List.mem_iff_getElem.1 hu
    have hjn : j < n := by rw [hl] at hj; exact hj
    have e1 := rowCells_at G (C := 1) (n := n) (i := j) (j := 0) hjn (by omega)
    rw [Nat.mul_one, Nat.add_zero, List.getElem?_eq_getElem hj] at e1
    rw [Option.some.inj e1]
    exact h1 j hjn
  have hsrc : Src P i.size t (.slice (some ⟨B, 0, none⟩) n c) n (rowCells 1 G n) w := Src.ofSlice w ht ⟨B, 0, none⟩ n c _ (by rw [hl, hsize, Nat.mul_one]) hcells hone
  have hold : (Builtin.firstCells i.size 0 (.slice ao 0 0)).run P w.drew = .ok (([] : List Value).toArray) w.drew := by
    cases ao with
    | none => exact run_firstCells_none w.drew i.size 0 0 0
    | some ad => exact run_firstCells_some w.drew i.size 0 ad 0 0 [] (by simp) (by simp)
  have hrun := run_append_grow_src (P := P) w t t o.type e i z ht hi hz ao 0 0 [] hold (.slice (some ⟨B, 0, none⟩) n c) n (rowCells 1 G n) hsrc (by omega) (by omega) (by
    rw [hby]
    refine Nat.le_trans (Nat.mul_le_mul_right _ (show Builtin.nextslicecap (0 + n) 0 ≤ 8192 from ?_)) (by omega)
    unfold Builtin.nextslicecap
    simp
    (try split) <;> omega)
  have hge := grownCap_ge w (0 + n) 0 e
  have hcm : grownCap w (0 + n) 0 e ≤ maxLen := grownCap_le_maxLen w (0 + n) 0 e (by unfold maxLen; omega)
  unfold Oper.wp execOp
  simp only [ho, resolve, invoke, builtin, Sem.run_bind, Sem.run_pure, Result.andThen_ok, List.map_toArray, List.map_cons, List.map_nil, hs, hx, hrun]
  rw [Nat.zero_add] at *
  refine h _ _ _ (by simp) ?_ ((((Below.refl w.heap.size w).drew).alloc (Nat.le_refl _) _))
  have hb := heap_alloc_new w.drew (.cells ((([] : List Value) ++ rowCells 1 G n).toArray ++ Builtin.zeroCells z.cells (grownCap w n 0 e - n)) e)
  refine ⟨⟨_, rfl, hge, by unfold maxLen at hcm; omega⟩, ⟨_, hb⟩, fun q hq j hj => ?_⟩
  obtain rfl : j = 0 := by omega
  rw [Nat.mul_one, Nat.add_zero]
  have e2 := Lib.cell_of_heap hb q
  change (w.drew.alloc _).cell? ⟨w.heap.size, q, none⟩ = _ at e2
  rw [e2, ← Array.getElem?_toList, Array.toList_append, List.nil_append, List.getElem?_append_left (by rw [hl]; exact hq)]
  have e1 := rowCells_at G (C := 1) (n := n) (i := q) (j := 0) hq (by omega)
  rw [Nat.mul_one, Nat.add_zero] at e1
  exact e1

/-- the same, in a statement whose order is the text's -/
theorem wpList_append_new9 {P : Program} {w : World} {ops : Array Oper} {rest : List Oper} {o : Oper} {a : Act} {Q : Exit → Act → World → Prop} (hgd : o.guard = none) (s x : Operand) (t : TypeId)
    (ho : o.op = .call { callee := .builtin .append, args := #[s, x], argTypes := #[t, t] })
    (e : TypeId) (i : TypeInfo) (z : Value) (bytes : Nat) (ht : P.underlying t = some (.slice e)) (hi : P.info? e = some i) (hz : i.zero = some z) (hsize : i.size = 1) (hby : i.bytes = bytes) (hzs : z.cells.size = 1)
    (ao : Option Addr) (hs : a.eval s = .slice ao 0 0) (B n c : Nat) (G : Nat → Nat → Value) (hx : a.eval x = .slice (some ⟨B, 0, none⟩) n c) (hr : RowB e 1 B G n (.slice (some ⟨B, 0, none⟩) n c) w) (h1 : ∀ i, i < n → (G i 0).oneCell' = true)
    (hn : 0 < n ∧ n ≤ 4096) (hbytes : bytes ≤ 1024)
    (h : ∀ g cap w', w.heap.size ≤ g → RowB e 1 g G n (.slice (some ⟨g, 0, none⟩) n cap) w' → Below w.heap.size w w' → wpList P ops Q rest (a.put o.dst (.slice (some ⟨g, 0, none⟩) n cap)) w') : wpList P ops Q (o :: rest) a w := by
  refine wpList_plain hgd fun K hK => ?_
  have h2 := step_append_new9 (P := P) (w := w) (ops := ops) (o := o) (a := a) (K := K) (Q := Q) (E := True) hgd s x t ho e i z bytes ht hi hz hsize hby hzs ao hs B n c G hx hr h1 hn hbytes (fun g cap w' hg hr' hb => hK _ _ (h g cap w' hg hr' hb))
  rwa [if_pos (by simp [Region.wanted, hgd])] at h2

end Go.Proofs.Ytaaagmcdbmppmaa
