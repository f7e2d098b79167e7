/- What the walk of VmAgain wants: copies by append, a store into a row of the call's own. -/
import Derived.Test.YtehdlpgopcoecaaVmMust
import Derived.Test.YtehdlpgopcoecaaVmDivides
namespace Go.Proofs.Ytehdlpgopcoecaa
open Go.RowKit Go.Deep
set_option linter.unusedVariables false
set_option maxRecDepth 100000

/-- append of nothing, in a plain region -/
theorem wpList_append_nothing7 {P : Program} {w : World} {ops : Array Oper} {rest : List Oper} {o : Oper} {a : Act} {Q : Exit → Act → World → Prop} (hgd : o.guard = none) (s x : Operand) (t : TypeId)
    (ho : o.op = .call { callee := .builtin .append, args := #[s, x], argTypes := #[t, t] })
    (e : TypeId) (i : TypeInfo) (ht : P.underlying t = some (.slice e)) (hi : P.info? e = some i) (ao : Option Addr) (n cap : Nat) (hs : a.eval s = .slice ao n cap) (hle : n ≤ cap) (xv : Value) (hx : a.eval x = xv) (hsrc : Src P i.size t xv 0 [] w)
    (h : wpList P ops Q rest (a.put o.dst (.slice ao n cap)) w) : wpList P ops Q (o :: rest) a w := by
  refine wpList_plain hgd fun K hK => ?_
  have hrun := run_append_nothing (P := P) w t t o.type e i ht hi ao n cap hle xv hsrc
  unfold Oper.wp
  simp [execOp, ho, resolve, invoke, builtin, hs, hx, hrun, Result.andThen]
  exact hK _ _ h

theorem at_newsC {C : Nat} (hC : 0 < C) {g : Nat → Nat → Value} {n b o : Nat} {w : World} (h : At C g n b o w) : ∀ j u, (rowCells C g n)[j]? = some u → w.cell? ((⟨b, o, none⟩ : Addr).add j) = some u := by
  intro j u hj
  have hlt : j < n * C := by
    rcases Nat.lt_or_ge j (n * C) with h1 | h1
    · exact h1
    · rw [List.getElem?_eq_none (by rw [rowCells_len]; exact h1)] at hj; cases hj
  have hi : j / C < n := (Nat.div_lt_iff_lt_mul hC).2 hlt
  have hr : j % C < C := Nat.mod_lt _ hC
  have hjj : j / C * C + j % C = j := by rw [Nat.mul_comm]; exact Nat.div_add_mod j C
  have e := rowCells_at g hi hr
  rw [hjj, hj] at e
  have := h.2 _ hi _ hr
  rw [add_plain]
  rw [show o + j / C * C + j % C = o + j by omega] at this
  rw [this]
  exact e.symm
theorem row_four (f : Nat → I4) (n : Nat) : ∀ u ∈ rowCells 4 (gI f) n, u.oneCell' = true := by
  intro u hu
  unfold rowCells at hu
  simp only [List.mem_map] at hu
  obtain ⟨k, _, rfl⟩ := hu
  unfold gI
  split <;> rfl
theorem info_ins7 : (Try.prog.info? 45).map (fun i => (i.zero, i.size, i.bytes)) = some (some (.agg #[.int .i64 0, .int .i64 0, .int .i64 0, .int .i64 0]), 4, 32) := by kernel_rfl

/-- a store into a row of the call's own -/
theorem own_set {u : World} {b n : Nat} {v : Value} {f : Nat → Int} (h : u.ownsRow b 3 1 v n (rowCells 1 (gW f) n)) {k : Nat} (hk : k < n) : ∃ bw cap, v = .slice (some ⟨bw, 0, none⟩) n cap ∧ b ≤ bw ∧ u.cell? ⟨bw, k, none⟩ = some (.int .i64 (f k)) ∧ (∀ q, u.frozen? ⟨bw, q, none⟩ = false) ∧
    ∀ x, (u.setCell ⟨bw, k, none⟩ (.int .i64 x)).ownsRow b 3 1 v n (rowCells 1 (gW (upd f k x)) n) := by
  rcases h.2 with ⟨rfl, h0⟩ | ⟨bw, cap, cur, rfl, l1, l2, l3, l4, l5, l6⟩
  · omega
  have at_ : ∀ j, j < n → cur[j]? = some (.int .i64 (f j)) := fun j hj => by
    have e := rowCells_at (gW f) (C := 1) (n := n) (i := j) (j := 0) hj (by omega)
    rw [← l6, List.getElem?_take, if_pos (by omega)] at e
    rw [← Array.getElem?_toList]
    simpa [gW] using e
  refine ⟨bw, cap, rfl, l1, ?_, fun q => Lib.frozen_of_heap l2 q, fun x => ?_⟩
  · rw [Lib.cell_of_heap l2]; exact at_ k hk
  have hh := Joins.block_setCell (i := k) l2 (.int .i64 x)
  refine ⟨by rw [rowCells_len], .inr ⟨bw, cap, _, rfl, l1, hh, l3, l4, by simpa using l5, ?_⟩⟩
  apply List.ext_getElem?
  intro j
  rw [List.getElem?_take]
  by_cases hj : j < n * 1
  · rw [if_pos hj]
    have e := rowCells_at (gW (upd f k x)) (C := 1) (n := n) (i := j) (j := 0) (by omega) (by omega)
    rw [show j * 1 + 0 = j by omega] at e
    rw [e, Array.getElem?_toList, Array.getElem?_setIfInBounds]
    have hsz : j < cur.size := by rw [l5]; omega
    by_cases e2 : k = j
    · subst e2
      simp [upd, gW, hsz]
    · rw [if_neg e2, at_ j (by omega)]
      simp [upd, gW, show ¬ j = k by omega]
  · rw [if_neg hj, List.getElem?_eq_none (by rw [rowCells_len]; exact Nat.le_of_not_lt hj)]

end Go.Proofs.Ytehdlpgopcoecaa
