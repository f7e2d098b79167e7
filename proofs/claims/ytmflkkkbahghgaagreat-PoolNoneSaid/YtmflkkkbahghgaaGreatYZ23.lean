/- append of nothing; the cells of a slice that is appended. (Moved out of VmOf and OwnAppend.) append, to a row of the call's own, of a slice of whatever length (of none, too), told by its elements: at a drawn region's step, and in a plain region. A list of whatever elements in a row of its own, from base on. The document's store of logical pages in memory. The document's pool in memory. The contract of the document's Need. (Moved out of RtR1.) The contracts of the document's looks: there, at, Fresh, Kept, Free, Leaving, Pages. -/
import Derived.Deep.AppendSrc
import Derived.Deep.AppendLies
import Derived.Deep.DeepCutAuto
import Derived.Deep.Upon
import Derived.Laws.OwnMore
import Derived.Test.YtmflkkkbahghgaaGreatYZ5
import Derived.Test.YtmflkkkbahghgaaGreatYZ0
import Derived.Test.YtmflkkkbahghgaaGreatYZ6
import Derived.Test.YtmflkkkbahghgaaGreatYZ1
import Derived.Test.YtmflkkkbahghgaaGreatYZ2
import Derived.Test.YtmflkkkbahghgaaGreatYZ7
namespace Go.Proofs.YtmflkkkbahghgaaGreat
open Go.RowKit Go.Deep
set_option linter.unusedVariables false
set_option maxRecDepth 100000

theorem rowCells_zero (C : Nat) (g : Nat → Nat → Value) : rowCells C g 0 = [] := by simp [rowCells]
/-- append of nothing, in a plain region -/
theorem wpList_append_nothing7 {P : Program} {w : World} {ops : Array Oper} {rest : List Oper} {o : Oper} {a : Act} {Q : Exit → Act → World → Prop} (hgd : o.guard = none) (s x : Operand) (t : TypeId)
    (ho : o.op = .call { callee := .builtin .append, args := #[s, x], argTypes := #[t, t] })
    (e : TypeId) (i : TypeInfo) (ht : P.underlying t = some (.slice e)) (hi : P.info? e = some i) (ao : Option Addr) (n cap : Nat) (hs : a.eval s = .slice ao n cap) (hle : n ≤ cap) (xv : Value) (hx : a.eval x = xv) (hsrc : Src P i.size t xv 0 [] w)
    (h : wpList P ops Q rest (a.put o.dst (.slice ao n cap)) w) : wpList P ops Q (o :: rest) a w := by
  refine wpList_plain hgd fun K hK => ?_
  have hrun := run_append_nothing (P := P) w t t o.type e i ht hi ao n cap hle xv hsrc
  unfold Oper.wp
  simp [execOp, ho, resolve, invoke, builtin, hs, hx, hrun, Result.andThen]
  exact hK _ _ h

theorem at_newsC {C : Nat} (hC : 0 < C) {g : Nat → Nat → Value} {n b o : Nat} {w : World} (h : At C g n b o w) : ∀ j u, (rowCells C g n)[j]? = some u → w.cell? ((⟨b, o, none⟩ : Addr).add j) = some u := by
  intro j u hj
  have hlt : j < n * C := by
    rcases Nat.lt_or_ge j (n * C) with h1 | h1
    · exact h1
    · rw [List.getElem?_eq_none (by rw [rowCells_len]; exact h1)] at hj; cases hj
  have hi : j / C < n := (Nat.div_lt_iff_lt_mul hC).2 hlt
  have hr : j % C < C := Nat.mod_lt _ hC
  have hjj : j / C * C + j % C = j := by rw [Nat.mul_comm]; exact Nat.div_add_mod j C
  have e := rowCells_at g hi hr
  rw [hjj, hj] at e
  have := h.2 _ hi _ hr
  rw [add_plain]
  rw [show o + j / C * C + j % C = o + j by omega] at this
  rw [this]
  exact e.symm

end Go.Proofs.YtmflkkkbahghgaaGreat
namespace Go.Proofs.YtmflkkkbahghgaaGreat
open Go.RowKit Go.Deep
set_option linter.unusedVariables false
set_option maxRecDepth 100000

theorem row_cells_one {C : Nat} {g : Nat → Nat → Value} {m : Nat} (hC : 0 < C) (h1 : ∀ i, i < m → ∀ j, j < C → (g i j).oneCell' = true) : ∀ u ∈ rowCells C g m, u.oneCell' = true := fun u hu => by
  obtain ⟨j, hj, rfl⟩ := List.mem_iff_getElem.1 hu
  obtain ⟨q1, q2, q3, e⟩ := rowCells_of hC g (List.getElem?_eq_getElem hj)
  rw [e]
  exact h1 _ q2 _ q3
theorem own_form {w : World} {b : Nat} {E : TypeId} {C n : Nat} {v : Value} {xs : List Value} (h : w.ownsRow b E C v n xs) : ∃ a c, v = .slice a n c ∧ n ≤ c := by
  rcases h.2 with ⟨rfl, h0⟩ | ⟨g, cap, cur, rfl, _, _, h3, _⟩
  · exact ⟨none, 0, by rw [h0], by omega⟩
  · exact ⟨_, cap, rfl, h3⟩
theorem grown_self (w : World) (row : Option Nat) : w.grownBy w row := ⟨rfl, rfl, rfl, Nat.le_refl _, fun _ _ _ => rfl⟩
section
variable {P : Program} {ops : Array Oper} {o : Oper} {a : Act} {w : World} {K : Act → World → Prop} {Q : Exit → Act → World → Prop}
theorem src_none {size : Nat} {t : TypeId} {e : TypeId} (ht : P.underlying t = some (.slice e)) (ax : Option Addr) (c : Nat) : Src P size t (.slice ax 0 c) 0 [] w := by
  cases ax with
  | none => exact Src.ofNil _ ht c
  | some ad => exact Src.ofSlice _ ht ad 0 c [] (by simp) (by simp) (by simp)
theorem wpList_append_any {rest : List Oper} (hgd : o.guard = none) (s x : Operand) (t : TypeId) (ho : o.op = .call { callee := .builtin .append, args := #[s, x], argTypes := #[t, t] })
    (base : Nat) (e : TypeId) (i : TypeInfo) (z : Value) (size bytes : Nat) (ht : P.underlying t = some (.slice e)) (hi : P.info? e = some i) (hz : i.zero = some z)
    (hsize : i.size = size) (hby : i.bytes = bytes) (hzs : z.cells.size = size) (hsz : 0 < size)
    (v : Value) (n : Nat) (xs : List Value) (hs : a.eval s = v) (hown : w.ownsRow base e size v n xs)
    (g : Nat → Nat → Value) (m : Nat) (vx : Value) (hx : a.eval x = vx) (hsl : Sl size g m vx w) (h1 : ∀ i, i < m → ∀ j, j < size → (g i j).oneCell' = true)
    (h63 : n + m ≤ maxLen) (hbytes : (n + m) * bytes ≤ 140737488355328) (hbase : base ≤ w.heap.size)
    (N : Nat) (hN : n + m = N) (h : ∀ a' c' w', w'.ownsRow base e size (.slice a' N c') N (xs ++ rowCells size g m) → w.grownBy w' v.ownBlock → wpList P ops Q rest (a.put o.dst (.slice a' N c')) w') : wpList P ops Q (o :: rest) a w := by
  subst hN
  obtain ⟨ax, cx, rfl, hx1, hx2, hx3⟩ := hsl
  rcases Nat.eq_zero_or_pos m with hm | hm
  · subst hm
    obtain ⟨av, cv, rfl, hc⟩ := own_form hown
    refine wpList_append_nothing7 hgd s x t ho e i ht hi av n cv hs hc _ hx (src_none ht ax cx) ?_
    refine h av cv w ?_ (grown_self w _)
    rw [rowCells_zero, List.append_nil, Nat.add_zero]
    exact hown
  · obtain ⟨b, off, rfl, hA⟩ := hx3 hm
    refine wpList_append_own w hgd s x t ho base e i z size bytes ht hi hz hsize hby hzs hsz v n xs hs hown ⟨b, off, none⟩ m cx (rowCells size g m) hx (rowCells_len _ _ _) (at_newsC hsz hA) (row_cells_one hsz h1) h63 hbytes hbase ?_
    intro v' w' hown' hgr _
    obtain ⟨av, cv, rfl, _⟩ := own_form hown'
    exact h _ _ _ hown' hgr
end

end Go.Proofs.YtmflkkkbahghgaaGreat
namespace Go.Proofs.YtmflkkkbahghgaaGreat
open Go.RowKit
set_option linter.unusedVariables false
set_option linter.unusedSimpArgs false
set_option maxRecDepth 100000

def GRow (T : TypeId) (C base n : Nat) (G : Nat → Nat → Value) (v : Value) (u : World) : Prop :=
  (n = 0 ∧ ∃ a c, v = .slice a 0 c ∧ c ≤ 9223372036854775807 ∧ ∀ p, a = some p → base ≤ p.block ∧ p.block < u.heap.size) ∨
  (0 < n ∧ ∃ b c, v = .slice (some ⟨b, 0, none⟩) n c ∧ base ≤ b ∧ RowB T C b G n v u)
section
variable {T : TypeId} {C base n : Nat} {G G2 : Nat → Nat → Value} {v : Value} {u u2 : World}
theorem GRow.below (h : GRow T C base n G v u) (k : Below u.heap.size u u2) : GRow T C base n G v u2 := by
  rcases h with h | ⟨h0, b, c, e, hb, hr⟩
  · exact .inl (zrow_up h k.size)
  · exact .inr ⟨h0, b, c, e, hb, hr.kept (k.block _ hr.lt)⟩
theorem GRow.kept (h : GRow T C base n G v u) (S : Nat → Bool) (hS : ∀ b, v.ownBlock = some b → S b = false) (k : KpS S u u2) : GRow T C base n G v u2 := by
  rcases h with h | ⟨h0, b, c, e, hb, hr⟩
  · exact .inl (zrow_up h k.size)
  · exact .inr ⟨h0, b, c, e, hb, hr.kept (k.blk hr.lt (hS b (by rw [e]; rfl)))⟩
theorem GRow.congr (h : GRow T C base n G v u) (e : ∀ i, i < n → ∀ j, j < C → G2 i j = G i j) : GRow T C base n G2 v u := by
  rcases h with h | ⟨h0, b, c, e1, hb, hr⟩
  · exact .inl h
  · exact .inr ⟨h0, b, c, e1, hb, hr.congr e⟩
theorem GRow.mono {base2 : Nat} (h : GRow T C base n G v u) (hb : base2 ≤ base) : GRow T C base2 n G v u := by
  rcases h with ⟨hr, a, c, e1, hc, hp⟩ | ⟨h0, b, c, e1, h1, hr⟩
  · exact .inl ⟨hr, a, c, e1, hc, fun p h1 => ⟨Nat.le_trans hb (hp p h1).1, (hp p h1).2⟩⟩
  · exact .inr ⟨h0, b, c, e1, Nat.le_trans hb h1, hr⟩
theorem GRow.of (h : u.ownsRow base T C v n (rowCells C G n)) : GRow T C base n G v u := by
  by_cases h0 : n = 0
  · subst h0
    rcases h.2 with ⟨e, _⟩ | ⟨g, cap, cur, e, hb, hg, _, hm, _⟩
    · exact .inl ⟨rfl, _, _, e, by omega, fun p hp => by cases hp⟩
    · exact .inl ⟨rfl, _, _, e, by unfold maxLen at hm; omega, fun p hp => by
        simp only [Option.some.injEq] at hp
        subst hp
        exact ⟨hb, lt_of_block hg⟩⟩
  · obtain ⟨b, hb, hv, hr⟩ := RowB.of h (by omega)
    obtain ⟨c, e, _⟩ := hr.v
    exact .inr ⟨by omega, b, c, e, hb, hr⟩
theorem GRow.sl (h : GRow T C base n G v u) : Sl C G n v u := by
  rcases h with ⟨h0, a, c, rfl, hc, _⟩ | ⟨h0, b, c, rfl, hb, hr⟩
  · rw [h0]; exact ⟨a, c, rfl, Nat.zero_le _, hc, fun h => absurd h (Nat.lt_irrefl 0)⟩
  · obtain ⟨c2, e, h1, h2⟩ := hr.v
    exact ⟨_, _, e, h1, h2, fun _ => ⟨b, 0, rfl, hr.lt, fun i hi j hj => by rw [Nat.zero_add]; exact hr.c i hi j hj⟩⟩
theorem GRow.form (h : GRow T C base n G v u) : ∃ a c, v = .slice a n c := by
  rcases h with ⟨h0, a, c, rfl, _⟩ | ⟨_, b, c, rfl, _⟩
  · exact ⟨a, c, by rw [h0]⟩
  · exact ⟨_, _, rfl⟩
theorem GRow.lo (h : GRow T C base n G v u) : ∀ b, v.ownBlock = some b → base ≤ b ∧ b < u.heap.size := by
  intro k hv
  rcases h with ⟨_, a, c, rfl, _, hp⟩ | ⟨_, b, c, rfl, hb, hr⟩
  · cases a with
    | none => cases hv
    | some p =>
      simp only [Value.ownBlock, Option.some.injEq] at hv
      subst hv
      exact hp p rfl
  · simp only [Value.ownBlock, Option.some.injEq] at hv
    subst hv
    exact ⟨hb, hr.lt⟩
/-- the i-th: where its cells stand -/
theorem GRow.look {a : Option Addr} {c i m : Nat} (h : GRow T C base n G (.slice a m c) u) (hi : i < n) : m = n ∧ ∃ b, a = some ⟨b, 0, none⟩ ∧ base ≤ b ∧ b < u.heap.size ∧ (∀ j, j < C → u.cell? ⟨b, i * C + j, none⟩ = some (G i j)) ∧ ∀ o, u.frozen? ⟨b, o, none⟩ = false := by
  rcases h with ⟨h0, _⟩ | ⟨h0, b, c2, e, h1, hr⟩
  · omega
  · simp only [Value.slice.injEq] at e
    obtain ⟨rfl, rfl, rfl⟩ := e
    exact ⟨rfl, b, rfl, h1, hr.lt, fun j hj => hr.c i hi j hj, fun o => hr.frozen o⟩
end
end Go.Proofs.YtmflkkkbahghgaaGreat
namespace Go.Proofs.YtmflkkkbahghgaaGreat
open Go.RowKit
set_option linter.unusedVariables false
set_option linter.unusedSimpArgs false
set_option maxRecDepth 100000

def slG (l : List Slt) : Nat → Nat → Value := fun i j => if j = 0 then .bool (slA l i).is else if j = 1 then .bool (slA l i).fr else .string (slA l i).b
theorem slG_one (l : List Slt) (i j : Nat) : (slG l i j).oneCell' = true := by
  unfold slG; split
  · rfl
  · split <;> rfl
/-- a list of logical pages in a row of its own, from base on -/
def SRow (base : Nat) (l : List Slt) (v : Value) (u : World) : Prop :=
  (l.length = 0 ∧ ∃ a c, v = .slice a 0 c ∧ c ≤ 9223372036854775807 ∧ ∀ p, a = some p → base ≤ p.block ∧ p.block < u.heap.size) ∨
  (0 < l.length ∧ ∃ b c, v = .slice (some ⟨b, 0, none⟩) l.length c ∧ base ≤ b ∧ RowB 52 3 b (slG l) l.length v u)
section
variable {base : Nat} {l : List Slt} {v : Value} {u u2 : World}
theorem SRow.below (h : SRow base l v u) (k : Below u.heap.size u u2) : SRow base l v u2 := by
  rcases h with h | ⟨h0, b, c, e, hb, hr⟩
  · exact .inl (zrow_up h k.size)
  · exact .inr ⟨h0, b, c, e, hb, hr.kept (k.block _ hr.lt)⟩
theorem SRow.kept (h : SRow base l v u) (S : Nat → Bool) (hS : ∀ b, v.ownBlock = some b → S b = false) (k : KpS S u u2) : SRow base l v u2 := by
  rcases h with h | ⟨h0, b, c, e, hb, hr⟩
  · exact .inl (zrow_up h k.size)
  · exact .inr ⟨h0, b, c, e, hb, hr.kept (k.blk hr.lt (hS b (by rw [e]; rfl)))⟩
theorem SRow.mono {base2 : Nat} (h : SRow base l v u) (hb : base2 ≤ base) : SRow base2 l v u := by
  rcases h with ⟨hr, a, c, e1, hc, hp⟩ | ⟨h0, b, c, e1, h1, hr⟩
  · exact .inl ⟨hr, a, c, e1, hc, fun p h1 => ⟨Nat.le_trans hb (hp p h1).1, (hp p h1).2⟩⟩
  · exact .inr ⟨h0, b, c, e1, Nat.le_trans hb h1, hr⟩
theorem SRow.of {xs : List Value} (h : u.ownsRow base 52 3 v l.length xs) (hx : xs = rowCells 3 (slG l) l.length) : SRow base l v u := by
  subst hx
  by_cases h0 : l.length = 0
  · rw [h0] at h
    rcases h.2 with ⟨e, _⟩ | ⟨g, cap, cur, e, hb, hg, _, hm, _⟩
    · exact .inl ⟨h0, _, _, e, by omega, fun p hp => by cases hp⟩
    · exact .inl ⟨h0, _, _, e, by unfold maxLen at hm; omega, fun p hp => by
        simp only [Option.some.injEq] at hp
        subst hp
        exact ⟨hb, lt_of_block hg⟩⟩
  · obtain ⟨b, hb, hv, hr⟩ := RowB.of h (by omega)
    obtain ⟨c, e, _⟩ := hr.v
    exact .inr ⟨by omega, b, c, e, hb, hr⟩
theorem SRow.sl (h : SRow base l v u) : Sl 3 (slG l) l.length v u := by
  rcases h with ⟨h0, a, c, rfl, hc, _⟩ | ⟨h0, b, c, rfl, hb, hr⟩
  · rw [h0]; exact ⟨a, c, rfl, Nat.zero_le _, hc, fun h => absurd h (Nat.lt_irrefl 0)⟩
  · obtain ⟨c2, e, h1, h2⟩ := hr.v
    exact ⟨_, _, e, h1, h2, fun _ => ⟨b, 0, rfl, hr.lt, fun i hi j hj => by rw [Nat.zero_add]; exact hr.c i hi j hj⟩⟩
theorem SRow.form (h : SRow base l v u) : ∃ a c, v = .slice a l.length c := by
  rcases h with ⟨h0, a, c, rfl, _⟩ | ⟨_, b, c, rfl, _⟩
  · exact ⟨a, c, by rw [h0]⟩
  · exact ⟨_, _, rfl⟩
theorem SRow.lo (h : SRow base l v u) : ∀ b, v.ownBlock = some b → base ≤ b ∧ b < u.heap.size := by
  intro k hv
  rcases h with ⟨_, a, c, rfl, _, hp⟩ | ⟨_, b, c, rfl, hb, hr⟩
  · cases a with
    | none => cases hv
    | some p =>
      simp only [Value.ownBlock, Option.some.injEq] at hv
      subst hv
      exact hp p rfl
  · simp only [Value.ownBlock, Option.some.injEq] at hv
    subst hv
    exact ⟨hb, hr.lt⟩
/-- the i-th: its three cells -/
theorem SRow.look {a : Option Addr} {c i n : Nat} (h : SRow base l (.slice a n c) u) (hi : i < l.length) : n = l.length ∧ ∃ b, a = some ⟨b, 0, none⟩ ∧ b < u.heap.size ∧ u.cell? ⟨b, i * 3, none⟩ = some (.bool (slA l i).is) ∧ u.cell? ⟨b, i * 3 + 1, none⟩ = some (.bool (slA l i).fr) ∧ u.cell? ⟨b, i * 3 + 2, none⟩ = some (.string (slA l i).b) := by
  rcases h with ⟨h0, _⟩ | ⟨h0, b, c2, e, h1, hr⟩
  · omega
  · simp only [Value.slice.injEq] at e
    obtain ⟨rfl, rfl, rfl⟩ := e
    have r0 := hr.c i hi 0 (by omega)
    have r1 := hr.c i hi 1 (by omega)
    have r2 := hr.c i hi 2 (by omega)
    rw [Nat.add_zero] at r0
    exact ⟨rfl, b, rfl, hr.lt, r0, r1, r2⟩
end
/-- the document's store in block Q -/
structure RSh (base Q : Nat) (x : Stt) (u : World) : Prop where
  box : ∃ v1 v2, u.heap[Q]? = some (.cells #[.int .i64 x.many, v1, v2, .int .i64 x.ep, .bool false] 50 (0, 0)) ∧ SRow base x.now v1 u ∧ SRow base x.old v2 u ∧ v1.ownBlock ≠ some Q ∧ v2.ownBlock ≠ some Q
  lo : base ≤ Q
def Q1 (Q : Nat) : Nat → Bool := fun k => k == Q
theorem Q1.a (Q : Nat) : Q1 Q Q = true := by simp [Q1]
theorem Q1.no {Q k : Nat} (h : k ≠ Q) : Q1 Q k = false := by simp [Q1, h]
section
variable {base Q : Nat} {x x2 : Stt} {u u2 : World} {S : Nat → Bool}
theorem RSh.lt (h : RSh base Q x u) : Q < u.heap.size := by
  obtain ⟨_, _, e, _⟩ := h.box
  exact lt_of_block e
theorem RSh.below (h : RSh base Q x u) (k : Below u.heap.size u u2) : RSh base Q x u2 := by
  obtain ⟨v1, v2, e, h1, h2, n1, n2⟩ := h.box
  exact ⟨⟨v1, v2, (k.block _ (lt_of_block e)).trans e, h1.below k, h2.below k, n1, n2⟩, h.lo⟩
theorem RSh.mono {base2 : Nat} (h : RSh base Q x u) (hb : base2 ≤ base) : RSh base2 Q x u := by
  obtain ⟨v1, v2, e, h1, h2, n1, n2⟩ := h.box
  exact ⟨⟨v1, v2, e, h1.mono hb, h2.mono hb, n1, n2⟩, Nat.le_trans hb h.lo⟩
/-- the store's own blocks -/
def Rs (Q : Nat) (u : World) (k : Nat) : Prop := k = Q ∨ ∃ m v1 v2 e b, u.heap[Q]? = some (.cells #[m, v1, v2, e, b] 50 (0, 0)) ∧ (v1.ownBlock = some k ∨ v2.ownBlock = some k)
theorem RSh.rlt (h : RSh base Q x u) {k : Nat} (hk : Rs Q u k) : base ≤ k ∧ k < u.heap.size := by
  obtain ⟨v1, v2, e, h1, h2, _, _⟩ := h.box
  rcases hk with rfl | ⟨m, w1, w2, ep, b, e2, hv⟩
  · exact ⟨h.lo, lt_of_block e⟩
  · rw [e] at e2
    simp only [Option.some.injEq, Obj.cells.injEq, and_true, true_and] at e2
    have e3 : v1 = w1 ∧ v2 = w2 := by simpa using ⟨(by injection e2 with e2; injection e2 with _ e2; injection e2 : v1 = w1), (by injection e2 with e2; injection e2 with _ e2; injection e2 with _ e2; injection e2 : v2 = w2)⟩
    obtain ⟨rfl, rfl⟩ := e3
    rcases hv with hv | hv
    · exact h1.lo k hv
    · exact h2.lo k hv
/-- what is done elsewhere leaves it -/
theorem RSh.kept (h : RSh base Q x u) (hS : ∀ k, Rs Q u k → S k = false) (k : KpS S u u2) : RSh base Q x u2 ∧ ∀ j, Rs Q u2 j → Rs Q u j := by
  obtain ⟨v1, v2, e, h1, h2, n1, n2⟩ := h.box
  have eq := k.blk (lt_of_block e) (hS Q (.inl rfl))
  refine ⟨⟨⟨v1, v2, eq.trans e, h1.kept S (fun b hb => hS b (.inr ⟨_, _, _, _, _, e, .inl hb⟩)) k, h2.kept S (fun b hb => hS b (.inr ⟨_, _, _, _, _, e, .inr hb⟩)) k, n1, n2⟩, h.lo⟩, fun j hj => ?_⟩
  rcases hj with rfl | ⟨m, w1, w2, ep, b, e2, hv⟩
  · exact .inl rfl
  · exact .inr ⟨m, w1, w2, ep, b, by rw [← eq]; exact e2, hv⟩
end

end Go.Proofs.YtmflkkkbahghgaaGreat
namespace Go.Proofs.YtmflkkkbahghgaaGreat
open Go.RowKit
set_option linter.unusedVariables false
set_option linter.unusedSimpArgs false
set_option maxRecDepth 100000

def frV (x : Frm) (j : Nat) : Value := if j = 0 then .int .i64 x.pg else if j = 1 then .string x.b else if j = 2 then .int .i64 (x.held : Int) else if j = 3 then .bool x.di else .bool x.us
def frL (x : Frm) : List Value := [.int .i64 x.pg, .string x.b, .int .i64 (x.held : Int), .bool x.di, .bool x.us]
def frG (f : List Frm) : Nat → Nat → Value := fun i j => frV (frA f i) j
theorem frV_one (x : Frm) (j : Nat) : (frV x j).oneCell' = true := by
  unfold frV
  split
  · rfl
  · split
    · rfl
    · split
      · rfl
      · split <;> rfl
theorem frL_one (x : Frm) : ∀ v ∈ frL x, v.oneCell' = true := by
  intro v hv
  unfold frL at hv
  simp only [List.mem_cons, List.not_mem_nil, or_false] at hv
  rcases hv with rfl | rfl | rfl | rfl | rfl <;> rfl
theorem frG_row (f : List Frm) (k : Nat) : rowCells 5 (frG f) k ++ frL (frA f k) = rowCells 5 (frG f) (k + 1) := rowCells_succ (by omega) (frG f) k (frL (frA f k)) rfl (fun j hj => by
  rcases j with _ | _ | _ | _ | _ | j
  · rfl
  · rfl
  · rfl
  · rfl
  · rfl
  · omega)
abbrev FRow (base : Nat) (f : List Frm) (v : Value) (u : World) : Prop := GRow 44 5 base f.length (frG f) v u
/-- the document's pool in block R, its store in block Q -/
structure RPl (base Q R : Nat) (p : Plt) (u : World) : Prop where
  st : RSh base Q p.x u
  box : ∃ v, u.heap[R]? = some (.cells #[.pointer (some ⟨Q, 0, none⟩), v, .int .i64 (p.hand : Int)] 42 (0, 0)) ∧ FRow base p.f v u ∧ v.ownBlock ≠ some R ∧ (∀ k, v.ownBlock = some k → ¬ Rs Q u k)
  ap : ¬ Rs Q u R
  lo : base ≤ R
section
variable {base Q R : Nat} {p p2 : Plt} {u u2 : World}
theorem RPl.lt (h : RPl base Q R p u) : R < u.heap.size := by
  obtain ⟨_, e, _⟩ := h.box
  exact lt_of_block e
theorem rs_same (h : u2.heap[Q]? = u.heap[Q]?) {j : Nat} (hj : Rs Q u2 j) : Rs Q u j := by
  rcases hj with rfl | ⟨m, v1, v2, e, b, e2, hv⟩
  · exact .inl rfl
  · exact .inr ⟨m, v1, v2, e, b, by rw [← h]; exact e2, hv⟩
theorem RPl.below (h : RPl base Q R p u) (k : Below u.heap.size u u2) : RPl base Q R p u2 := by
  obtain ⟨v, e, hf, n1, n2⟩ := h.box
  have hq := k.block Q h.st.lt
  exact ⟨h.st.below k, ⟨v, (k.block _ (lt_of_block e)).trans e, hf.below k, n1, fun j hj hr => n2 j hj (rs_same hq hr)⟩, fun hr => h.ap (rs_same hq hr), h.lo⟩
/-- the pool's own blocks -/
def Rp (Q R : Nat) (u : World) (k : Nat) : Prop := k = R ∨ Rs Q u k ∨ ∃ q v h, u.heap[R]? = some (.cells #[q, v, h] 42 (0, 0)) ∧ v.ownBlock = some k
theorem RPl.rlt (h : RPl base Q R p u) {k : Nat} (hk : Rp Q R u k) : base ≤ k ∧ k < u.heap.size := by
  obtain ⟨v, e, hf, _⟩ := h.box
  rcases hk with rfl | hk | ⟨q, v2, hd, e2, hv⟩
  · exact ⟨h.lo, lt_of_block e⟩
  · exact h.st.rlt hk
  · rw [e] at e2
    simp only [Option.some.injEq, Obj.cells.injEq, and_true, true_and] at e2
    obtain rfl : v = v2 := by injection e2 with e2; injection e2 with _ e2; injection e2
    exact hf.lo k hv
/-- what is done elsewhere leaves it -/
theorem RPl.kept {S : Nat → Bool} (h : RPl base Q R p u) (hS : ∀ k, Rp Q R u k → S k = false) (k : KpS S u u2) : RPl base Q R p u2 ∧ ∀ j, Rp Q R u2 j → Rp Q R u j := by
  obtain ⟨v, e, hf, n1, n2⟩ := h.box
  obtain ⟨hs, hr⟩ := h.st.kept (fun j hj => hS j (.inr (.inl hj))) k
  have eq := k.blk (lt_of_block e) (hS R (.inl rfl))
  refine ⟨⟨hs, ⟨v, eq.trans e, hf.kept S (fun b hb => hS b (.inr (.inr ⟨_, _, _, e, hb⟩))) k, n1, fun j hj h9 => n2 j hj (hr j h9)⟩, fun h9 => h.ap (hr _ h9), h.lo⟩, fun j hj => ?_⟩
  rcases hj with rfl | hj | ⟨q, v2, hd, e2, hv⟩
  · exact .inl rfl
  · exact .inr (.inl (hr j hj))
  · exact .inr (.inr ⟨q, v2, hd, by rw [← eq]; exact e2, hv⟩)
end
end Go.Proofs.YtmflkkkbahghgaaGreat
namespace Go.Proofs.YtmflkkkbahghgaaGreat
open Go.RowKit
set_option linter.unusedVariables false
set_option maxRecDepth 100000

theorem rneed_any (x : Int) (hx : -9223372036854775808 ≤ x ∧ x ≤ 9223372036854775807) (w : World) : Calls Tryz.prog 98 #[.int .i64 x] w fun e w' => e = .returned (.int .i64 (needR x)) ∧ w' = w := by
  by_cases h : x < 1
  · have E : Hid (needR x = 0) := Lib.hid (by unfold needR; rw [if_pos h])
    have d : decide (x < 1) = true := by simp [h]
    go_enter Tryz.func98, Tryz.ntmps98
    go_wp2_with fail
    go_ret
    exact ⟨by rw [E.out]; rfl, rfl⟩
  · obtain ⟨m, rfl⟩ : ∃ m : Nat, x = (m : Int) + 1 := ⟨(x - 1).toNat, by omega⟩
    have E : Hid (needR ((m : Int) + 1) = (m : Int) / 116 + 1) := Lib.hid (by unfold needR; rw [if_neg h]; congr 2; omega)
    have d : decide ((m : Int) + 1 < 1) = false := by simp; omega
    have e0 : (m : Int) + 1 - 1 = m := by omega
    clear h
    go_enter Tryz.func98, Tryz.ntmps98
    go_wp2_with fail
    go_ret
    exact ⟨by rw [E.out]; rfl, rfl⟩


end Go.Proofs.YtmflkkkbahghgaaGreat
namespace Go.Proofs.YtmflkkkbahghgaaGreat
open Go.RowKit Go.Deep
set_option linter.unusedVariables false
set_option linter.unusedSimpArgs false
set_option maxRecDepth 100000

section
variable {base Q : Nat} {x : Stt} {l : List Slt} {v : Value} {u : World}
set_option maxHeartbeats 1600000 in
theorem rthere_any (h : SRow base l v u) (hl : l.length ≤ 512) : Calls Tryz.prog 157 #[v] u fun r u' => r = .returned (.int .i64 (thereS l : Int)) ∧ u' = u := by
  obtain ⟨a, c, rfl⟩ := h.form
  have R := Lib.hid h
  clear h
  go_enter Tryz.func157, Tryz.ntmps157
  go_wp2_with fail
  go_loopw [3, 4] (fun m i wr => ∃ j : Nat, j ≤ l.length ∧ i = .int .i64 j ∧ m = .int .i64 (cntB (isS l) j : Int) ∧ wr = u) (fun _ i _ => l.length - (intOf i).toNat)
  case atStart => exact ⟨0, Nat.zero_le _, rfl, rfl, rfl⟩
  case round =>
    obtain ⟨j, hj, rfl, rfl, hw⟩ := hrel
    rw [hw]
    clear hw wr
    have hle := cntB_le (isS l) j
    by_cases hlt : j < l.length
    · have hj1 : (j : Int) < (l.length : Int) := by omega
      have hj2 : (0 : Int) ≤ (j : Int) := by omega
      have d1 : decide ((j : Int) < (l.length : Int)) = true := by simp [hlt]
      obtain ⟨_, b, ha, _, x1, _⟩ := R.out.look hlt
      subst ha
      by_cases hz : isS l j = true
      · have E : Hid (cntB (isS l) (j + 1) = cntB (isS l) j + 1) := Lib.hid (by simp only [cntB]; rw [if_pos hz])
        rw [show (slA l j).is = true from hz] at x1
        generalize cntB (isS l) j = m at *
        go_wp2_with fail
        go_roundw
        case rel => exact ⟨j + 1, hlt, by go_num, by rw [E.out]; go_num, trivial⟩
        case measure => simp [intOf]; omega
      · have E : Hid (cntB (isS l) (j + 1) = cntB (isS l) j) := Lib.hid (by simp only [cntB]; rw [if_neg hz]; rfl)
        rw [show (slA l j).is = false by simpa [isS] using hz] at x1
        generalize cntB (isS l) j = m at *
        go_wp2_with fail
        go_roundw
        case rel => exact ⟨j + 1, hlt, by go_num, by rw [E.out], trivial⟩
        case measure => simp [intOf]; omega
    · have hj9 : j = l.length := by omega
      have E : Hid (cntB (isS l) j = thereS l) := Lib.hid (by rw [hj9]; rfl)
      have d1 : decide ((j : Int) < (l.length : Int)) = false := decide_eq_false (by omega)
      clear hj9
      go_wp2_with fail
      go_ret
      exact ⟨by rw [E.out]; rfl, rfl⟩
theorem RSh.cells (h : RSh base Q x u) : ∃ a1 c1 a2 c2, u.cell? ⟨Q, 0, none⟩ = some (.int .i64 x.many) ∧ u.cell? ⟨Q, 1, none⟩ = some (.slice a1 x.now.length c1) ∧ u.cell? ⟨Q, 2, none⟩ = some (.slice a2 x.old.length c2) ∧ u.cell? ⟨Q, 3, none⟩ = some (.int .i64 x.ep) ∧ SRow base x.now (.slice a1 x.now.length c1) u ∧ SRow base x.old (.slice a2 x.old.length c2) u ∧ u.frozen? ⟨Q, 1, none⟩ = false ∧ u.frozen? ⟨Q, 2, none⟩ = false ∧ u.frozen? ⟨Q, 3, none⟩ = false ∧ u.heap[Q]? = some (.cells #[.int .i64 x.many, .slice a1 x.now.length c1, .slice a2 x.old.length c2, .int .i64 x.ep, .bool false] 50 (0, 0)) ∧ (Value.slice a1 x.now.length c1).ownBlock ≠ some Q ∧ (Value.slice a2 x.old.length c2).ownBlock ≠ some Q := by
  obtain ⟨v1, v2, e, h1, h2, n1, n2⟩ := h.box
  obtain ⟨a1, c1, rfl⟩ := h1.form
  obtain ⟨a2, c2, rfl⟩ := h2.form
  refine ⟨a1, c1, a2, c2, ?_, ?_, ?_, ?_, h1, h2, Lib.frozen_of_heap e 1, Lib.frozen_of_heap e 2, Lib.frozen_of_heap e 3, e, n1, n2⟩
  all_goals (rw [Lib.cell_of_heap e]; rfl)
set_option maxHeartbeats 1600000 in
theorem rat14_any (h : RSh base Q x u) (hl : x.now.length ≤ 512) (i : Int) : Calls Tryz.prog 74 #[.pointer (some ⟨Q, 0, none⟩), .int .i64 i] u fun r u' => r = .returned (.bool (decide (inS x.now i))) ∧ u' = u := by
  obtain ⟨a1, c1, a2, c2, x0, x1, x2, x3, h1, h2, _⟩ := h.cells
  have R := Lib.hid h1
  clear h h1 h2 x0 x2 x3
  go_enter Tryz.func74, Tryz.ntmps74
  by_cases i0 : 0 ≤ i
  · obtain ⟨k, rfl⟩ : ∃ k : Nat, i = (k : Int) := ⟨i.toNat, by omega⟩
    have d0 : decide ((0 : Int) ≤ (k : Int)) = true := by simp
    by_cases hk : k < x.now.length
    · have hk1 : (k : Int) < (x.now.length : Int) := by omega
      have d1 : decide ((k : Int) < (x.now.length : Int)) = true := by simp [hk]
      have E : Hid (decide (inS x.now (k : Int)) = (slA x.now k).is) := Lib.hid (by
        by_cases c : (slA x.now k).is = true
        · rw [c]; exact decide_eq_true ⟨by omega, by rw [Int.toNat_natCast]; exact c⟩
        · rw [show (slA x.now k).is = false by simpa using c]
          exact decide_eq_false (fun h => by have := h.2; rw [Int.toNat_natCast] at this; exact c this))
      obtain ⟨_, b, ha, _, y1, _⟩ := R.out.look hk
      subst ha
      go_wp2_with fail
      go_ret
      exact ⟨by rw [E.out]; rfl, rfl⟩
    · have d1 : decide ((k : Int) < (x.now.length : Int)) = false := decide_eq_false (by omega)
      have E : Hid (decide (inS x.now (k : Int)) = false) := Lib.hid (decide_eq_false (by
        unfold inS
        rw [Int.toNat_natCast, isS_out (by omega)]
        simp))
      go_wp2_with fail
      go_ret
      exact ⟨by rw [E.out]; rfl, rfl⟩
  · have d0 : decide ((0 : Int) ≤ i) = false := decide_eq_false i0
    have E : Hid (decide (inS x.now i) = false) := Lib.hid (decide_eq_false (fun h => i0 h.1))
    go_wp2_with fail
    go_ret
    exact ⟨by rw [E.out]; rfl, rfl⟩
set_option maxHeartbeats 1600000 in
theorem rfresh14_any (h : RSh base Q x u) (hl : x.now.length ≤ 512) : Calls Tryz.prog 123 #[.pointer (some ⟨Q, 0, none⟩)] u fun r u' => r = .returned (.int .i64 (freshS x.now : Int)) ∧ u' = u := by
  obtain ⟨a1, c1, a2, c2, x0, x1, x2, x3, h1, h2, _⟩ := h.cells
  have R := Lib.hid h1
  clear h h1 h2 x0 x2 x3
  go_enter Tryz.func123, Tryz.ntmps123
  go_wp2_with fail
  go_loopw [3, 4] (fun m i wr => ∃ j : Nat, j ≤ x.now.length ∧ i = .int .i64 j ∧ m = .int .i64 (cntB (newS x.now) j : Int) ∧ wr = u) (fun _ i _ => x.now.length - (intOf i).toNat)
  case atStart => exact ⟨0, Nat.zero_le _, rfl, rfl, rfl⟩
  case round =>
    obtain ⟨j, hj, rfl, rfl, hw⟩ := hrel
    rw [hw]
    clear hw wr
    have hle := cntB_le (newS x.now) j
    by_cases hlt : j < x.now.length
    · have hj1 : (j : Int) < (x.now.length : Int) := by omega
      have hj2 : (0 : Int) ≤ (j : Int) := by omega
      have d1 : decide ((j : Int) < (x.now.length : Int)) = true := by simp [hlt]
      obtain ⟨_, b, ha, _, y1, y2, _⟩ := R.out.look hlt
      subst ha
      have E0 : Hid (newS x.now j = ((slA x.now j).is && (slA x.now j).fr)) := Lib.hid rfl
      have E9 : Hid (cntB (newS x.now) (j + 1) = cntB (newS x.now) j + (if newS x.now j then 1 else 0)) := Lib.hid rfl
      generalize cntB (newS x.now) j = m at *
      generalize (slA x.now j).is = p at *
      generalize (slA x.now j).fr = q at *
      rcases p with _ | _
      · have E : Hid (cntB (newS x.now) (j + 1) = m) := Lib.hid (by rw [E9.out, E0.out]; rfl)
        go_wp2_with fail
        go_roundw
        case rel => exact ⟨j + 1, hlt, by go_num, by rw [E.out], trivial⟩
        case measure => simp [intOf]; omega
      · rcases q with _ | _
        · have E : Hid (cntB (newS x.now) (j + 1) = m) := Lib.hid (by rw [E9.out, E0.out]; rfl)
          go_wp2_with fail
          go_roundw
          case rel => exact ⟨j + 1, hlt, by go_num, by rw [E.out], trivial⟩
          case measure => simp [intOf]; omega
        · have E : Hid (cntB (newS x.now) (j + 1) = m + 1) := Lib.hid (by rw [E9.out, E0.out]; rfl)
          go_wp2_with fail
          go_roundw
          case rel => exact ⟨j + 1, hlt, by go_num, by rw [E.out]; go_num, trivial⟩
          case measure => simp [intOf]; omega
    · have hj9 : j = x.now.length := by omega
      have E : Hid (cntB (newS x.now) j = freshS x.now) := Lib.hid (by rw [hj9]; rfl)
      have d1 : decide ((j : Int) < (x.now.length : Int)) = false := decide_eq_false (by omega)
      clear hj9
      go_wp2_with fail
      go_ret
      exact ⟨by rw [E.out]; rfl, rfl⟩
end

end Go.Proofs.YtmflkkkbahghgaaGreat
