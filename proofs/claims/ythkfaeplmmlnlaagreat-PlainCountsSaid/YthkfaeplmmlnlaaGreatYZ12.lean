/- append, to a row of the call's own, of a slice of whatever length (of none, too), told by its elements: at a drawn region's step, and in a plain region. The plain simulation's states, events and what was handled as cells. The program's plain simulation in memory: a struct, a map and a row of states in blocks of their own, which are written again and again, beside what stays. The contracts of the program's Copy, isProcess, isCount, delayOf. -/
import Derived.Laws.IdiomCopy
import Derived.Test.YthkfaeplmmlnlaaGreatYZ7
import Derived.Test.YthkfaeplmmlnlaaGreatYZ11
import Derived.Test.YthkfaeplmmlnlaaGreatYZ10
namespace Go.Proofs.YthkfaeplmmlnlaaGreat
open Go.RowKit Go.Deep
set_option linter.unusedVariables false
set_option maxRecDepth 100000

theorem row_cells_one {C : Nat} {g : Nat → Nat → Value} {m : Nat} (hC : 0 < C) (h1 : ∀ i, i < m → ∀ j, j < C → (g i j).oneCell' = true) : ∀ u ∈ rowCells C g m, u.oneCell' = true := fun u hu => by
  obtain ⟨j, hj, rfl⟩ := List.mem_iff_getElem.1 hu
  obtain ⟨q1, q2, q3, e⟩ := rowCells_of hC g (List.getElem?_eq_getElem hj)
  rw [e]
  exact h1 _ q2 _ q3
theorem own_form {w : World} {b : Nat} {E : TypeId} {C n : Nat} {v : Value} {xs : List Value} (h : w.ownsRow b E C v n xs) : ∃ a c, v = .slice a n c ∧ n ≤ c := by
  rcases h.2 with ⟨rfl, h0⟩ | ⟨g, cap, cur, rfl, _, _, h3, _⟩
  · exact ⟨none, 0, by rw [h0], by omega⟩
  · exact ⟨_, cap, rfl, h3⟩
theorem rowCells_append (C : Nat) (hC : 0 < C) (g h : Nat → Nat → Value) (n k : Nat) : rowCells C g n ++ rowCells C h k = rowCells C (fun i => if i < n then g i else h (i - n)) (n + k) := by
  apply List.ext_getElem?
  intro q
  by_cases h1 : q < n * C
  · rw [List.getElem?_append_left (by rw [rowCells_len]; exact h1)]
    have hi : q / C < n := (Nat.div_lt_iff_lt_mul hC).2 h1
    have e : q / C * C + q % C = q := by rw [Nat.mul_comm]; exact Nat.div_add_mod q C
    have a := rowCells_at g (i := q / C) (j := q % C) hi (Nat.mod_lt _ hC)
    have b := rowCells_at (fun i => if i < n then g i else h (i - n)) (n := n + k) (i := q / C) (j := q % C) (by omega) (Nat.mod_lt _ hC)
    rw [e] at a b
    rw [a, b, if_pos hi]
  · rw [List.getElem?_append_right (by rw [rowCells_len]; omega), rowCells_len]
    by_cases h2 : q < (n + k) * C
    · have hq : q - n * C < k * C := by rw [Nat.add_mul] at h2; omega
      have hi : (q - n * C) / C < k := (Nat.div_lt_iff_lt_mul hC).2 hq
      have e1 : q / C = (q - n * C) / C + n := by
        conv => lhs; rw [show q = (q - n * C) + n * C by omega]
        exact Nat.add_mul_div_right _ _ hC
      have e2 : q % C = (q - n * C) % C := by
        conv => lhs; rw [show q = (q - n * C) + n * C by omega]
        exact Nat.add_mul_mod_self_right _ _ _
      have e3 : (q - n * C) / C * C + (q - n * C) % C = q - n * C := by rw [Nat.mul_comm]; exact Nat.div_add_mod _ C
      have e : q / C * C + q % C = q := by rw [Nat.mul_comm]; exact Nat.div_add_mod q C
      have a := rowCells_at h (i := (q - n * C) / C) (j := (q - n * C) % C) hi (Nat.mod_lt _ hC)
      have hi3 : q / C < n + k := (Nat.div_lt_iff_lt_mul hC).2 h2
      have hi4 : ¬ q / C < n := fun hh => h1 ((Nat.div_lt_iff_lt_mul hC).1 hh)
      have b := rowCells_at (fun i => if i < n then g i else h (i - n)) (n := n + k) (i := q / C) (j := q % C) hi3 (Nat.mod_lt _ hC)
      rw [e3] at a
      rw [e] at b
      rw [a, b, e2, if_neg hi4, e1, Nat.add_sub_cancel]
    · rw [List.getElem?_eq_none (by rw [rowCells_len]; rw [Nat.add_mul] at h2; omega), List.getElem?_eq_none (by rw [rowCells_len]; omega)]
theorem rowCells_congr {C : Nat} (hC : 0 < C) {g h : Nat → Nat → Value} {n : Nat} (e : ∀ i, i < n → ∀ j, j < C → g i j = h i j) : rowCells C g n = rowCells C h n := by
  unfold rowCells
  refine List.map_congr_left fun k hk => ?_
  rw [List.mem_range] at hk
  exact e _ ((Nat.div_lt_iff_lt_mul hC).2 hk) _ (Nat.mod_lt _ hC)
theorem grown_self (w : World) (row : Option Nat) : w.grownBy w row := ⟨rfl, rfl, rfl, Nat.le_refl _, fun _ _ _ => rfl⟩
section
variable {P : Program} {ops : Array Oper} {o : Oper} {a : Act} {w : World} {K : Act → World → Prop} {Q : Exit → Act → World → Prop}
theorem src_none {size : Nat} {t : TypeId} {e : TypeId} (ht : P.underlying t = some (.slice e)) (ax : Option Addr) (c : Nat) : Src P size t (.slice ax 0 c) 0 [] w := by
  cases ax with
  | none => exact Src.ofNil _ ht c
  | some ad => exact Src.ofSlice _ ht ad 0 c [] (by simp) (by simp) (by simp)
theorem step_append_any {E : Prop} (hgd : o.guard = none) (s x : Operand) (t : TypeId) (ho : o.op = .call { callee := .builtin .append, args := #[s, x], argTypes := #[t, t] })
    (base : Nat) (e : TypeId) (i : TypeInfo) (z : Value) (size bytes : Nat) (ht : P.underlying t = some (.slice e)) (hi : P.info? e = some i) (hz : i.zero = some z)
    (hsize : i.size = size) (hby : i.bytes = bytes) (hzs : z.cells.size = size) (hsz : 0 < size)
    (v : Value) (n : Nat) (xs : List Value) (hs : a.eval s = v) (hown : w.ownsRow base e size v n xs)
    (g : Nat → Nat → Value) (m : Nat) (vx : Value) (hx : a.eval x = vx) (hsl : Sl size g m vx w) (h1 : ∀ i, i < m → ∀ j, j < size → (g i j).oneCell' = true)
    (h63 : n + m ≤ maxLen) (hbytes : (n + m) * bytes ≤ 140737488355328) (hbase : base ≤ w.heap.size)
    (N : Nat) (hN : n + m = N) (h : ∀ a' c' w', w'.ownsRow base e size (.slice a' N c') N (xs ++ rowCells size g m) → w.grownBy w' v.ownBlock → K (a.put o.dst (.slice a' N c')) w') :
    if Region.wanted o (yielded ops a.tmps) = true then Oper.wp P o a w K Q else E := by
  subst hN
  obtain ⟨ax, cx, rfl, hx1, hx2, hx3⟩ := hsl
  rcases Nat.eq_zero_or_pos m with hm | hm
  · subst hm
    obtain ⟨av, cv, rfl, hc⟩ := own_form hown
    refine step_append_nothing7 hgd s x t ho e i ht hi av n cv hs hc _ hx (src_none ht ax cx) ?_
    refine h av cv w ?_ (grown_self w _)
    rw [rowCells_zero, List.append_nil, Nat.add_zero]
    exact hown
  · obtain ⟨b, off, rfl, hA⟩ := hx3 hm
    refine step_append_lies w hgd s x t ho base e i z size bytes ht hi hz hsize hby hzs hsz v n xs hs hown ⟨b, off, none⟩ m cx (rowCells size g m) hx (rowCells_len _ _ _) (at_newsC hsz hA) (row_cells_one hsz h1) hm h63 hbytes hbase _ rfl ?_
    intro g9 cap9 w10 hown10 hgr _ _
    exact h _ _ _ hown10 hgr
theorem wpList_append_any {rest : List Oper} (hgd : o.guard = none) (s x : Operand) (t : TypeId) (ho : o.op = .call { callee := .builtin .append, args := #[s, x], argTypes := #[t, t] })
    (base : Nat) (e : TypeId) (i : TypeInfo) (z : Value) (size bytes : Nat) (ht : P.underlying t = some (.slice e)) (hi : P.info? e = some i) (hz : i.zero = some z)
    (hsize : i.size = size) (hby : i.bytes = bytes) (hzs : z.cells.size = size) (hsz : 0 < size)
    (v : Value) (n : Nat) (xs : List Value) (hs : a.eval s = v) (hown : w.ownsRow base e size v n xs)
    (g : Nat → Nat → Value) (m : Nat) (vx : Value) (hx : a.eval x = vx) (hsl : Sl size g m vx w) (h1 : ∀ i, i < m → ∀ j, j < size → (g i j).oneCell' = true)
    (h63 : n + m ≤ maxLen) (hbytes : (n + m) * bytes ≤ 140737488355328) (hbase : base ≤ w.heap.size)
    (N : Nat) (hN : n + m = N) (h : ∀ a' c' w', w'.ownsRow base e size (.slice a' N c') N (xs ++ rowCells size g m) → w.grownBy w' v.ownBlock → wpList P ops Q rest (a.put o.dst (.slice a' N c')) w') : wpList P ops Q (o :: rest) a w := by
  subst hN
  obtain ⟨ax, cx, rfl, hx1, hx2, hx3⟩ := hsl
  rcases Nat.eq_zero_or_pos m with hm | hm
  · subst hm
    obtain ⟨av, cv, rfl, hc⟩ := own_form hown
    refine wpList_append_nothing7 hgd s x t ho e i ht hi av n cv hs hc _ hx (src_none ht ax cx) ?_
    refine h av cv w ?_ (grown_self w _)
    rw [rowCells_zero, List.append_nil, Nat.add_zero]
    exact hown
  · obtain ⟨b, off, rfl, hA⟩ := hx3 hm
    refine wpList_append_own w hgd s x t ho base e i z size bytes ht hi hz hsize hby hzs hsz v n xs hs hown ⟨b, off, none⟩ m cx (rowCells size g m) hx (rowCells_len _ _ _) (at_newsC hsz hA) (row_cells_one hsz h1) h63 hbytes hbase ?_
    intro v' w' hown' hgr _
    obtain ⟨av, cv, rfl, _⟩ := own_form hown'
    exact h _ _ _ hown' hgr
end

end Go.Proofs.YthkfaeplmmlnlaaGreat
namespace Go.Proofs.YthkfaeplmmlnlaaGreat
open Go.RowKit Go.Deep
set_option linter.unusedVariables false
set_option maxRecDepth 100000

def zE : Evn := ⟨0, 0, 0, 0, 0⟩
def evF (W : List Evn) : Nat → Evn := fun i => W.getD i zE
/-- states' cells: g: where each one's words lie -/
def gT (S : Nat → Sta) (g : Nat → Value) : Nat → Nat → Value := fun i j => match j with
  | 0 => g i
  | 1 => .int .i64 (S i).sent
  | _ => .int .i64 (S i).dice
/-- what was handled -/
structure Dn where
  e : Evn
  f : Int
def gD (D : Nat → Dn) : Nat → Nat → Value := fun i j => match j with
  | 0 => .float .f64 (D i).e.t
  | 1 => .int .i64 (D i).e.src
  | 2 => .int .i64 (D i).e.n
  | 3 => .int .i64 (D i).e.dst
  | 4 => .int .i64 (D i).e.pay
  | _ => .int .i64 (D i).f
def StsAt (S : Nat → Sta) (n : Nat) (v : Value) (u : World) : Prop := ∃ g, Sl 3 (gT S g) n v u ∧ ∀ k, k < n → Sl 1 (gW (S k).w) (S k).nw (g k) u
theorem StsAt.below {S : Nat → Sta} {n : Nat} {v : Value} {u u2 : World} (h : StsAt S n v u) (k : Below u.heap.size u u2) : StsAt S n v u2 := by
  obtain ⟨g, h1, h2⟩ := h
  exact ⟨g, h1.below k, fun i hi => (h2 i hi).below k⟩

end Go.Proofs.YthkfaeplmmlnlaaGreat
namespace Go.Proofs.YthkfaeplmmlnlaaGreat
open Go.RowKit Go.Deep Go.Maps
set_option linter.unusedVariables false
set_option maxRecDepth 100000

/-- the world with the blocks of S hidden -/
def HdS (S : Nat → Bool) (w : World) : World := { w with heap := w.heap.mapIdx fun i o => if S i then .finalizers #[] none else o }
theorem HdS.size (S : Nat → Bool) (w : World) : (HdS S w).heap.size = w.heap.size := by simp [HdS]
theorem HdS.block (S : Nat → Bool) (k : Nat) (w : World) : (HdS S w).heap[k]? = (w.heap[k]?).map (fun o => if S k then Obj.finalizers #[] none else o) := by
  simp only [HdS, Array.getElem?_mapIdx]
theorem HdS.other {S : Nat → Bool} {k : Nat} (w : World) (h : S k = false) : (HdS S w).heap[k]? = w.heap[k]? := by
  rw [HdS.block, h]
  cases w.heap[k]? <;> rfl
theorem HdS.hid {S : Nat → Bool} {k : Nat} {w w2 : World} (h : S k = true) (h1 : k < w.heap.size) (h2 : k < w2.heap.size) : (HdS S w2).heap[k]? = (HdS S w).heap[k]? := by
  rw [HdS.block, HdS.block, h, Array.getElem?_eq_getElem h1, Array.getElem?_eq_getElem h2]; rfl
theorem HdS.cells {S : Nat → Bool} {k : Nat} {w : World} {c : Array Value} {t : TypeId} {f : Nat × Nat} (h : (HdS S w).heap[k]? = some (.cells c t f)) : S k = false ∧ w.heap[k]? = some (.cells c t f) := by
  cases e : S k with
  | false => exact ⟨rfl, by rwa [HdS.other w e] at h⟩
  | true =>
    rw [HdS.block, e] at h
    cases hw : w.heap[k]? with
    | none => rw [hw] at h; cases h
    | some o => rw [hw] at h; simp at h
theorem HdS.cell {S : Nat → Bool} {w : World} {a : Addr} {v : Value} (h : (HdS S w).cell? a = some v) : w.cell? a = some v := by
  obtain ⟨c, t, f, e⟩ := cell_block h
  obtain ⟨h1, h2⟩ := HdS.cells e
  rw [← h]
  exact World.cell?_of_block (by rw [e, h2])
theorem HdS.below {S : Nat → Bool} {B : Nat} {w w2 : World} (h : Below B w w2) : Below B (HdS S w) (HdS S w2) :=
  ⟨h.os, h.tape, h.output, by rw [HdS.size, HdS.size]; exact h.size, fun k hk => by rw [HdS.block, HdS.block, h.block k hk]⟩
theorem HdS.below2 {S S2 : Nat → Bool} {B : Nat} {w w2 : World} (h : Below B w w2) (e : ∀ k, k < B → S2 k = S k) : Below B (HdS S w) (HdS S2 w2) :=
  ⟨h.os, h.tape, h.output, by rw [HdS.size, HdS.size]; exact h.size, fun k hk => by rw [HdS.block, HdS.block, h.block k hk, e k hk]⟩
/-- a row of the call's own, apart from what is hidden -/
theorem own_hdS {S : Nat → Bool} {u : World} {b : Nat} {E : TypeId} {C n : Nat} {v : Value} {xs : List Value} (h : u.ownsRow b E C v n xs) (hne : ∀ g, v.ownBlock = some g → S g = false) : (HdS S u).ownsRow b E C v n xs :=
  own_kept h fun g hg => HdS.other _ (hne g hg)
theorem Sl.hds {S : Nat → Bool} {u : World} {C n : Nat} {g : Nat → Nat → Value} {v : Value} (h : Sl C g n v (HdS S u)) : Sl C g n v u := by
  obtain ⟨a, c, e, h1, h2, h3⟩ := h
  refine ⟨a, c, e, h1, h2, fun h0 => ?_⟩
  obtain ⟨b, o, e2, h4, h5⟩ := h3 h0
  exact ⟨b, o, e2, by rw [HdS.size] at h4; exact h4, fun i hi j hj => HdS.cell (h5 i hi j hj)⟩
theorem MdlAt.hds {S : Nat → Bool} {u : World} {m : Mdl} {vd vp vl vi : Value} (h : MdlAt m vd vp vl vi (HdS S u)) : MdlAt m vd vp vl vi u := by
  obtain ⟨g, p1, p2⟩ := h.p
  obtain ⟨g2, l1, l2⟩ := h.l
  exact ⟨h.d.hds, ⟨g, p1.hds, fun i hi => (p2 i hi).hds⟩, ⟨g2, l1.hds, fun i hi => (l2 i hi).hds⟩, h.i.hds⟩

/-- all but the blocks of S is as it was -/
def KpS (S : Nat → Bool) (w w2 : World) : Prop := Below w.heap.size (HdS S w) (HdS S w2)
theorem KpS.refl (S : Nat → Bool) (w : World) : KpS S w w := Below.refl _ _
theorem KpS.size {S : Nat → Bool} {w w2 : World} (h : KpS S w w2) : w.heap.size ≤ w2.heap.size := by have := Below.size h; rwa [HdS.size, HdS.size] at this
theorem KpS.trans {S : Nat → Bool} {a b c : World} (h : KpS S a b) (k : KpS S b c) : KpS S a c := Below.trans h (Below.mono k h.size)
theorem KpS.of {S : Nat → Bool} {a b : World} (h : Below a.heap.size a b) : KpS S a b := HdS.below h
theorem KpS.on {S : Nat → Bool} {a b c : World} (h : KpS S a b) (k : Below b.heap.size b c) : KpS S a c := h.trans (KpS.of k)
theorem KpS.low {S : Nat → Bool} {a b c : World} (h : KpS S a b) (k : Below a.heap.size b c) : KpS S a c := Below.trans h (HdS.below k)
theorem KpS.hd {S : Nat → Bool} {u u2 : World} (k : KpS S u u2) : Below (HdS S u).heap.size (HdS S u) (HdS S u2) := by rw [HdS.size]; exact k
theorem KpS.blk {S : Nat → Bool} {k : Nat} {a b : World} (h : KpS S a b) (hk : k < a.heap.size) (hne : S k = false) : b.heap[k]? = a.heap[k]? := by
  have := Below.block h k hk
  rwa [HdS.other _ hne, HdS.other _ hne] at this
theorem KpS.mono {S T : Nat → Bool} {a b : World} (h : KpS S a b) (e : ∀ k, S k = true → T k = true) : KpS T a b := by
  have k : Below a.heap.size (HdS S a) (HdS S b) := h
  refine ⟨k.os, k.tape, k.output, by rw [HdS.size, HdS.size]; exact h.size, fun i hi => ?_⟩
  cases c : T i with
  | true => exact HdS.hid c hi (Nat.lt_of_lt_of_le hi h.size)
  | false =>
    rw [HdS.other _ c, HdS.other _ c]
    refine h.blk hi ?_
    cases c2 : S i with
    | false => rfl
    | true => rw [e i c2] at c; cases c
theorem KpS.bot {S : Nat → Bool} {B : Nat} {a b : World} (h : KpS S a b) (hB : B ≤ a.heap.size) (ht : ∀ k, k < B → S k = false) : Below B a b := by
  have k : Below a.heap.size (HdS S a) (HdS S b) := h
  exact ⟨k.os, k.tape, k.output, h.size, fun i hi => h.blk (by omega) (ht i hi)⟩
theorem KpS.grown {S : Nat → Bool} {b : Nat} {w w2 : World} (h : w.grownBy w2 (some b)) (hb : S b = true) : KpS S w w2 := by
  refine ⟨h.os, h.tape, h.output, by rw [HdS.size, HdS.size]; exact h.size, fun k hk => ?_⟩
  by_cases e : k = b
  · subst e; exact HdS.hid hb hk (Nat.lt_of_lt_of_le hk h.size)
  · rw [HdS.block, HdS.block, h.block k hk (fun e2 => e (by injection e2))]
theorem KpS.set {S : Nat → Bool} {b : Nat} (hb : S b = true) (o : Nat) (v : Value) (w : World) : KpS S w (w.setCell ⟨b, o, none⟩ v) := by
  refine ⟨rfl, rfl, rfl, by rw [HdS.size, HdS.size, World.size_setCell]; exact Nat.le_refl _, fun k hk => ?_⟩
  by_cases e : k = b
  · subst e; exact HdS.hid hb hk (by rw [World.size_setCell]; exact hk)
  · rw [HdS.block, HdS.block, Below.heap_setCell _ _ _ _ e]
theorem KpS.sets {S : Nat → Bool} {b : Nat} (hb : S b = true) : ∀ (l : List Value) (o : Nat) (w : World), KpS S w (w.setCells b o l)
  | [], _, w => KpS.refl S w
  | v :: l, o, w => (KpS.set hb o v w).trans (KpS.sets hb l (o + 1) _)

/-- the states' row -/
structure StRow (bs : Nat) (G : Nat → Nat → Value) (n : Nat) (v : Value) (u : World) : Prop where
  v : ∃ c, v = .slice (some ⟨bs, 0, none⟩) n c ∧ n ≤ c ∧ c ≤ 9223372036854775807
  b : ∃ cs, u.heap[bs]? = some (.cells cs 55 (0, 0))
  c : ∀ i, i < n → ∀ j, j < 3 → u.cell? ⟨bs, i * 3 + j, none⟩ = some (G i j)
theorem StRow.kept {bs n : Nat} {G : Nat → Nat → Value} {v : Value} {u u2 : World} (h : StRow bs G n v u) (e : u2.heap[bs]? = u.heap[bs]?) : StRow bs G n v u2 :=
  ⟨h.v, by rw [e]; exact h.b, fun i hi j hj => by have := h.c i hi j hj; rw [← this]; exact World.cell?_of_block e⟩
theorem StRow.of {base n : Nat} {G : Nat → Nat → Value} {v : Value} {u : World} (h : u.ownsRow base 55 3 v n (rowCells 3 G n)) (hn : 0 < n) : ∃ bs, base ≤ bs ∧ v.ownBlock = some bs ∧ StRow bs G n v u := by
  have hs := own_sl h
  rcases h.2 with ⟨_, h0⟩ | ⟨g, cap, cur, rfl, h1, h2, h3, h4, h5, h6⟩
  · omega
  · obtain ⟨a, c, e, s1, s2, s3⟩ := hs
    simp only [Value.slice.injEq, true_and] at e
    obtain ⟨rfl, rfl⟩ := e
    obtain ⟨b, o, e2, hA⟩ := s3 hn
    simp only [Option.some.injEq, Addr.mk.injEq, and_true] at e2
    obtain ⟨rfl, rfl⟩ := e2
    refine ⟨g, h1, rfl, ⟨_, rfl, s1, s2⟩, ⟨_, h2⟩, fun i hi j hj => ?_⟩
    have := hA.2 i hi j hj
    rwa [Nat.zero_add] at this
theorem StRow.lt {bs n : Nat} {G : Nat → Nat → Value} {v : Value} {u : World} (h : StRow bs G n v u) : bs < u.heap.size := by
  obtain ⟨cs, e⟩ := h.b
  exact lt_of_block e
theorem StRow.set {bs n d : Nat} {G : Nat → Nat → Value} {v : Value} {u : World} (h : StRow bs G n v u) (hd : d < n) (v0 v1 v2 : Value) {G2 : Nat → Nat → Value}
    (h0 : G2 d 0 = v0) (h1 : G2 d 1 = v1) (h2 : G2 d 2 = v2) (ho : ∀ i, i ≠ d → ∀ j, G2 i j = G i j) : StRow bs G2 n v (u.setCells bs (d * 3) [v0, v1, v2]) := by
  obtain ⟨cs, e⟩ := h.b
  refine ⟨h.v, ⟨_, Joins.block_setCell (Joins.block_setCell (Joins.block_setCell e v0) v1) v2⟩, fun i hi j hj => ?_⟩
  by_cases c : i = d
  · subst c
    have := World.cell?_setCells_in bs [v0, v1, v2] (i * 3) u (fun q hq => by rw [h.c i hd q (by simpa using hq)]; rfl) j (by simpa using hj)
    rw [this]
    rcases j with _ | _ | _ | j
    · rw [h0]; rfl
    · rw [h1]; rfl
    · rw [h2]; rfl
    · omega
  · rw [ho i c j]
    have := World.cell?_setCells_out bs [v0, v1, v2] (d * 3) u ⟨bs, i * 3 + j, none⟩ (fun _ _ => by
      show i * 3 + j < d * 3 ∨ d * 3 + 3 ≤ i * 3 + j
      omega)
    rw [this]
    exact h.c i hi j hj

/-- the closure -/
def fvP (bc : Nat) : Value := .func (.func 54) #[] #[.pointer (some ⟨bc, 0, none⟩)]
def pbox (m : Mdl) (vd vp vl vi vS : Value) (bm bc : Nat) (nx nd : Int) : List Value := [.int .i64 m.seed, .float .f64 m.fin, vd, vp, vl, vi, vS, .map (some bm), fvP bc, .int .i64 nx, .int .i64 nd]
/-- the simulation's own blocks -/
def T3 (P bm bs : Nat) : Nat → Bool := fun k => k == P || k == bm || k == bs
/-- the map, and what it holds -/
def MpAt (bm nx : Nat) (W : List Evn) (u : World) : Prop :=
  ∃ D L, u.ownsMap Tryz.prog 3 evR bm nx D ∧ WtIs D L ∧ (L.map (fun p => p.2)).Perm W ∧ ∀ p ∈ L, 0 ≤ p.1 ∧ p.1 < (nx : Int)
theorem MpAt.kept {bm nx : Nat} {W : List Evn} {u u2 : World} (h : MpAt bm nx W u) (e : u2.heap[bm]? = u.heap[bm]?) : MpAt bm nx W u2 := by
  obtain ⟨D, L, ⟨es, ck, h1, h2⟩, h3⟩ := h
  exact ⟨D, L, ⟨es, ck, e.trans h1, h2⟩, h3⟩
theorem MpAt.perm {bm nx : Nat} {W W2 : List Evn} {u : World} (h : MpAt bm nx W u) (p : W.Perm W2) : MpAt bm nx W2 u := by
  obtain ⟨D, L, h1, h2, h3, h4⟩ := h
  exact ⟨D, L, h1, h2, h3.trans p, h4⟩
theorem MpAt.blk {bm nx : Nat} {W : List Evn} {u : World} (h : MpAt bm nx W u) : ∃ es ck, u.heap[bm]? = some (.map es ck) := by
  obtain ⟨D, L, ⟨es, ck, h1, _⟩, _⟩ := h
  exact ⟨es, ck, h1⟩
structure PSim (S : Nat → Bool) (P bm bc bs : Nat) (m : Mdl) (vd vp vl vi vS : Value) (x : Sm) (nx nd : Nat) (u : World) : Prop where
  box : u.heap[P]? = some (.cells (pbox m vd vp vl vi vS bm bc nx nd).toArray 70 (0, 0))
  cap : u.heap[bc]? = some (.cells #[.map (some bm)] 66 (0, 0))
  hP : S P = true
  hm : S bm = true
  hs : S bs = true
  hc : S bc = false
  mdl : MdlAt m vd vp vl vi (HdS S u)
  st : ∃ g, StRow bs (gT x.S g) m.nl vS u ∧ ∀ k, k < m.nl → Sl 1 (gW (x.S k).w) (x.S k).nw (g k) (HdS S u)
  mp : MpAt bm nx x.W u
section
variable {S S2 T : Nat → Bool} {P bm bc bs : Nat} {m : Mdl} {vd vp vl vi vS : Value} {x : Sm} {nx nd nx2 nd2 : Nat} {u u2 : World}
theorem PSim.lt (h : PSim S P bm bc bs m vd vp vl vi vS x nx nd u) : P < u.heap.size ∧ bm < u.heap.size ∧ bs < u.heap.size ∧ bc < u.heap.size := by
  obtain ⟨es, ck, e⟩ := h.mp.blk
  obtain ⟨g, r, _⟩ := h.st
  exact ⟨lt_of_block h.box, (Array.getElem?_eq_some_iff.1 e).1, r.lt, lt_of_block h.cap⟩
theorem PSim.ne (h : PSim S P bm bc bs m vd vp vl vi vS x nx nd u) : P ≠ bm ∧ P ≠ bs ∧ bm ≠ bs ∧ bc ≠ P ∧ bc ≠ bm ∧ bc ≠ bs := by
  obtain ⟨es, ck, e⟩ := h.mp.blk
  obtain ⟨g, r, _⟩ := h.st
  obtain ⟨cs, eb⟩ := r.b
  have h1 := h.box
  have hc := h.hc
  refine ⟨?_, ?_, ?_, ?_, ?_, ?_⟩
  · rintro rfl; rw [e] at h1; cases h1
  · rintro rfl
    rw [eb] at h1
    simp only [Option.some.injEq, Obj.cells.injEq] at h1
    exact absurd h1.2.1 (by decide)
  · rintro rfl; rw [e] at eb; cases eb
  · rintro rfl; rw [h.hP] at hc; cases hc
  · rintro rfl; rw [h.hm] at hc; cases hc
  · rintro rfl; rw [h.hs] at hc; cases hc
theorem PSim.sub (h : PSim S P bm bc bs m vd vp vl vi vS x nx nd u) : ∀ k, T3 P bm bs k = true → S k = true := by
  intro k hk
  unfold T3 at hk
  simp only [Bool.or_eq_true, beq_iff_eq] at hk
  rcases hk with (rfl | rfl) | rfl
  · exact h.hP
  · exact h.hm
  · exact h.hs
theorem T3.p1 (P bm bs : Nat) : T3 P bm bs P = true := by simp [T3]
theorem T3.p2 (P bm bs : Nat) : T3 P bm bs bm = true := by simp [T3]
theorem T3.p3 (P bm bs : Nat) : T3 P bm bs bs = true := by simp [T3]
theorem T3.no {P bm bs k : Nat} (h1 : k ≠ P) (h2 : k ≠ bm) (h3 : k ≠ bs) : T3 P bm bs k = false := by simp [T3, h1, h2, h3]
theorem PSim.below2 (h : PSim S P bm bc bs m vd vp vl vi vS x nx nd u) (k : Below u.heap.size u u2) (e : ∀ k, k < u.heap.size → S2 k = S k) : PSim S2 P bm bc bs m vd vp vl vi vS x nx nd u2 := by
  obtain ⟨l1, l2, l3, l4⟩ := h.lt
  have k2 : Below (HdS S u).heap.size (HdS S u) (HdS S2 u2) := by rw [HdS.size]; exact HdS.below2 k e
  obtain ⟨g, r, hw⟩ := h.st
  exact ⟨(k.block _ l1).trans h.box, (k.block _ l4).trans h.cap, (e _ l1).trans h.hP, (e _ l2).trans h.hm, (e _ l3).trans h.hs, (e _ l4).trans h.hc, h.mdl.below k2, ⟨g, r.kept (k.block _ l3), fun i hi => (hw i hi).below k2⟩, h.mp.kept (k.block _ l2)⟩
theorem PSim.below (h : PSim S P bm bc bs m vd vp vl vi vS x nx nd u) (k : Below u.heap.size u u2) : PSim S P bm bc bs m vd vp vl vi vS x nx nd u2 := h.below2 k fun _ _ => rfl
/-- while another one's blocks are written -/
theorem PSim.kept (h : PSim S P bm bc bs m vd vp vl vi vS x nx nd u) (k : KpS T u u2) (hT : ∀ k, T k = true → S k = true) (tP : T P = false) (tm : T bm = false) (ts : T bs = false) : PSim S P bm bc bs m vd vp vl vi vS x nx nd u2 := by
  obtain ⟨l1, l2, l3, l4⟩ := h.lt
  have k2 := (k.mono hT).hd
  obtain ⟨g, r, hw⟩ := h.st
  have tc : T bc = false := by
    cases c : T bc with
    | false => rfl
    | true => have := hT _ c; rw [h.hc] at this; cases this
  exact ⟨(k.blk l1 tP).trans h.box, (k.blk l4 tc).trans h.cap, h.hP, h.hm, h.hs, h.hc, h.mdl.below k2, ⟨g, r.kept (k.blk l3 ts), fun i hi => (hw i hi).below k2⟩, h.mp.kept (k.blk l2 tm)⟩
theorem PSim.perm (h : PSim S P bm bc bs m vd vp vl vi vS x nx nd u) {W : List Evn} (p : x.W.Perm W) : PSim S P bm bc bs m vd vp vl vi vS ⟨x.S, W⟩ nx nd u :=
  ⟨h.box, h.cap, h.hP, h.hm, h.hs, h.hc, h.mdl, h.st, h.mp.perm p⟩
theorem PSim.next (h : PSim S P bm bc bs m vd vp vl vi vS x nx nd u) {y : Sm} (k : KpS (T3 P bm bs) u u2) (hb : u2.heap[P]? = some (.cells (pbox m vd vp vl vi vS bm bc nx2 nd2).toArray 70 (0, 0)))
    (hst : ∃ g, StRow bs (gT y.S g) m.nl vS u2 ∧ ∀ k, k < m.nl → Sl 1 (gW (y.S k).w) (y.S k).nw (g k) (HdS S u2)) (hmp : MpAt bm nx2 y.W u2) : PSim S P bm bc bs m vd vp vl vi vS y nx2 nd2 u2 := by
  obtain ⟨l1, l2, l3, l4⟩ := h.lt
  obtain ⟨n1, n2, n3, n4, n5, n6⟩ := h.ne
  exact ⟨hb, (k.blk l4 (T3.no n4 n5 n6)).trans h.cap, h.hP, h.hm, h.hs, h.hc, h.mdl.below (k.mono h.sub).hd, hst, hmp⟩
/-- the states, as the rest of memory is written -/
theorem PSim.sts (h : PSim S P bm bc bs m vd vp vl vi vS x nx nd u) (k : KpS (T3 P bm bs) u u2) (e : u2.heap[bs]? = u.heap[bs]?) : ∃ g, StRow bs (gT x.S g) m.nl vS u2 ∧ ∀ k, k < m.nl → Sl 1 (gW (x.S k).w) (x.S k).nw (g k) (HdS S u2) := by
  obtain ⟨g, r, hw⟩ := h.st
  exact ⟨g, r.kept e, fun i hi => (hw i hi).below (k.mono h.sub).hd⟩
/-- the struct's cells -/
theorem PSim.cells (h : PSim S P bm bc bs m vd vp vl vi vS x nx nd u) : u.cell? ⟨P, 0, none⟩ = some (.int .i64 m.seed) ∧ u.cell? ⟨P, 1, none⟩ = some (.float .f64 m.fin) ∧ u.cell? ⟨P, 2, none⟩ = some vd ∧ u.cell? ⟨P, 3, none⟩ = some vp ∧ u.cell? ⟨P, 4, none⟩ = some vl ∧ u.cell? ⟨P, 5, none⟩ = some vi ∧ u.cell? ⟨P, 6, none⟩ = some vS ∧ u.cell? ⟨P, 7, none⟩ = some (.map (some bm)) ∧ u.cell? ⟨P, 8, none⟩ = some (fvP bc) ∧ u.cell? ⟨P, 9, none⟩ = some (.int .i64 (nx : Int)) ∧ u.cell? ⟨P, 10, none⟩ = some (.int .i64 (nd : Int)) ∧ ∀ q, u.frozen? ⟨P, q, none⟩ = false := by
  refine ⟨?_, ?_, ?_, ?_, ?_, ?_, ?_, ?_, ?_, ?_, ?_, fun q => Lib.frozen_of_heap h.box q⟩ <;> (rw [Lib.cell_of_heap h.box]; rfl)
end

end Go.Proofs.YthkfaeplmmlnlaaGreat
namespace Go.Proofs.YthkfaeplmmlnlaaGreat
open Go.RowKit Go.Deep
set_option linter.unusedVariables false
set_option maxRecDepth 100000

theorem delay8_any (m : Mdl) (vd vp vl vi : Value) (n : Int) (w : World) (hd : Sl 1 (gF m.d) m.nd vd w) (h0 : 0 < m.nd) (h8 : m.nd ≤ 8) :
    Calls Tryz.prog 88 #[mval m vd vp vl vi, .int .i64 n] w fun e w' => e = .returned (.float .f64 (m.d (dlyN m.nd n))) ∧ Below w.heap.size w w' := by
  obtain ⟨ad, cd, rfl, hcd, hcd2, hat⟩ := hd
  obtain ⟨b, o, rfl, hA⟩ := hat h0
  obtain ⟨k1, k2, k3⟩ := dly_mod h0 n
  unfold mval
  have X1 := Lib.hid (heap_alloc_new w (.cells #[.int .i64 m.seed, .float .f64 m.fin, .slice (some ⟨b, o, none⟩) m.nd cd, vp, vl, vi] 28))
  have B1 := Lib.hid (balloc w (.cells #[.int .i64 m.seed, .float .f64 m.fin, .slice (some ⟨b, o, none⟩) m.nd cd, vp, vl, vi] 28))
  have c0 := (hA.below B1.out).one (dlyN m.nd n) k3
  simp only [gF] at c0
  clear hA hat
  generalize hk : dlyN m.nd n = k at *
  clear hk
  obtain ⟨n0, n1, n2, n3, n4, n5⟩ := six_cells7 X1.out
  have e0 : ((m.nd : Int) == 0) = false := by simp; omega
  have bk : ((k : Nat) : Int) < (m.nd : Int) := by omega
  have lk : (0 : Int) ≤ ((k : Nat) : Int) := by omega
  have tk : ((k : Nat) : Int).toNat = k := by omega
  generalize hu : w.alloc (.cells #[.int .i64 m.seed, .float .f64 m.fin, .slice (some ⟨b, o, none⟩) m.nd cd, vp, vl, vi] 28) = u at *
  go_enter Tryz.func88, Tryz.ntmps88
  go_upto_region 1 with fail
  try rw [hu]
  clear hu
  by_cases hq : n.tmod m.nd < 0
  · have d0 : decide (n.tmod m.nd < 0) = true := by simp [hq]
    have k1 := k1 hq
    have l2 : -9223372036854775808 ≤ n.tmod m.nd + m.nd := by omega
    have l3 : n.tmod m.nd + m.nd ≤ 9223372036854775807 := by omega
    have l4 : wrap64 (n.tmod m.nd + m.nd) = (k : Int) := by rw [k1]; unfold wrap64; omega
    clear k2 hq
    go_upto_region 4 with fail
    clear k1 d0 l2 l3 l4
    go_wp2_with fail
    go_ret
    exact ⟨rfl, B1.out⟩
  · have d0 : decide (n.tmod m.nd < 0) = false := by simp [hq]
    have k2 := k2 hq
    clear k1 hq
    go_upto_region 4 with fail
    clear k2 d0
    go_wp2_with fail
    go_ret
    exact ⟨rfl, B1.out⟩

def cntB (n : Int) : Bool := decide (0 ≤ n) && decide (n ≤ 1099511627776)
theorem isCount8_any (n : Int) (w : World) : Calls Tryz.prog 83 #[.int .i64 n] w fun e w' => e = .returned (.bool (cntB n)) ∧ w' = w := by
  go_enter Tryz.func83, Tryz.ntmps83
  by_cases h : 0 ≤ n
  · have d0 : decide (0 ≤ n) = true := by simp [h]
    by_cases h2 : n ≤ 1099511627776
    · have d1 : decide (n ≤ 1099511627776) = true := by simp [h2]
      rw [show cntB n = true from by unfold cntB; rw [d0, d1]; rfl]
      clear h h2
      go_wp2_with fail
      go_ret
      exact ⟨rfl, rfl⟩
    · have d1 : decide (n ≤ 1099511627776) = false := by simp; omega
      rw [show cntB n = false from by unfold cntB; rw [d0, d1]; rfl]
      clear h h2
      go_wp2_with fail
      go_ret
      exact ⟨rfl, rfl⟩
  · have d0 : decide (0 ≤ n) = false := by simp; omega
    rw [show cntB n = false from by unfold cntB; rw [d0]; rfl]
    clear h
    go_wp2_with fail
    go_ret
    exact ⟨rfl, rfl⟩

def proB (nl : Nat) (lp : Int) : Bool := decide (0 ≤ lp) && decide (lp < (nl : Int))
theorem isProcess8_any (m : Mdl) (vd vp vi : Value) (al : Option Addr) (cl : Nat) (lp : Int) (w : World) :
    Calls Tryz.prog 56 #[.agg #[.int .i64 m.seed, .float .f64 m.fin, vd, vp, .slice al m.nl cl, vi], .int .i64 lp] w fun e w' => e = .returned (.bool (proB m.nl lp)) ∧ Below w.heap.size w w' := by
  have X1 := Lib.hid (heap_alloc_new w (.cells #[.int .i64 m.seed, .float .f64 m.fin, vd, vp, .slice al m.nl cl, vi] 28))
  have B1 := Lib.hid (balloc w (.cells #[.int .i64 m.seed, .float .f64 m.fin, vd, vp, .slice al m.nl cl, vi] 28))
  obtain ⟨m0, m1, m2, m3, m4, m5⟩ := six_cells7 X1.out
  obtain ⟨res, hr⟩ : ∃ r, r = proB m.nl lp := ⟨_, rfl⟩
  rw [← hr]
  have E := Lib.hid hr
  clear hr
  generalize hu : w.alloc (.cells #[.int .i64 m.seed, .float .f64 m.fin, vd, vp, .slice al m.nl cl, vi] 28) = u at *
  go_enter Tryz.func56, Tryz.ntmps56
  go_upto_region 1 with fail
  try rw [hu]
  clear hu
  by_cases h : 0 ≤ lp
  · have d0 : decide (0 ≤ lp) = true := by simp [h]
    by_cases h2 : lp < (m.nl : Int)
    · have d1 : decide (lp < (m.nl : Int)) = true := by simp [h2]
      obtain rfl : res = true := by rw [E.out]; unfold proB; rw [d0, d1]; rfl
      clear h h2 E
      go_wp2_with fail
      go_ret
      exact ⟨rfl, B1.out⟩
    · have d1 : decide (lp < (m.nl : Int)) = false := by simp; omega
      obtain rfl : res = false := by rw [E.out]; unfold proB; rw [d0, d1]; rfl
      clear h h2 E
      go_wp2_with fail
      go_ret
      exact ⟨rfl, B1.out⟩
  · have d0 : decide (0 ≤ lp) = false := by simp; omega
    obtain rfl : res = false := by rw [E.out]; unfold proB; rw [d0]; rfl
    clear h E
    go_wp2_with fail
    go_ret
    exact ⟨rfl, B1.out⟩

set_option maxHeartbeats 1600000 in
theorem copyAny8 : CopyAny8 := by
  intro s vI w h100 hw
  obtain ⟨i0, hi0, hz0, hz1, hz2⟩ := info_parts info_int7
  obtain ⟨ai, ci, rfl, lw1, lw2, _⟩ := id hw
  unfold sval
  have XW : Hid (((w.alloc (.cells #[.slice ai s.nw ci, .int .i64 s.sent, .int .i64 s.dice] 55)).alloc (.cells #[.slice none 0 0, .int .i64 0, .int .i64 0] 55)).heap[w.heap.size]? = some (.cells #[.slice ai s.nw ci, .int .i64 s.sent, .int .i64 s.dice] 55)) := (Below.heap_alloc _ _ _ (by rw [World.size_alloc]; omega)).trans (heap_alloc_new w _)
  have ZW : Hid (((w.alloc (.cells #[.slice ai s.nw ci, .int .i64 s.sent, .int .i64 s.dice] 55)).alloc (.cells #[.slice none 0 0, .int .i64 0, .int .i64 0] 55)).heap[w.heap.size + 1]? = some (.cells #[.slice none 0 0, .int .i64 0, .int .i64 0] 55)) := by
    have := heap_alloc_new (w.alloc (.cells #[.slice ai s.nw ci, .int .i64 s.sent, .int .i64 s.dice] 55)) (.cells #[.slice none 0 0, .int .i64 0, .int .i64 0] 55)
    rwa [World.size_alloc] at this
  have B1 := Lib.hid (bthen (balloc w (.cells #[.slice ai s.nw ci, .int .i64 s.sent, .int .i64 s.dice] 55)) (balloc _ (.cells #[.slice none 0 0, .int .i64 0, .int .i64 0] 55)))
  have WA := Lib.hid (hw.below B1.out)
  have H8 := Lib.hid h100
  clear hw h100
  generalize hu : ((w.alloc (.cells #[.slice ai s.nw ci, .int .i64 s.sent, .int .i64 s.dice] 55)).alloc (.cells #[.slice none 0 0, .int .i64 0, .int .i64 0] 55)) = u at *
  go_enter Tryz.func34, Tryz.ntmps34
  go_upto_region 1 with fail
  try rw [hu]
  clear hu
  have EA := Lib.hid (World.ownsRow_nil (u) w.heap.size 3 1)
  obtain ⟨_, _, ew, _, _, kw⟩ := id WA.out
  simp only [Value.slice.injEq, true_and] at ew
  obtain ⟨rfl, rfl⟩ := ew
  obtain ⟨s0, s1, s2⟩ := three_cells8 XW.out
  have sf : ∀ q, u.frozen? ⟨w.heap.size, q, none⟩ = false := fun q => Lib.frozen_of_heap XW.out q
  have zf : ∀ q, u.frozen? ⟨w.heap.size + 1, q, none⟩ = false := fun q => Lib.frozen_of_heap ZW.out q
  rcases Nat.eq_zero_or_pos s.nw with hz | hnz
  · have HZ := Lib.hid hz
    have hsrc : Src Tryz.prog i0.size 53 (.slice ai s.nw ci) 0 [] u := by
      rw [hz]
      cases ai with
      | none => exact Src.ofNil _ Tryz.underlying53 ci
      | some ad => exact Src.ofSlice _ Tryz.underlying53 ad 0 ci [] (by simp) (by simp) (by simp)
    have HS := Lib.hid hsrc
    have EO : Hid (u.ownsRow w.heap.size 3 1 (.slice none 0 0) s.nw (rowCells 1 (gW s.w) s.nw)) := by
      show World.ownsRow _ _ _ _ _ _ _
      rw [HZ.out, rowCells_zero]; exact EA.out
    clear hsrc hz kw
    go_upto_region 2 with (at_builtin; refine wpList_append_nothing7 rfl _ _ 53 rfl 3 i0 Tryz.underlying53 hi0 _ 0 0 rfl (Nat.le_refl _) _ rfl HS.out ?_)
    have hne : w.heap.size + 1 ≠ w.heap.size := by omega
    have XV : Hid ((World.setCell u ⟨w.heap.size, 0, none⟩ (.slice none 0 0)).heap[w.heap.size]? = some (.cells #[.slice none 0 0, .int .i64 s.sent, .int .i64 s.dice] 55 (0, 0))) := Joins.block_setCell (i := 0) XW.out (.slice none 0 0)
    have ZV : Hid ((World.setCell u ⟨w.heap.size, 0, none⟩ (.slice none 0 0)).heap[w.heap.size + 1]? = some (.cells #[.slice none 0 0, .int .i64 0, .int .i64 0] 55)) := (Below.heap_setCell u ⟨w.heap.size, 0, none⟩ (.slice none 0 0) _ hne).trans ZW.out
    have OV : Hid ((World.setCell u ⟨w.heap.size, 0, none⟩ (.slice none 0 0)).ownsRow w.heap.size 3 1 (.slice none 0 0) s.nw (rowCells 1 (gW s.w) s.nw)) := own_setCell EO.out (own_not EO.out XW.out (by decide))
    have BV : Hid (Below w.heap.size w (World.setCell u ⟨w.heap.size, 0, none⟩ (.slice none 0 0))) := B1.out.setCell (p := ⟨w.heap.size, 0, none⟩) (Nat.le_refl _) (.slice none 0 0)
    clear hne
    change Code.wp _ _ _ _ (World.setCell u ⟨w.heap.size, 0, none⟩ (.slice none 0 0))
    generalize (World.setCell u ⟨w.heap.size, 0, none⟩ (.slice none 0 0)) = w11 at *
    have zf : ∀ q, w11.frozen? ⟨w.heap.size + 1, q, none⟩ = false := fun q => Lib.frozen_of_heap ZV.out q
    obtain ⟨p0, p1, p2⟩ := three_cells8 XV.out
    obtain ⟨z0, z1, z2⟩ := three_cells8 ZV.out
    go_wp2_with fail
    change bodyPost _ _ _ _ _ (World.setCells w11 (w.heap.size + 1) 0 [.slice none 0 0, .int .i64 s.sent, .int .i64 s.dice])
    have h5 := put_three8 ZV.out (.slice none 0 0) (.int .i64 s.sent) (.int .i64 s.dice)
    have LZ := Lib.hid (BV.out.trans (put_low7 (show w.heap.size ≤ w.heap.size + 1 by omega) [.slice none 0 0, .int .i64 s.sent, .int .i64 s.dice] 0 w11))
    have SA : Hid (StaAt w.heap.size s (.agg #[.slice none 0 0, .int .i64 s.sent, .int .i64 s.dice]) (World.setCells w11 (w.heap.size + 1) 0 [.slice none 0 0, .int .i64 s.sent, .int .i64 s.dice])) := ⟨_, rfl, own_setCells (own_not OV.out ZV.out (by decide)) _ 0 _ OV.out⟩
    obtain ⟨t0, t1, t2⟩ := three_cells8 h5
    clear h5
    generalize World.setCells w11 (w.heap.size + 1) 0 [.slice none 0 0, .int .i64 s.sent, .int .i64 s.dice] = w9 at *
    exact bodyPost_ret (v := .agg #[.slice none 0 0, .int .i64 s.sent, .int .i64 s.dice]) (by simp [results, Tryz.results34, go_sem, t0, t1, t2]) rfl ⟨_, rfl, SA.out, LZ.out⟩
  · obtain ⟨bw, ow, rfl, hat⟩ := kw hnz
    have HN := Lib.hid (at_news hat)
    have HB := Lib.hid (B1.out.size)
    have h8 := H8.out
    clear hat kw
    go_wp2_with (at_builtin; refine wpList_append_own _ rfl _ _ 53 rfl w.heap.size 3 i0 (.int .i64 0) 1 8 Tryz.underlying53 hi0 hz0 hz1 hz2 rfl (by decide) _ 0 _ rfl EA.out ⟨bw, ow, none⟩ s.nw ci (rowCells 1 (gW s.w) s.nw) rfl (rowCells_len _ _ _) HN.out (row_one _ _) (by unfold maxLen; omega) (by omega) HB.out ?_)
    intro v1 w10 hown hgr hnn
    have W10 := Lib.hid hown
    have B10 := Lib.hid (B1.out.trans (below_grown EA.out HB.out hgr))
    have X10 := Lib.hid (grown_keep7 EA.out hgr XW.out (by decide))
    have Z10 := Lib.hid (grown_keep7 EA.out hgr ZW.out (by decide))
    obtain ⟨a1, c1, rfl⟩ : ∃ a c, v1 = .slice a s.nw c := by
      rcases hown.2 with ⟨rfl, h⟩ | ⟨g, cap, cur, rfl, _⟩
      · omega
      · exact ⟨_, _, rfl⟩
    clear hown hgr hnn s0 s1 s2 sf zf HB HN h8
    obtain ⟨s0, s1, s2⟩ := three_cells8 X10.out
    have sf : ∀ q, w10.frozen? ⟨w.heap.size, q, none⟩ = false := fun q => Lib.frozen_of_heap X10.out q
    go_upto_region 2 with fail
    have hne : w.heap.size + 1 ≠ w.heap.size := by omega
    have XV : Hid ((World.setCell w10 ⟨w.heap.size, 0, none⟩ (.slice a1 s.nw c1)).heap[w.heap.size]? = some (.cells #[.slice a1 s.nw c1, .int .i64 s.sent, .int .i64 s.dice] 55 (0, 0))) := Joins.block_setCell (i := 0) X10.out (.slice a1 s.nw c1)
    have ZV : Hid ((World.setCell w10 ⟨w.heap.size, 0, none⟩ (.slice a1 s.nw c1)).heap[w.heap.size + 1]? = some (.cells #[.slice none 0 0, .int .i64 0, .int .i64 0] 55)) := (Below.heap_setCell w10 ⟨w.heap.size, 0, none⟩ (.slice a1 s.nw c1) _ hne).trans Z10.out
    have OV : Hid ((World.setCell w10 ⟨w.heap.size, 0, none⟩ (.slice a1 s.nw c1)).ownsRow w.heap.size 3 1 (.slice a1 s.nw c1) s.nw (rowCells 1 (gW s.w) s.nw)) := own_setCell W10.out (own_not W10.out X10.out (by decide))
    have BV : Hid (Below w.heap.size w (World.setCell w10 ⟨w.heap.size, 0, none⟩ (.slice a1 s.nw c1))) := B10.out.setCell (p := ⟨w.heap.size, 0, none⟩) (Nat.le_refl _) (.slice a1 s.nw c1)
    clear hne
    change Code.wp _ _ _ _ (World.setCell w10 ⟨w.heap.size, 0, none⟩ (.slice a1 s.nw c1))
    generalize (World.setCell w10 ⟨w.heap.size, 0, none⟩ (.slice a1 s.nw c1)) = w11 at *
    have zf : ∀ q, w11.frozen? ⟨w.heap.size + 1, q, none⟩ = false := fun q => Lib.frozen_of_heap ZV.out q
    obtain ⟨p0, p1, p2⟩ := three_cells8 XV.out
    obtain ⟨z0, z1, z2⟩ := three_cells8 ZV.out
    go_wp2_with fail
    change bodyPost _ _ _ _ _ (World.setCells w11 (w.heap.size + 1) 0 [.slice a1 s.nw c1, .int .i64 s.sent, .int .i64 s.dice])
    have h5 := put_three8 ZV.out (.slice a1 s.nw c1) (.int .i64 s.sent) (.int .i64 s.dice)
    have LZ := Lib.hid (BV.out.trans (put_low7 (show w.heap.size ≤ w.heap.size + 1 by omega) [.slice a1 s.nw c1, .int .i64 s.sent, .int .i64 s.dice] 0 w11))
    have SA : Hid (StaAt w.heap.size s (.agg #[.slice a1 s.nw c1, .int .i64 s.sent, .int .i64 s.dice]) (World.setCells w11 (w.heap.size + 1) 0 [.slice a1 s.nw c1, .int .i64 s.sent, .int .i64 s.dice])) := ⟨_, rfl, own_setCells (own_not OV.out ZV.out (by decide)) _ 0 _ OV.out⟩
    obtain ⟨t0, t1, t2⟩ := three_cells8 h5
    clear h5
    generalize World.setCells w11 (w.heap.size + 1) 0 [.slice a1 s.nw c1, .int .i64 s.sent, .int .i64 s.dice] = w9 at *
    exact bodyPost_ret (v := .agg #[.slice a1 s.nw c1, .int .i64 s.sent, .int .i64 s.dice]) (by simp [results, Tryz.results34, go_sem, t0, t1, t2]) rfl ⟨_, rfl, SA.out, LZ.out⟩

end Go.Proofs.YthkfaeplmmlnlaaGreat
