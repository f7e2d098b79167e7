/- The plain simulation: states, the events that wait in their order, a step; what holds all through it. No Go, no program. append, to a row of the call's own, of a slice of whatever length (of none, too), told by its elements: at a drawn region's step, and in a plain region. The plain simulation's states, events and what was handled as cells. The contracts of the program's cmp.Compare, cmp.Or, act.Compare. -/
import Derived.Test.YthkfaeplmmlnlaaGreatRZ10
import Derived.Test.YthkfaeplmmlnlaaGreatRZ7
import Derived.Test.YthkfaeplmmlnlaaGreatRZ0
import Derived.Test.YthkfaeplmmlnlaaGreatRZ3
namespace Go.Proofs.YthkfaeplmmlnlaaGreat
open Go.RowKit
set_option linter.unusedVariables false
set_option maxRecDepth 100000

def toL (l : Evs) : List Evn := (List.range l.n).map l.f
theorem toL_length (l : Evs) : (toL l).length = l.n := by simp [toL]
theorem mem_toL {l : Evs} {x : Evn} : x ∈ toL l ↔ ∃ i, i < l.n ∧ l.f i = x := by simp [toL]
/-- not behind -/
def leE (a b : Evn) : Prop := ordE a b ≤ 0
theorem leE_turn {a b : Evn} (h : ¬ leE a b) : leE b a := by unfold leE at *; rw [ordE_turn a b]; omega
theorem leE_trans {a b c : Evn} (h : leE a b) (k : leE b c) : leE a c := (ordE_tri a b c).1 h k
theorem lexI_zero {c d : Int} (h : lexI c d = 0) : c = 0 ∧ d = 0 := by
  unfold lexI at h
  by_cases hc : c = 0
  · rw [if_neg (by omega)] at h; exact ⟨hc, h⟩
  · rw [if_pos hc] at h; exact absurd h hc
theorem cmpI_zero {a b : Int} (h : cmpI a b = 0) : a = b := by
  unfold cmpI at h
  split at h
  · omega
  · split at h
    · assumption
    · omega
theorem ordE_zero {a b : Evn} (h : ordE a b = 0) : a.src = b.src ∧ a.n = b.n := by
  unfold ordE cmpK at h
  obtain ⟨_, h⟩ := lexI_zero h
  obtain ⟨_, h⟩ := lexI_zero h
  obtain ⟨h2, h⟩ := lexI_zero h
  obtain ⟨h3, _⟩ := lexI_zero h
  exact ⟨cmpI_zero h2, cmpI_zero h3⟩
theorem ordE_later {a b : Evn} (ha : isNum a.t) (hb : isNum b.t) (h : ford a.t < ford b.t) : ordE a b = -1 := by
  have h1 : cmpI (frank a.t) (frank b.t) = -1 := by
    rw [(frank_num ha).1, (frank_num hb).1]; unfold cmpI; rw [if_pos h]
  unfold ordE cmpK
  show lexI (cmpI (frank a.t) (frank b.t)) _ = -1
  rw [h1]; rfl
/-- an event in its place: behind all those ahead that are not behind it -/
def insE (e : Evn) : List Evn → List Evn
  | [] => [e]
  | x :: r => if ordE x e ≤ 0 then x :: insE e r else e :: x :: r
def insAll : List Evn → List Evn → List Evn
  | W, [] => W
  | W, x :: l => insAll (insE x W) l
theorem insE_perm (e : Evn) : ∀ W : List Evn, (insE e W).Perm (e :: W)
  | [] => List.Perm.refl _
  | x :: r => by
    unfold insE
    by_cases h : ordE x e ≤ 0
    · rw [if_pos h]; exact ((insE_perm e r).cons x).trans (List.Perm.swap e x r)
    · rw [if_neg h]
theorem insAll_perm : ∀ (l W : List Evn), (insAll W l).Perm (l ++ W)
  | [], W => List.Perm.refl _
  | x :: l, W => by
    unfold insAll
    exact (insAll_perm l (insE x W)).trans (((insE_perm x W).append_left l).trans List.perm_middle)
theorem insE_sorted (e : Evn) : ∀ W : List Evn, W.Pairwise leE → (insE e W).Pairwise leE
  | [], _ => List.pairwise_singleton _ _
  | x :: r, h => by
    rw [List.pairwise_cons] at h
    unfold insE
    by_cases c : ordE x e ≤ 0
    · rw [if_pos c, List.pairwise_cons]
      refine ⟨fun y hy => ?_, insE_sorted e r h.2⟩
      rcases List.mem_cons.1 ((insE_perm e r).mem_iff.1 hy) with rfl | hy
      · exact c
      · exact h.1 y hy
    · rw [if_neg c, List.pairwise_cons, List.pairwise_cons]
      have hx : leE e x := leE_turn (by unfold leE; exact c)
      refine ⟨fun y hy => ?_, h⟩
      rcases List.mem_cons.1 hy with rfl | hy
      · exact hx
      · exact leE_trans hx (h.1 y hy)
theorem insAll_sorted : ∀ (l W : List Evn), W.Pairwise leE → (insAll W l).Pairwise leE
  | [], _, h => h
  | x :: l, W, h => insAll_sorted l _ (insE_sorted x W h)
theorem insAll_length (l W : List Evn) : (insAll W l).length = l.length + W.length := by
  rw [(insAll_perm l W).length_eq, List.length_append]

/-- a simulation: the states, and what waits -/
structure Sm where
  S : Nat → Sta
  W : List Evn
def updS (S : Nat → Sta) (k : Nat) (s : Sta) : Nat → Sta := fun i => if i = k then s else S i
def newP (m : Mdl) : Sm := ⟨fun k => firstS m k, insAll [] (toL (beginE m m.ni))⟩
def hanP (m : Mdl) (x : Sm) (e : Evn) : Hnd := handH m e.dst (x.S e.dst.toNat) e
def stepP (m : Mdl) (x : Sm) : Sm := match x.W with
  | [] => x
  | e :: r => ⟨updS x.S e.dst.toNat (hanP m x e).s, insAll r (toL (hanP m x e).l)⟩
theorem stepP_none {m : Mdl} {x : Sm} (h : x.W = []) : stepP m x = x := by unfold stepP; rw [h]
theorem stepP_some {m : Mdl} {x : Sm} {e : Evn} {r : List Evn} (h : x.W = e :: r) : stepP m x = ⟨updS x.S e.dst.toNat (hanP m x e).s, insAll r (toL (hanP m x e).l)⟩ := by unfold stepP; rw [h]
/-- unlike stamps -/
def unE (a b : Evn) : Prop := a.src ≠ b.src ∨ a.n ≠ b.n
theorem unE_symm {a b : Evn} (h : unE a b) : unE b a := h.imp Ne.symm Ne.symm
structure GoodE (m : Mdl) (S : Nat → Sta) (e : Evn) : Prop where
  num : isNum e.t
  fin : leqF e.t m.fin = true
  dst : 0 ≤ e.dst ∧ e.dst < m.nl
  pay : r64v e.pay
  src : e.src = -1 ∨ (0 ≤ e.src ∧ e.src < m.nl ∧ e.n < (S e.src.toNat).sent)
structure GoodS (k : Nat) (s : Sta) : Prop where
  nw : s.nw ≤ 8
  sent : 0 ≤ s.sent ∧ s.sent ≤ 4 * (k : Int)
  dice : 0 ≤ s.dice ∧ s.dice ≤ 120 * (k : Int)
  w : ∀ i, r64v (s.w i)
theorem GoodS.more {k : Nat} {s : Sta} (h : GoodS k s) : GoodS (k + 1) s := ⟨h.nw, ⟨h.sent.1, by have := h.sent.2; omega⟩, ⟨h.dice.1, by have := h.dice.2; omega⟩, h.w⟩
/-- what holds behind k steps -/
structure InvP (m : Mdl) (k : Nat) (x : Sm) : Prop where
  st : ∀ j, j < m.nl → GoodS k (x.S j)
  ev : ∀ e ∈ x.W, GoodE m x.S e
  un : x.W.Pairwise unE
  so : x.W.Pairwise leE
  le : x.W.length ≤ 16 + 4 * k

/-- the events at first -/
theorem beginE_at (m : Mdl) : ∀ k, (∀ i, i < (beginE m k).n → ∃ q, q < k ∧ (beginE m k).f i = ⟨(normSpec (m.ev q).t).1, -1, (q : Int), (m.ev q).dst, (m.ev q).pay⟩ ∧ leqF (normSpec (m.ev q).t).1 m.fin = true) ∧ ∀ i, i + 1 < (beginE m k).n → ((beginE m k).f i).n < ((beginE m k).f (i + 1)).n
  | 0 => ⟨fun i hi => absurd hi (Nat.not_lt_zero i), fun i hi => absurd hi (Nat.not_lt_zero _)⟩
  | k + 1 => by
    obtain ⟨h1, h2⟩ := beginE_at m k
    unfold beginE
    by_cases hq : leqF (normSpec (m.ev k).t).1 m.fin = true
    · rw [if_pos hq]
      refine ⟨fun i hi => ?_, fun i hi => ?_⟩
      · have hi : i < (beginE m k).n + 1 := hi
        by_cases c : i = (beginE m k).n
        · simp only [Evs.push, if_pos c]; exact ⟨k, by omega, rfl, hq⟩
        · simp only [Evs.push, if_neg c]
          obtain ⟨q, q1, q2, q3⟩ := h1 i (by omega)
          exact ⟨q, by omega, q2, q3⟩
      · have hi : i + 1 < (beginE m k).n + 1 := hi
        by_cases c : i + 1 = (beginE m k).n
        · simp only [Evs.push, if_pos c, if_neg (show ¬ i = (beginE m k).n by omega)]
          obtain ⟨q, q1, q2, _⟩ := h1 i (by omega)
          rw [q2]; show (q : Int) < (k : Int); omega
        · simp only [Evs.push, if_neg c, if_neg (show ¬ i = (beginE m k).n by omega)]
          exact h2 i (by omega)
    · rw [if_neg hq]
      exact ⟨fun i hi => by obtain ⟨q, q1, q2, q3⟩ := h1 i hi; exact ⟨q, by omega, q2, q3⟩, h2⟩
theorem rising {f : Nat → Evn} {n : Nat} (h : ∀ i, i + 1 < n → (f i).n < (f (i + 1)).n) : ∀ i j, i < j → j < n → (f i).n < (f j).n := by
  intro i j hij
  induction j with
  | zero => omega
  | succ j ih =>
    intro hj
    by_cases c : i = j
    · subst c; exact h i hj
    · exact Int.lt_trans (ih (by omega) (by omega)) (h j hj)
theorem range_pairwise {R : Evn → Evn → Prop} {f : Nat → Evn} {n : Nat} (h : ∀ i j, i < j → j < n → R (f i) (f j)) : ((List.range n).map f).Pairwise R := by
  rw [List.pairwise_map]
  have : (List.range n).Pairwise (fun i j => i < j ∧ j < n) := by
    rw [List.pairwise_iff_getElem]
    intro i j hi hj hij
    simp only [List.length_range] at hi hj
    simp only [List.getElem_range]
    exact ⟨hij, hj⟩
  exact this.imp fun {i j} hh => h i j hh.1 hh.2
theorem norm_num {t : Nat} (h : isNum t) : isNum (normSpec t).1 := by
  unfold normSpec
  rw [if_pos h]
  split
  · exact isNum_zero
  · exact h
theorem inv_new {m : Mdl} (hc : chkN m = 0) (hr : MdlR m) : InvP m 0 (newP m) := by
  obtain ⟨c1, c2, c3, c4, c5⟩ := chk_nl hc
  obtain ⟨b1, b2⟩ := beginE_at m m.ni
  have hp : (newP m).W.Perm (toL (beginE m m.ni)) := by
    have := insAll_perm (toL (beginE m m.ni)) []
    rwa [List.append_nil] at this
  refine ⟨fun j hj => ⟨c4 j hj, ⟨Int.le_refl _, by show (0 : Int) ≤ _; omega⟩, ⟨Int.le_refl _, by show (0 : Int) ≤ _; omega⟩, hr.w j⟩, fun e he => ?_, ?_, insAll_sorted _ _ List.Pairwise.nil, ?_⟩
  · obtain ⟨i, hi, rfl⟩ := mem_toL.1 (hp.mem_iff.1 he)
    obtain ⟨q, q1, q2, q3⟩ := b1 i hi
    rw [q2]
    exact ⟨norm_num (c5 q q1).1, q3, ⟨(c5 q q1).2.1, (c5 q q1).2.2⟩, hr.pay q, .inl rfl⟩
  · rw [hp.pairwise_iff (fun {a b} h => unE_symm h)]
    exact range_pairwise fun i j hij hj => .inr (Int.ne_of_lt (rising b2 i j hij hj))
  · rw [hp.length_eq, toL_length]
    have := beginE_n m m.ni
    omega
theorem han_ok {m : Mdl} {k : Nat} {x : Sm} (hc : chkN m = 0) (hr : MdlR m) (hk : k ≤ 1000000) (h : InvP m k x) {e : Evn} (he : e ∈ x.W) : HandOk m e.dst (x.S e.dst.toNat) e (hanP m x e) := by
  have g := h.ev e he
  have s := h.st e.dst.toNat (by have := g.dst; omega)
  exact hand_ok hc hr g.dst.1 g.dst.2 g.num s.nw ⟨s.sent.1, by have := s.sent.2; omega⟩ ⟨s.dice.1, by have := s.dice.2; omega⟩ s.w g.pay
theorem inv_step {m : Mdl} {k : Nat} {x : Sm} (hc : chkN m = 0) (hr : MdlR m) (hk : k ≤ 1000000) (h : InvP m k x) : InvP m (k + 1) (stepP m x) := by
  cases hw : x.W with
  | nil =>
    rw [stepP_none hw]
    exact ⟨fun j hj => (h.st j hj).more, h.ev, h.un, h.so, by have := h.le; omega⟩
  | cons e r =>
    have he : e ∈ x.W := by rw [hw]; exact List.mem_cons_self
    have H := han_ok hc hr hk h he
    have g := h.ev e he
    have gs := h.st e.dst.toNat (by have := g.dst; omega)
    have hun := h.un
    have hso := h.so
    have hle := h.le
    rw [hw] at hun hso hle
    rw [List.pairwise_cons] at hun hso
    rw [stepP_some hw]
    have hp := insAll_perm (toL (hanP m x e).l) r
    -- what was sent by whom: as far as the new states have counted
    have up : ∀ y : Evn, y.src = -1 ∨ (0 ≤ y.src ∧ y.src < m.nl ∧ y.n < (x.S y.src.toNat).sent) → y.src = -1 ∨ (0 ≤ y.src ∧ y.src < m.nl ∧ y.n < (updS x.S e.dst.toNat (hanP m x e).s y.src.toNat).sent) := by
      rintro y (hy | ⟨y1, y2, y3⟩)
      · exact .inl hy
      · refine .inr ⟨y1, y2, ?_⟩
        unfold updS
        by_cases c : y.src.toNat = e.dst.toNat
        · rw [if_pos c]; rw [c] at y3; have := H.sent.1; omega
        · rw [if_neg c]; exact y3
    have old : ∀ y, y ∈ r → GoodE m (updS x.S e.dst.toNat (hanP m x e).s) y := fun y hy => by
      have gy := h.ev y (by rw [hw]; exact List.mem_cons_of_mem _ hy)
      exact ⟨gy.num, gy.fin, gy.dst, gy.pay, up y gy.src⟩
    have new : ∀ i, i < (hanP m x e).l.n → GoodE m (updS x.S e.dst.toNat (hanP m x e).s) ((hanP m x e).l.f i) := fun i hi => by
      obtain ⟨l, lp⟩ := H.ev i hi
      refine ⟨l.num, l.fin, l.dst, lp, .inr ⟨by rw [l.src]; exact g.dst.1, by rw [l.src]; exact g.dst.2, ?_⟩⟩
      rw [l.src]
      unfold updS
      rw [if_pos rfl]
      have := l.up
      omega
    refine ⟨fun j hj => ?_, fun y hy => ?_, ?_, insAll_sorted _ _ hso.2, ?_⟩
    · show GoodS (k + 1) (updS x.S e.dst.toNat (hanP m x e).s j)
      unfold updS
      by_cases c : j = e.dst.toNat
      · rw [if_pos c]
        refine ⟨by rw [H.nw]; exact gs.nw, ⟨?_, ?_⟩, ⟨?_, ?_⟩, H.w⟩
        · have := H.sent.1; have := gs.sent.1; omega
        · have := H.sent.2; have := gs.sent.2; omega
        · have := H.dice.1; have := gs.dice.1; omega
        · have := H.dice.2; have := gs.dice.2; omega
      · rw [if_neg c]; exact (h.st j hj).more
    · rcases List.mem_append.1 (hp.mem_iff.1 hy) with hy | hy
      · obtain ⟨i, hi, rfl⟩ := mem_toL.1 hy
        exact new i hi
      · exact old y hy
    · rw [hp.pairwise_iff (fun {a b} h => unE_symm h), List.pairwise_append]
      refine ⟨range_pairwise fun i j hij hj => .inr (Int.ne_of_lt (rising (fun i hi => by have := H.ris i hi; omega) i j hij hj)), hun.2, fun a ha b hb => ?_⟩
      obtain ⟨i, hi, rfl⟩ := mem_toL.1 ha
      obtain ⟨l, _⟩ := H.ev i hi
      have gb := h.ev b (by rw [hw]; exact List.mem_cons_of_mem _ hb)
      rcases gb.src with hb2 | ⟨b1, b2, b3⟩
      · exact .inl (by rw [l.src, hb2]; have := g.dst.1; omega)
      · by_cases c : e.dst = b.src
        · refine .inr ?_
          rw [← c] at b3
          have := l.lo
          omega
        · exact .inl (by rw [l.src]; exact c)
    · show (insAll r (toL (hanP m x e).l)).length ≤ _
      rw [insAll_length, toL_length]
      have := H.n4
      simp only [List.length_cons] at hle
      omega
/-- what comes next is not ahead of what came -/
theorem step_later {m : Mdl} {k : Nat} {x : Sm} (hc : chkN m = 0) (hr : MdlR m) (hk : k ≤ 1000000) (h : InvP m k x) {e : Evn} {r : List Evn} (hw : x.W = e :: r) : ∀ y ∈ (stepP m x).W, leE e y := by
  have he : e ∈ x.W := by rw [hw]; exact List.mem_cons_self
  have H := han_ok hc hr hk h he
  have g := h.ev e he
  have hso := h.so
  rw [hw, List.pairwise_cons] at hso
  rw [stepP_some hw]
  intro y hy
  rcases List.mem_append.1 ((insAll_perm (toL (hanP m x e).l) r).mem_iff.1 hy) with hy | hy
  · obtain ⟨i, hi, rfl⟩ := mem_toL.1 hy
    obtain ⟨l, _⟩ := H.ev i hi
    unfold leE
    rw [ordE_later g.num l.num l.later]
    decide
  · exact hso.1 y hy
/-- the least one of the same events in whatever order is the first in order -/
theorem least_head {L W : List Evn} (hp : L.Perm W) (hso : W.Pairwise leE) (hun : W.Pairwise unE) {x : Evn} (hx : x ∈ L) (hmin : ∀ y ∈ L, leE x y) : ∃ r, W = x :: r := by
  cases W with
  | nil => exact absurd (hp.mem_iff.1 hx) List.not_mem_nil
  | cons e r =>
    rw [List.pairwise_cons] at hso hun
    rcases List.mem_cons.1 (hp.mem_iff.1 hx) with rfl | hxr
    · exact ⟨r, rfl⟩
    · have h1 := hso.1 x hxr
      have h2 := hmin e (hp.mem_iff.2 List.mem_cons_self)
      unfold leE at h1 h2
      have h3 : ordE e x = 0 := by rw [ordE_turn e x] at h2; omega
      obtain ⟨q1, q2⟩ := ordE_zero h3
      rcases hun.1 x hxr with q | q
      · exact absurd q1 q
      · exact absurd q2 q
/-- many steps -/
def stepsP (m : Mdl) : Nat → Sm → Sm
  | 0, x => x
  | k + 1, x => stepsP m k (stepP m x)
theorem stepsP_succ (m : Mdl) : ∀ (k : Nat) (x : Sm), stepsP m (k + 1) x = stepP m (stepsP m k x)
  | 0, x => rfl
  | k + 1, x => stepsP_succ m k (stepP m x)
theorem stepsP_add (m : Mdl) (a : Nat) : ∀ (b : Nat) (x : Sm), stepsP m (a + b) x = stepsP m b (stepsP m a x)
  | 0, x => rfl
  | b + 1, x => by rw [← Nat.add_assoc, stepsP_succ, stepsP_add m a b, ← stepsP_succ]
theorem inv_steps {m : Mdl} (hc : chkN m = 0) (hr : MdlR m) : ∀ (k : Nat), k ≤ 1000000 → InvP m k (stepsP m k (newP m))
  | 0, _ => inv_new hc hr
  | k + 1, hk => by rw [stepsP_succ]; exact inv_step hc hr (by omega) (inv_steps hc hr k (by omega))

end Go.Proofs.YthkfaeplmmlnlaaGreat
namespace Go.Proofs.YthkfaeplmmlnlaaGreat
open Go.RowKit Go.Deep
set_option linter.unusedVariables false
set_option maxRecDepth 100000

theorem row_cells_one {C : Nat} {g : Nat → Nat → Value} {m : Nat} (hC : 0 < C) (h1 : ∀ i, i < m → ∀ j, j < C → (g i j).oneCell' = true) : ∀ u ∈ rowCells C g m, u.oneCell' = true := fun u hu => by
  obtain ⟨j, hj, rfl⟩ := List.mem_iff_getElem.1 hu
  obtain ⟨q1, q2, q3, e⟩ := rowCells_of hC g (List.getElem?_eq_getElem hj)
  rw [e]
  exact h1 _ q2 _ q3
theorem own_form {w : World} {b : Nat} {E : TypeId} {C n : Nat} {v : Value} {xs : List Value} (h : w.ownsRow b E C v n xs) : ∃ a c, v = .slice a n c ∧ n ≤ c := by
  rcases h.2 with ⟨rfl, h0⟩ | ⟨g, cap, cur, rfl, _, _, h3, _⟩
  · exact ⟨none, 0, by rw [h0], by omega⟩
  · exact ⟨_, cap, rfl, h3⟩
theorem rowCells_append (C : Nat) (hC : 0 < C) (g h : Nat → Nat → Value) (n k : Nat) : rowCells C g n ++ rowCells C h k = rowCells C (fun i => if i < n then g i else h (i - n)) (n + k) := by
  apply List.ext_getElem?
  intro q
  by_cases h1 : q < n * C
  · rw [List.getElem?_append_left (by rw [rowCells_len]; exact h1)]
    have hi : q / C < n := (Nat.div_lt_iff_lt_mul hC).2 h1
    have e : q / C * C + q % C = q := by rw [Nat.mul_comm]; exact Nat.div_add_mod q C
    have a := rowCells_at g (i := q / C) (j := q % C) hi (Nat.mod_lt _ hC)
    have b := rowCells_at (fun i => if i < n then g i else h (i - n)) (n := n + k) (i := q / C) (j := q % C) (by omega) (Nat.mod_lt _ hC)
    rw [e] at a b
    rw [a, b, if_pos hi]
  · rw [List.getElem?_append_right (by rw [rowCells_len]; omega), rowCells_len]
    by_cases h2 : q < (n + k) * C
    · have hq : q - n * C < k * C := by rw [Nat.add_mul] at h2; omega
      have hi : (q - n * C) / C < k := (Nat.div_lt_iff_lt_mul hC).2 hq
      have e1 : q / C = (q - n * C) / C + n := by
        conv => lhs; rw [show q = (q - n * C) + n * C by omega]
        exact Nat.add_mul_div_right _ _ hC
      have e2 : q % C = (q - n * C) % C := by
        conv => lhs; rw [show q = (q - n * C) + n * C by omega]
        exact Nat.add_mul_mod_self_right _ _ _
      have e3 : (q - n * C) / C * C + (q - n * C) % C = q - n * C := by rw [Nat.mul_comm]; exact Nat.div_add_mod _ C
      have e : q / C * C + q % C = q := by rw [Nat.mul_comm]; exact Nat.div_add_mod q C
      have a := rowCells_at h (i := (q - n * C) / C) (j := (q - n * C) % C) hi (Nat.mod_lt _ hC)
      have hi3 : q / C < n + k := (Nat.div_lt_iff_lt_mul hC).2 h2
      have hi4 : ¬ q / C < n := fun hh => h1 ((Nat.div_lt_iff_lt_mul hC).1 hh)
      have b := rowCells_at (fun i => if i < n then g i else h (i - n)) (n := n + k) (i := q / C) (j := q % C) hi3 (Nat.mod_lt _ hC)
      rw [e3] at a
      rw [e] at b
      rw [a, b, e2, if_neg hi4, e1, Nat.add_sub_cancel]
    · rw [List.getElem?_eq_none (by rw [rowCells_len]; rw [Nat.add_mul] at h2; omega), List.getElem?_eq_none (by rw [rowCells_len]; omega)]
theorem rowCells_congr {C : Nat} (hC : 0 < C) {g h : Nat → Nat → Value} {n : Nat} (e : ∀ i, i < n → ∀ j, j < C → g i j = h i j) : rowCells C g n = rowCells C h n := by
  unfold rowCells
  refine List.map_congr_left fun k hk => ?_
  rw [List.mem_range] at hk
  exact e _ ((Nat.div_lt_iff_lt_mul hC).2 hk) _ (Nat.mod_lt _ hC)
theorem grown_self (w : World) (row : Option Nat) : w.grownBy w row := ⟨rfl, rfl, rfl, Nat.le_refl _, fun _ _ _ => rfl⟩
section
variable {P : Program} {ops : Array Oper} {o : Oper} {a : Act} {w : World} {K : Act → World → Prop} {Q : Exit → Act → World → Prop}
theorem src_none {size : Nat} {t : TypeId} {e : TypeId} (ht : P.underlying t = some (.slice e)) (ax : Option Addr) (c : Nat) : Src P size t (.slice ax 0 c) 0 [] w := by
  cases ax with
  | none => exact Src.ofNil _ ht c
  | some ad => exact Src.ofSlice _ ht ad 0 c [] (by simp) (by simp) (by simp)
theorem step_append_any {E : Prop} (hgd : o.guard = none) (s x : Operand) (t : TypeId) (ho : o.op = .call { callee := .builtin .append, args := #[s, x], argTypes := #[t, t] })
    (base : Nat) (e : TypeId) (i : TypeInfo) (z : Value) (size bytes : Nat) (ht : P.underlying t = some (.slice e)) (hi : P.info? e = some i) (hz : i.zero = some z)
    (hsize : i.size = size) (hby : i.bytes = bytes) (hzs : z.cells.size = size) (hsz : 0 < size)
    (v : Value) (n : Nat) (xs : List Value) (hs : a.eval s = v) (hown : w.ownsRow base e size v n xs)
    (g : Nat → Nat → Value) (m : Nat) (vx : Value) (hx : a.eval x = vx) (hsl : Sl size g m vx w) (h1 : ∀ i, i < m → ∀ j, j < size → (g i j).oneCell' = true)
    (h63 : n + m ≤ maxLen) (hbytes : (n + m) * bytes ≤ 140737488355328) (hbase : base ≤ w.heap.size)
    (N : Nat) (hN : n + m = N) (h : ∀ a' c' w', w'.ownsRow base e size (.slice a' N c') N (xs ++ rowCells size g m) → w.grownBy w' v.ownBlock → K (a.put o.dst (.slice a' N c')) w') :
    if Region.wanted o (yielded ops a.tmps) = true then Oper.wp P o a w K Q else E := by
  subst hN
  obtain ⟨ax, cx, rfl, hx1, hx2, hx3⟩ := hsl
  rcases Nat.eq_zero_or_pos m with hm | hm
  · subst hm
    obtain ⟨av, cv, rfl, hc⟩ := own_form hown
    refine step_append_nothing7 hgd s x t ho e i ht hi av n cv hs hc _ hx (src_none ht ax cx) ?_
    refine h av cv w ?_ (grown_self w _)
    rw [rowCells_zero, List.append_nil, Nat.add_zero]
    exact hown
  · obtain ⟨b, off, rfl, hA⟩ := hx3 hm
    refine step_append_lies w hgd s x t ho base e i z size bytes ht hi hz hsize hby hzs hsz v n xs hs hown ⟨b, off, none⟩ m cx (rowCells size g m) hx (rowCells_len _ _ _) (at_newsC hsz hA) (row_cells_one hsz h1) hm h63 hbytes hbase _ rfl ?_
    intro g9 cap9 w10 hown10 hgr _ _
    exact h _ _ _ hown10 hgr
theorem wpList_append_any {rest : List Oper} (hgd : o.guard = none) (s x : Operand) (t : TypeId) (ho : o.op = .call { callee := .builtin .append, args := #[s, x], argTypes := #[t, t] })
    (base : Nat) (e : TypeId) (i : TypeInfo) (z : Value) (size bytes : Nat) (ht : P.underlying t = some (.slice e)) (hi : P.info? e = some i) (hz : i.zero = some z)
    (hsize : i.size = size) (hby : i.bytes = bytes) (hzs : z.cells.size = size) (hsz : 0 < size)
    (v : Value) (n : Nat) (xs : List Value) (hs : a.eval s = v) (hown : w.ownsRow base e size v n xs)
    (g : Nat → Nat → Value) (m : Nat) (vx : Value) (hx : a.eval x = vx) (hsl : Sl size g m vx w) (h1 : ∀ i, i < m → ∀ j, j < size → (g i j).oneCell' = true)
    (h63 : n + m ≤ maxLen) (hbytes : (n + m) * bytes ≤ 140737488355328) (hbase : base ≤ w.heap.size)
    (N : Nat) (hN : n + m = N) (h : ∀ a' c' w', w'.ownsRow base e size (.slice a' N c') N (xs ++ rowCells size g m) → w.grownBy w' v.ownBlock → wpList P ops Q rest (a.put o.dst (.slice a' N c')) w') : wpList P ops Q (o :: rest) a w := by
  subst hN
  obtain ⟨ax, cx, rfl, hx1, hx2, hx3⟩ := hsl
  rcases Nat.eq_zero_or_pos m with hm | hm
  · subst hm
    obtain ⟨av, cv, rfl, hc⟩ := own_form hown
    refine wpList_append_nothing7 hgd s x t ho e i ht hi av n cv hs hc _ hx (src_none ht ax cx) ?_
    refine h av cv w ?_ (grown_self w _)
    rw [rowCells_zero, List.append_nil, Nat.add_zero]
    exact hown
  · obtain ⟨b, off, rfl, hA⟩ := hx3 hm
    refine wpList_append_own w hgd s x t ho base e i z size bytes ht hi hz hsize hby hzs hsz v n xs hs hown ⟨b, off, none⟩ m cx (rowCells size g m) hx (rowCells_len _ _ _) (at_newsC hsz hA) (row_cells_one hsz h1) h63 hbytes hbase ?_
    intro v' w' hown' hgr _
    obtain ⟨av, cv, rfl, _⟩ := own_form hown'
    exact h _ _ _ hown' hgr
end

end Go.Proofs.YthkfaeplmmlnlaaGreat
namespace Go.Proofs.YthkfaeplmmlnlaaGreat
open Go.RowKit Go.Deep
set_option linter.unusedVariables false
set_option maxRecDepth 100000

def zE : Evn := ⟨0, 0, 0, 0, 0⟩
def evF (W : List Evn) : Nat → Evn := fun i => W.getD i zE
/-- states' cells: g: where each one's words lie -/
def gT (S : Nat → Sta) (g : Nat → Value) : Nat → Nat → Value := fun i j => match j with
  | 0 => g i
  | 1 => .int .i64 (S i).sent
  | _ => .int .i64 (S i).dice
/-- what was handled -/
structure Dn where
  e : Evn
  f : Int
def gD (D : Nat → Dn) : Nat → Nat → Value := fun i j => match j with
  | 0 => .float .f64 (D i).e.t
  | 1 => .int .i64 (D i).e.src
  | 2 => .int .i64 (D i).e.n
  | 3 => .int .i64 (D i).e.dst
  | 4 => .int .i64 (D i).e.pay
  | _ => .int .i64 (D i).f
def StsAt (S : Nat → Sta) (n : Nat) (v : Value) (u : World) : Prop := ∃ g, Sl 3 (gT S g) n v u ∧ ∀ k, k < n → Sl 1 (gW (S k).w) (S k).nw (g k) u
theorem StsAt.below {S : Nat → Sta} {n : Nat} {v : Value} {u u2 : World} (h : StsAt S n v u) (k : Below u.heap.size u u2) : StsAt S n v u2 := by
  obtain ⟨g, h1, h2⟩ := h
  exact ⟨g, h1.below k, fun i hi => (h2 i hi).below k⟩

end Go.Proofs.YthkfaeplmmlnlaaGreat
namespace Go.Proofs.YthkfaeplmmlnlaaGreat
open Go.RowKit Go.Deep
set_option linter.unusedVariables false
set_option maxRecDepth 100000

theorem cmpNaN_any (a : Int) (w : World) : Calls Tryz.prog 93 #[.int .i64 a] w fun e w' => e = .returned (.bool false) ∧ w' = w := by
  have d0 : (a != a) = false := by simp
  go_enter Tryz.func93, Tryz.ntmps93
  go_wp2_with fail
  go_ret
  exact ⟨rfl, rfl⟩
theorem cmpInt_any (a b : Int) (w : World) : Calls Tryz.prog 78 #[.int .i64 a, .int .i64 b] w fun e w' => e = .returned (.int .i64 (signI a b)) ∧ w' = w := by
  have HA := Lib.hid (cmpNaN_any a)
  have HB := Lib.hid (cmpNaN_any b)
  go_enter Tryz.func78, Tryz.ntmps78
  rcases Int.lt_trichotomy a b with h | h | h
  · have d0 : decide (a < b) = true := by simp [h]
    rw [show signI a b = -1 from if_pos h]
    clear h
    go_wp2_with (first
      | (go_at_call 93; with_reducible refine (HA.out _).mono ?_; rintro e w1 ⟨rfl, hw1⟩; subst w1)
      | (go_at_call 93; with_reducible refine (HB.out _).mono ?_; rintro e w1 ⟨rfl, hw1⟩; subst w1))
    go_ret
    exact ⟨rfl, rfl⟩
  · have d0 : decide (a < b) = false := by simp; omega
    have d1 : decide (b < a) = false := by simp; omega
    rw [show signI a b = 0 from by unfold signI; rw [if_neg (by omega), if_neg (by omega)]]
    have HH := Lib.hid h
    clear h
    go_wp2_with (first
      | (go_at_call 93; with_reducible refine (HA.out _).mono ?_; rintro e w1 ⟨rfl, hw1⟩; subst w1)
      | (go_at_call 93; with_reducible refine (HB.out _).mono ?_; rintro e w1 ⟨rfl, hw1⟩; subst w1))
    go_ret
    exact ⟨rfl, rfl⟩
  · have d0 : decide (a < b) = false := by simp; omega
    have d1 : decide (b < a) = true := by simp [h]
    rw [show signI a b = 1 from by unfold signI; rw [if_neg (by omega), if_pos h]]
    clear h
    go_wp2_with (first
      | (go_at_call 93; with_reducible refine (HA.out _).mono ?_; rintro e w1 ⟨rfl, hw1⟩; subst w1)
      | (go_at_call 93; with_reducible refine (HB.out _).mono ?_; rintro e w1 ⟨rfl, hw1⟩; subst w1))
    go_ret
    exact ⟨rfl, rfl⟩

set_option maxHeartbeats 1600000 in
theorem or5_any (f : Nat → Int) (lb : Nat) (u1 : World) (XL : Hid (∀ i, i < 5 → u1.cell? ⟨lb, i, none⟩ = some (.int .i64 (f i)))) :
    Calls Tryz.prog 76 #[.slice (some ⟨lb, 0, none⟩) 5 5] u1 fun e w' => e = .returned (.int .i64 (firstNZ f)) ∧ w' = u1 := by

  obtain ⟨res, hr⟩ : ∃ r, r = firstNZ f := ⟨_, rfl⟩
  have E := Lib.hid hr
  rw [← hr]
  clear hr
  go_enter Tryz.func76, Tryz.ntmps76
  go_wp2_with fail
  go_loopw [8] (fun x wr => ∃ j : Nat, j ≤ 5 ∧ x = .int .i64 j ∧ (∀ i, i < j → f i = 0) ∧ wr = u1) (fun x _ => 5 - (intOf x).toNat)
  case atStart => exact ⟨0, Nat.zero_le _, rfl, fun i hi => absurd hi (Nat.not_lt_zero i), rfl⟩
  case round =>
    obtain ⟨j, hj, rfl, hz, hw⟩ := hrel
    subst wr
    have HZ := Lib.hid hz
    clear hz
    by_cases hlt : j < 5
    · have cj := XL.out j hlt
      have hj2 : (j : Int) < 5 := by omega
      have hj0 : (0 : Int) ≤ (j : Int) := by omega
      have hjt : ((j : Nat) : Int).toNat = j := by omega
      by_cases h0 : f j = 0
      · have H0 := Lib.hid h0
        rw [h0] at cj
        clear h0
        go_wp2_with fail
        go_roundw
        case rel =>
          refine ⟨j + 1, by omega, by go_num, fun i hi => ?_, trivial⟩
          rcases Nat.lt_succ_iff_lt_or_eq.1 hi with h | h
          · exact HZ.out i h
          · rw [h]; exact H0.out
        case measure => simp [intOf]; omega
      · have d0 : (f j != 0) = true := by simp [h0]
        have e1 : res = f j := by rw [E.out]; exact firstNZ_at hlt HZ.out h0
        subst e1
        clear h0 E
        go_wp2_with fail
        go_ret
        exact ⟨rfl, rfl⟩
    · obtain rfl : j = 5 := by omega
      have e1 : res = 0 := by rw [E.out]; exact firstNZ_none HZ.out
      subst e1
      clear E
      go_wp2_with fail
      go_ret
      exact ⟨rfl, rfl⟩

set_option maxHeartbeats 3200000 in
theorem compare8_any (a b : Evn) (w : World) :
    Calls Tryz.prog 55 #[eval8 a, eval8 b] w fun e w' => e = .returned (.int .i64 (cmpE a b)) ∧ Below w.heap.size w w' := by
  unfold eval8
  have X1 : Hid (((w.alloc (.cells #[.float .f64 a.t, .int .i64 a.src, .int .i64 a.n, .int .i64 a.dst, .int .i64 a.pay] 41)).alloc (.cells #[.float .f64 b.t, .int .i64 b.src, .int .i64 b.n, .int .i64 b.dst, .int .i64 b.pay] 41)).heap[w.heap.size]? = some (.cells #[.float .f64 a.t, .int .i64 a.src, .int .i64 a.n, .int .i64 a.dst, .int .i64 a.pay] 41)) := (Below.heap_alloc _ _ _ (by rw [World.size_alloc]; omega)).trans (heap_alloc_new w _)
  have X2 : Hid (((w.alloc (.cells #[.float .f64 a.t, .int .i64 a.src, .int .i64 a.n, .int .i64 a.dst, .int .i64 a.pay] 41)).alloc (.cells #[.float .f64 b.t, .int .i64 b.src, .int .i64 b.n, .int .i64 b.dst, .int .i64 b.pay] 41)).heap[w.heap.size + 1]? = some (.cells #[.float .f64 b.t, .int .i64 b.src, .int .i64 b.n, .int .i64 b.dst, .int .i64 b.pay] 41)) := by
    have := heap_alloc_new (w.alloc (.cells #[.float .f64 a.t, .int .i64 a.src, .int .i64 a.n, .int .i64 a.dst, .int .i64 a.pay] 41)) (.cells #[.float .f64 b.t, .int .i64 b.src, .int .i64 b.n, .int .i64 b.dst, .int .i64 b.pay] 41)
    rwa [World.size_alloc] at this
  have B1 := Lib.hid (bthen (balloc w (.cells #[.float .f64 a.t, .int .i64 a.src, .int .i64 a.n, .int .i64 a.dst, .int .i64 a.pay] 41)) (balloc _ (.cells #[.float .f64 b.t, .int .i64 b.src, .int .i64 b.n, .int .i64 b.dst, .int .i64 b.pay] 41)))
  have E : Hid (cmpE a b = firstNZ (partsE a b)) := rfl
  obtain ⟨f, hf⟩ : ∃ f, f = partsE a b := ⟨_, rfl⟩
  have f0 : f 0 = cmpT a.t b.t := by rw [hf]; rfl
  have f1 : f 1 = signI a.dst b.dst := by rw [hf]; rfl
  have f2 : f 2 = signI a.src b.src := by rw [hf]; rfl
  have f3 : f 3 = signI a.n b.n := by rw [hf]; rfl
  have f4 : f 4 = signI a.pay b.pay := by rw [hf]; rfl
  rw [← hf] at E
  rw [E.out]
  have HT : Hid (∀ w, Calls Tryz.prog 77 #[.float .f64 a.t, .float .f64 b.t] w fun e w' => e = .returned (.int .i64 (f 0)) ∧ w = w') := by rw [f0]; exact times_any _ _
  have H1 : Hid (∀ w, Calls Tryz.prog 78 #[.int .i64 a.dst, .int .i64 b.dst] w fun e w' => e = .returned (.int .i64 (f 1)) ∧ w' = w) := by rw [f1]; exact cmpInt_any _ _
  have H2 : Hid (∀ w, Calls Tryz.prog 78 #[.int .i64 a.src, .int .i64 b.src] w fun e w' => e = .returned (.int .i64 (f 2)) ∧ w' = w) := by rw [f2]; exact cmpInt_any _ _
  have H3 : Hid (∀ w, Calls Tryz.prog 78 #[.int .i64 a.n, .int .i64 b.n] w fun e w' => e = .returned (.int .i64 (f 3)) ∧ w' = w) := by rw [f3]; exact cmpInt_any _ _
  have H4 : Hid (∀ w, Calls Tryz.prog 78 #[.int .i64 a.pay, .int .i64 b.pay] w fun e w' => e = .returned (.int .i64 (f 4)) ∧ w' = w) := by rw [f4]; exact cmpInt_any _ _
  clear f0 f1 f2 f3 f4 hf E
  generalize hu : (w.alloc (.cells #[.float .f64 a.t, .int .i64 a.src, .int .i64 a.n, .int .i64 a.dst, .int .i64 a.pay] 41)).alloc (.cells #[.float .f64 b.t, .int .i64 b.src, .int .i64 b.n, .int .i64 b.dst, .int .i64 b.pay] 41) = u at *
  go_enter Tryz.func55, Tryz.ntmps55
  go_upto_region 1 with fail
  try rw [hu]
  clear hu
  have XA : Hid (u.drew.heap[w.heap.size]? = some (.cells #[.float .f64 a.t, .int .i64 a.src, .int .i64 a.n, .int .i64 a.dst, .int .i64 a.pay] 41)) := X1.out
  have XB : Hid (u.drew.heap[w.heap.size + 1]? = some (.cells #[.float .f64 b.t, .int .i64 b.src, .int .i64 b.n, .int .i64 b.dst, .int .i64 b.pay] 41)) := X2.out
  have L0 := Lib.hid B1.out.drew
  obtain ⟨x0, x1, x2, x3, x4⟩ := five_cells8 XA.out
  obtain ⟨y0, y1, y2, y3, y4⟩ := five_cells8 XB.out
  have ss : (fun w' => w'.cell? ⟨w.heap.size, 0, none⟩ = some (.float .f64 a.t) ∧ w'.cell? ⟨w.heap.size, 1, none⟩ = some (.int .i64 a.src) ∧ w'.cell? ⟨w.heap.size, 2, none⟩ = some (.int .i64 a.n) ∧ w'.cell? ⟨w.heap.size, 3, none⟩ = some (.int .i64 a.dst) ∧ w'.cell? ⟨w.heap.size, 4, none⟩ = some (.int .i64 a.pay) ∧ w'.cell? ⟨w.heap.size + 1, 0, none⟩ = some (.float .f64 b.t) ∧ w'.cell? ⟨w.heap.size + 1, 1, none⟩ = some (.int .i64 b.src) ∧ w'.cell? ⟨w.heap.size + 1, 2, none⟩ = some (.int .i64 b.n) ∧ w'.cell? ⟨w.heap.size + 1, 3, none⟩ = some (.int .i64 b.dst) ∧ w'.cell? ⟨w.heap.size + 1, 4, none⟩ = some (.int .i64 b.pay)) u.drew := ⟨x0, x1, x2, x3, x4, y0, y1, y2, y3, y4⟩
  clear x0 x1 x2 x3 x4 y0 y1 y2 y3 y4 X1 X2 B1
  refine wp_region_held_drew (S := (fun w' => w'.cell? ⟨w.heap.size, 0, none⟩ = some (.float .f64 a.t) ∧ w'.cell? ⟨w.heap.size, 1, none⟩ = some (.int .i64 a.src) ∧ w'.cell? ⟨w.heap.size, 2, none⟩ = some (.int .i64 a.n) ∧ w'.cell? ⟨w.heap.size, 3, none⟩ = some (.int .i64 a.dst) ∧ w'.cell? ⟨w.heap.size, 4, none⟩ = some (.int .i64 a.pay) ∧ w'.cell? ⟨w.heap.size + 1, 0, none⟩ = some (.float .f64 b.t) ∧ w'.cell? ⟨w.heap.size + 1, 1, none⟩ = some (.int .i64 b.src) ∧ w'.cell? ⟨w.heap.size + 1, 2, none⟩ = some (.int .i64 b.n) ∧ w'.cell? ⟨w.heap.size + 1, 3, none⟩ = some (.int .i64 b.dst) ∧ w'.cell? ⟨w.heap.size + 1, 4, none⟩ = some (.int .i64 b.pay))) (by kernel_rfl) ?_ (fun hHeld => ?_)
  · exact ss
  change wpAnyH _ _ _ _ _ _ _ _ (World.drew u)
  generalize u.drew = u0 at *
  first | refine tq0 0 rfl ?_ | refine tq1 0 rfl ?_
  try go_frame
  first | refine tq0 1 rfl ?_ | refine tq1 1 rfl ?_
  try go_frame
  first | refine tq0 2 rfl ?_ | refine tq1 2 rfl ?_
  try go_frame
  first | refine tq0 3 rfl ?_ | refine tq1 3 rfl ?_
  try go_frame
  first | refine tq0 4 rfl ?_ | refine tq1 4 rfl ?_
  try go_frame
  first | refine tq0 5 rfl ?_ | refine tq1 5 rfl ?_
  try go_frame
  first | refine tq0 7 rfl ?_ | refine tq1 7 rfl ?_
  try go_frame
  first | refine tq0 8 rfl ?_ | refine tq1 8 rfl ?_
  try go_frame
  first | refine tq0 9 rfl ?_ | refine tq1 9 rfl ?_
  try go_frame
  first | refine tq0 10 rfl ?_ | refine tq1 10 rfl ?_
  try go_frame
  first | refine tq0 12 rfl ?_ | refine tq1 12 rfl ?_
  try go_frame
  first | refine tq0 13 rfl ?_ | refine tq1 13 rfl ?_
  try go_frame
  first | refine tq0 14 rfl ?_ | refine tq1 14 rfl ?_
  try go_frame
  first | refine tq0 15 rfl ?_ | refine tq1 15 rfl ?_
  try go_frame
  first | refine tq0 16 rfl ?_ | refine tq1 16 rfl ?_
  try go_frame
  first | refine tq0 17 rfl ?_ | refine tq1 17 rfl ?_
  try go_frame
  first | refine tq0 19 rfl ?_ | refine tq1 19 rfl ?_
  try go_frame
  first | refine tq0 20 rfl ?_ | refine tq1 20 rfl ?_
  try go_frame
  first | refine tq0 21 rfl ?_ | refine tq1 21 rfl ?_
  try go_frame
  first | refine tq0 22 rfl ?_ | refine tq1 22 rfl ?_
  try go_frame
  first | refine tq0 23 rfl ?_ | refine tq1 23 rfl ?_
  try go_frame
  first | refine tq0 24 rfl ?_ | refine tq1 24 rfl ?_
  try go_frame
  first | refine tq0 26 rfl ?_ | refine tq1 26 rfl ?_
  try go_frame
  first | refine tq0 27 rfl ?_ | refine tq1 27 rfl ?_
  try go_frame
  first | refine tq0 28 rfl ?_ | refine tq1 28 rfl ?_
  try go_frame
  first | refine tq0 29 rfl ?_ | refine tq1 29 rfl ?_
  try go_frame
  refine wpAnyH_ready (rs := [6]) (by kernel_rfl) (by simp) ?_
  refine AllReadyH.cons (o := ⟨_, _, _, _, _, _⟩) rfl (fun K hK => ?_) AllReadyH.nil
  go_simp
  go_at_call 77
  refine (HT.out _).mono ?_
  rintro e w1 ⟨rfl, hw1⟩
  subst w1
  refine hK.out _ _ ?_ (fun hHeld => ?_)
  · exact hHeld
  clear hK K
  try go_frame
  refine wpAnyH_ready (rs := [11]) (by kernel_rfl) (by simp) ?_
  refine AllReadyH.cons (o := ⟨_, _, _, _, _, _⟩) rfl (fun K hK => ?_) AllReadyH.nil
  go_simp
  go_at_call 78
  refine (H1.out _).mono ?_
  rintro e w1 ⟨rfl, hw1⟩
  subst w1
  refine hK.out _ _ ?_ (fun hHeld => ?_)
  · exact hHeld
  clear hK K
  try go_frame
  refine wpAnyH_ready (rs := [18]) (by kernel_rfl) (by simp) ?_
  refine AllReadyH.cons (o := ⟨_, _, _, _, _, _⟩) rfl (fun K hK => ?_) AllReadyH.nil
  go_simp
  go_at_call 78
  refine (H2.out _).mono ?_
  rintro e w1 ⟨rfl, hw1⟩
  subst w1
  refine hK.out _ _ ?_ (fun hHeld => ?_)
  · exact hHeld
  clear hK K
  try go_frame
  refine wpAnyH_ready (rs := [25]) (by kernel_rfl) (by simp) ?_
  refine AllReadyH.cons (o := ⟨_, _, _, _, _, _⟩) rfl (fun K hK => ?_) AllReadyH.nil
  go_simp
  go_at_call 78
  refine (H3.out _).mono ?_
  rintro e w1 ⟨rfl, hw1⟩
  subst w1
  refine hK.out _ _ ?_ (fun hHeld => ?_)
  · exact hHeld
  clear hK K
  try go_frame
  refine wpAnyH_ready (rs := [30]) (by kernel_rfl) (by simp) ?_
  refine AllReadyH.cons (o := ⟨_, _, _, _, _, _⟩) rfl (fun K hK => ?_) AllReadyH.nil
  go_simp
  go_at_call 78
  refine (H4.out _).mono ?_
  rintro e w1 ⟨rfl, hw1⟩
  subst w1
  refine hK.out _ _ ?_ (fun hHeld => ?_)
  · exact hHeld
  clear hK K
  try go_frame
  refine wpAnyH_ready (rs := [31]) (by kernel_rfl) (by simp) ?_
  refine AllReadyH.cons (o := ⟨_, _, _, _, _, _⟩) rfl (fun K hK => ?_) AllReadyH.nil
  go_simp
  have XC := Lib.hid (heap_alloc_new u0 (.cells #[.int .i64 (f 0), .int .i64 (f 1), .int .i64 (f 2), .int .i64 (f 3), .int .i64 (f 4)] 3))
  have LC := Lib.hid (L0.out.trans ((balloc u0 (.cells #[.int .i64 (f 0), .int .i64 (f 1), .int .i64 (f 2), .int .i64 (f 3), .int .i64 (f 4)] 3)).mono L0.out.size))
  obtain ⟨x0, x1, x2, x3, x4⟩ := five_cells8 ((Below.heap_alloc u0 (.cells #[.int .i64 (f 0), .int .i64 (f 1), .int .i64 (f 2), .int .i64 (f 3), .int .i64 (f 4)] 3) _ (lt_of_block XA.out)).trans XA.out)
  obtain ⟨y0, y1, y2, y3, y4⟩ := five_cells8 ((Below.heap_alloc u0 (.cells #[.int .i64 (f 0), .int .i64 (f 1), .int .i64 (f 2), .int .i64 (f 3), .int .i64 (f 4)] 3) _ (lt_of_block XB.out)).trans XB.out)
  have ss1 : (fun w' => w'.cell? ⟨w.heap.size, 0, none⟩ = some (.float .f64 a.t) ∧ w'.cell? ⟨w.heap.size, 1, none⟩ = some (.int .i64 a.src) ∧ w'.cell? ⟨w.heap.size, 2, none⟩ = some (.int .i64 a.n) ∧ w'.cell? ⟨w.heap.size, 3, none⟩ = some (.int .i64 a.dst) ∧ w'.cell? ⟨w.heap.size, 4, none⟩ = some (.int .i64 a.pay) ∧ w'.cell? ⟨w.heap.size + 1, 0, none⟩ = some (.float .f64 b.t) ∧ w'.cell? ⟨w.heap.size + 1, 1, none⟩ = some (.int .i64 b.src) ∧ w'.cell? ⟨w.heap.size + 1, 2, none⟩ = some (.int .i64 b.n) ∧ w'.cell? ⟨w.heap.size + 1, 3, none⟩ = some (.int .i64 b.dst) ∧ w'.cell? ⟨w.heap.size + 1, 4, none⟩ = some (.int .i64 b.pay)) (u0.alloc (.cells #[.int .i64 (f 0), .int .i64 (f 1), .int .i64 (f 2), .int .i64 (f 3), .int .i64 (f 4)] 3)) := ⟨x0, x1, x2, x3, x4, y0, y1, y2, y3, y4⟩
  clear x0 x1 x2 x3 x4 y0 y1 y2 y3 y4 ss
  refine hK.out _ _ ?_ (fun hHeld => ?_)
  · exact ss1
  clear hK K
  try go_frame
  clear ss1
  generalize u0.alloc (.cells #[.int .i64 (f 0), .int .i64 (f 1), .int .i64 (f 2), .int .i64 (f 3), .int .i64 (f 4)] 3) = u1 at *
  generalize u0.heap.size = lb at *
  have XL : Hid (∀ i, i < 5 → u1.cell? ⟨lb, i, none⟩ = some (.int .i64 (f i))) := fun i hi => by
    rw [Lib.cell_of_heap XC.out]
    have hc : i = 0 ∨ i = 1 ∨ i = 2 ∨ i = 3 ∨ i = 4 := by omega
    rcases hc with rfl | rfl | rfl | rfl | rfl <;> rfl
  refine wpAnyH_ready (rs := [32]) (by kernel_rfl) (by simp) ?_
  refine AllReadyH.cons (o := ⟨_, _, _, _, _, _⟩) rfl (fun K hK => ?_) AllReadyH.nil
  go_simp
  go_at_call 76
  refine (or5_any f lb u1 XL).mono ?_
  rintro e w1 ⟨rfl, hw1⟩
  subst w1
  refine hK.out _ _ ?_ (fun hHeld => ?_)
  · exact hHeld
  clear hK K
  try go_frame
  first | refine tq0 33 rfl ?_ | refine tq1 33 rfl ?_
  try go_frame
  refine wpAnyH_done (by kernel_rfl) ?_ _
  clear hHeld
  go_wp2_with fail
  go_ret
  exact ⟨rfl, LC.out⟩
theorem compareAny : CompareAny := fun a b w => by
  have := compare8_any a b w
  rwa [cmpE_ord] at this

end Go.Proofs.YthkfaeplmmlnlaaGreat
