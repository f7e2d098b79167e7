/- The program's store in memory: its disk, its map, its rows, apart from each other. What the laws ask of the program's store, its fallen and its crashed disk: the predicates, and what keeps them. The contract of the program's Write. What a store calls: pages written and read, its map. -/
import Derived.Test.YtdpmpmaepjgndaaGreatYZ24
import Derived.Test.YtdpmpmaepjgndaaGreatYZ4
import Derived.Test.YtdpmpmaepjgndaaGreatYZ26
import Derived.Test.YtdpmpmaepjgndaaGreatYZ27
import Derived.Test.YtdpmpmaepjgndaaGreatYZ29
import Derived.Test.YtdpmpmaepjgndaaGreatYZ17
import Derived.Test.YtdpmpmaepjgndaaGreatYZ28
import Derived.Test.YtdpmpmaepjgndaaGreatYZ14
import Derived.Test.YtdpmpmaepjgndaaGreatYZ5
namespace Go.Proofs.YtdpmpmaepjgndaaGreat
open Go.RowKit Go.Deep
set_option linter.unusedVariables false
set_option linter.unusedSimpArgs false
set_option maxRecDepth 100000

def obB (v : Value) (k : Nat) : Bool := decide (v.ownBlock = some k)
theorem obB_iff {v : Value} {k : Nat} : obB v k = true ↔ v.ownBlock = some k := by simp [obB]
/-- a store's own cells: its disk, its table, the committed one, its map, epoch, slot, parts -/
structure StoA (D M : Nat) (ep : Int) (slot : Nat) (tb ot : Nat → Int) (vp : Value) (A : Array Value) : Prop where
  sz : A.size = 1030
  c0 : A[0]? = some (.pointer (some ⟨D, 0, none⟩))
  now : ∀ l, l < 512 → A[1 + l]? = some (.int .i64 (tb l))
  old : ∀ l, l < 512 → A[513 + l]? = some (.int .i64 (ot l))
  cm : A[1025]? = some (.pointer (some ⟨M, 0, none⟩))
  ce : A[1026]? = some (.int .i64 ep)
  cs : A[1027]? = some (.int .i64 (slot : Int))
  cp : A[1028]? = some vp
  cb : A[1029]? = some (.bool false)
theorem StoA.set {D M : Nat} {ep : Int} {slot : Nat} {tb ot : Nat → Int} {vp : Value} {A : Array Value} (h : StoA D M ep slot tb ot vp A) {l : Nat} (hl : l < 512) (z : Int) : StoA D M ep slot (upd tb l z) ot vp (A.setIfInBounds (1 + l) (.int .i64 z)) := by
  have ne : ∀ i, i ≠ 1 + l → (A.setIfInBounds (1 + l) (.int .i64 z))[i]? = A[i]? := fun i hi => by rw [Array.getElem?_setIfInBounds, if_neg (fun e => hi e.symm)]
  refine ⟨by rw [Array.size_setIfInBounds]; exact h.sz, by rw [ne 0 (by omega)]; exact h.c0, fun k hk => ?_, fun k hk => by rw [ne _ (by omega)]; exact h.old k hk, by rw [ne _ (by omega)]; exact h.cm, by rw [ne _ (by omega)]; exact h.ce, by rw [ne _ (by omega)]; exact h.cs, by rw [ne _ (by omega)]; exact h.cp, by rw [ne _ (by omega)]; exact h.cb⟩
  unfold upd
  by_cases c : k = l
  · subst c
    rw [if_pos rfl, Array.getElem?_setIfInBounds, if_pos rfl, if_pos (by rw [h.sz]; omega)]
  · rw [if_neg c, ne _ (by omega)]
    exact h.now k hk
/-- all its blocks -/
def stoS (P D bS bm : Nat) (SK : Nat → Bool) (vp : Value) (k : Nat) : Bool := k == P || P3 D bS bm k || SK k || obB vp k
/-- a row is apart from all the others -/
structure Apt (P D bS bm : Nat) (SK : Nat → Bool) (v : Value) : Prop where
  p : v.ownBlock ≠ some P
  d : ∀ b, v.ownBlock = some b → P3 D bS bm b = false
  k : ∀ b, v.ownBlock = some b → SK b = false
structure StoM (base D P M bS bm cS : Nat) (d : Dk) (n : Nat) (K : Nat → Nat) (ep : Int) (slot : Nat) (tb : Nat → Int) (ot parts : List Int) (vp : Value) (SK : Nat → Bool) (u : World) : Prop where
  dk : PDk base D bS bm cS d u
  mp : PFm base M n K SK u
  box : ∃ A, u.heap[P]? = some (.cells A 81 (0, 0)) ∧ StoA D M ep slot tb (atL ot) vp A
  par : LstI parts vp u
  lo : base ≤ P
  plo : ∀ b, vp.ownBlock = some b → base ≤ b ∧ b < u.heap.size
  pd : P3 D bS bm P = false
  pk : SK P = false
  dks : ∀ k, P3 D bS bm k = true → SK k = false
  pa : Apt P D bS bm SK vp
theorem LstI.kps {S : Nat → Bool} {u u2 : World} {l : List Int} {v : Value} (h : LstI l v u) (hS : ∀ g, v.ownBlock = some g → S g = false) (k : KpS S u u2) : LstI l v u2 := by
  obtain ⟨ao, cap, e, h1, h2, h3⟩ := h
  refine ⟨ao, cap, e, h1, h2, fun hn => ?_⟩
  obtain ⟨b, o, e2, hA⟩ := h3 hn
  refine ⟨b, o, e2, Nat.lt_of_lt_of_le hA.1 k.size, fun i hi j hj => ?_⟩
  rw [← hA.2 i hi j hj]
  exact World.cell?_of_block (k.blk hA.1 (hS b (by rw [e, e2]; rfl)))
section
variable {base D P M bS bm cS n : Nat} {d d2 : Dk} {K K2 : Nat → Nat} {ep : Int} {slot : Nat} {tb : Nat → Int} {ot parts : List Int} {vp : Value} {SK SK2 T : Nat → Bool} {u u2 : World}
theorem stoS_iff {k : Nat} : stoS P D bS bm SK vp k = true ↔ k = P ∨ P3 D bS bm k = true ∨ SK k = true ∨ vp.ownBlock = some k := by
  unfold stoS
  simp only [Bool.or_eq_true, beq_iff_eq, obB_iff, or_assoc]
theorem StoM.plt (h : StoM base D P M bS bm cS d n K ep slot tb ot parts vp SK u) : P < u.heap.size := by
  obtain ⟨A, e, _⟩ := h.box
  exact lt_of_block e
theorem StoM.boxed (h : StoM base D P M bS bm cS d n K ep slot tb ot parts vp SK u) (e : u2.heap[P]? = u.heap[P]?) : ∃ A, u2.heap[P]? = some (.cells A 81 (0, 0)) ∧ StoA D M ep slot tb (atL ot) vp A := by
  obtain ⟨A, e2, hA⟩ := h.box
  exact ⟨A, e.trans e2, hA⟩
/-- what is written is none of its blocks -/
theorem StoM.kept (h : StoM base D P M bS bm cS d n K ep slot tb ot parts vp SK u) (hT : ∀ k, stoS P D bS bm SK vp k = true → T k = false) (k : KpS T u u2) : StoM base D P M bS bm cS d n K ep slot tb ot parts vp SK u2 := by
  have t : ∀ q, (q = P ∨ P3 D bS bm q = true ∨ SK q = true ∨ vp.ownBlock = some q) → T q = false := fun q hq => hT q (stoS_iff.2 hq)
  obtain ⟨l1, l2, l3⟩ := h.dk.lt
  exact { h with
    dk := h.dk.kept (k.blk l1 (t _ (.inr (.inl (P3.a _ _ _))))) (k.blk l2 (t _ (.inr (.inl (P3.b _ _ _))))) (k.blk l3 (t _ (.inr (.inl (P3.c _ _ _)))))
    mp := h.mp.kept (fun q hq => t q (.inr (.inr (.inl hq)))) k
    box := h.boxed (k.blk h.plt (t _ (.inl rfl)))
    par := h.par.kps (fun g hg => t g (.inr (.inr (.inr hg)))) k
    plo := fun b hb => ⟨(h.plo b hb).1, Nat.lt_of_lt_of_le (h.plo b hb).2 k.size⟩ }
theorem StoM.below (h : StoM base D P M bS bm cS d n K ep slot tb ot parts vp SK u) (k : Below u.heap.size u u2) : StoM base D P M bS bm cS d n K ep slot tb ot parts vp SK u2 := h.kept (T := noB) (fun _ _ => rfl) (KpS.of k)
theorem StoM.s_lo (h : StoM base D P M bS bm cS d n K ep slot tb ot parts vp SK u) : ∀ k, stoS P D bS bm SK vp k = true → base ≤ k ∧ k < u.heap.size := by
  intro k hk
  obtain ⟨l1, l2, l3⟩ := h.dk.lt
  obtain ⟨o1, o2, o3⟩ := h.dk.lo
  rcases stoS_iff.1 hk with rfl | hk | hk | hk
  · exact ⟨h.lo, h.plt⟩
  · unfold P3 at hk
    simp only [Bool.or_eq_true, beq_iff_eq] at hk
    rcases hk with (rfl | rfl) | rfl
    · exact ⟨o1, l1⟩
    · exact ⟨o2, l2⟩
    · exact ⟨o3, l3⟩
  · exact h.mp.s_lo k hk
  · exact h.plo k hk
/-- its disk is written -/
theorem StoM.disk {bm2 : Nat} (h : StoM base D P M bS bm cS d n K ep slot tb ot parts vp SK u) (hd : PDk base D bS bm2 cS d2 u2) (hb : NewOr bm u bm2) (k : KpS (P3 D bS bm) u u2) : StoM base D P M bS bm2 cS d2 n K ep slot tb ot parts vp SK u2 := by
  have p2 : ∀ q, q < u.heap.size → P3 D bS bm q = false → P3 D bS bm2 q = false := fun q hq h0 => by
    unfold P3 at h0 ⊢
    simp only [Bool.or_eq_false_iff, beq_eq_false_iff_ne] at h0 ⊢
    rcases hb with rfl | hb
    · exact h0
    · exact ⟨h0.1, by omega⟩
  have apt : ∀ {v : Value}, (∀ b, v.ownBlock = some b → b < u.heap.size) → Apt P D bS bm SK v → Apt P D bS bm2 SK v := fun hl a => ⟨a.p, fun b hb => p2 b (hl b hb) (a.d b hb), a.k⟩
  exact
  { dk := hd
    mp := h.mp.kept (fun q hq => by
      cases c : P3 D bS bm q with
      | false => rfl
      | true => rw [h.dks q c] at hq; cases hq) k
    box := h.boxed (k.blk h.plt h.pd)
    par := h.par.kps h.pa.d k
    lo := h.lo
    plo := fun b hb => ⟨(h.plo b hb).1, Nat.lt_of_lt_of_le (h.plo b hb).2 k.size⟩
    pd := p2 P h.plt h.pd
    pk := h.pk
    dks := fun q hq => by
      cases c : P3 D bS bm q with
      | true => exact h.dks q c
      | false =>
        cases c2 : SK q with
        | false => rfl
        | true => have := p2 q (h.mp.s_lo q c2).2 c; rw [this] at hq; cases hq
    pa := apt (fun b hb => (h.plo b hb).2) h.pa }
/-- its map is written -/
theorem StoM.map (h : StoM base D P M bS bm cS d n K ep slot tb ot parts vp SK u) (hm : PFm base M n K2 SK2 u2) (hn : ∀ k, SK2 k = true → SK k = true ∨ u.heap.size ≤ k) (k : KpS SK u u2) : StoM base D P M bS bm cS d n K2 ep slot tb ot parts vp SK2 u2 := by
  obtain ⟨l1, l2, l3⟩ := h.dk.lt
  have no : ∀ q, P3 D bS bm q = true → SK q = false := h.dks
  have s2 : ∀ q, q < u.heap.size → SK q = false → SK2 q = false := fun q hq h0 => by
    cases c : SK2 q with
    | false => rfl
    | true =>
      rcases hn q c with h1 | h1
      · rw [h0] at h1; cases h1
      · omega
  have apt : ∀ {v : Value}, (∀ b, v.ownBlock = some b → b < u.heap.size) → Apt P D bS bm SK v → Apt P D bS bm SK2 v := fun hl a => ⟨a.p, a.d, fun b hb => s2 b (hl b hb) (a.k b hb)⟩
  exact
  { dk := h.dk.kept (k.blk l1 (no _ (P3.a _ _ _))) (k.blk l2 (no _ (P3.b _ _ _))) (k.blk l3 (no _ (P3.c _ _ _)))
    mp := hm
    box := h.boxed (k.blk h.plt h.pk)
    par := h.par.kps h.pa.k k
    lo := h.lo
    plo := fun b hb => ⟨(h.plo b hb).1, Nat.lt_of_lt_of_le (h.plo b hb).2 k.size⟩
    pd := h.pd
    pk := s2 P h.plt h.pk
    dks := fun q hq => by
      cases c : SK2 q with
      | false => rfl
      | true =>
        rcases hn q c with h1 | h1
        · rw [h.dks q hq] at h1; cases h1
        · unfold P3 at hq
          simp only [Bool.or_eq_true, beq_iff_eq] at hq
          omega
    pa := apt (fun b hb => (h.plo b hb).2) h.pa }
/-- its own cells are written: others stand there -/
theorem StoM.rebox {ep2 : Int} {slot2 : Nat} {tb2 : Nat → Int} {ot2 parts2 : List Int} {vp2 : Value} {A : Array Value} (h : StoM base D P M bS bm cS d n K ep slot tb ot parts vp SK u) (ks : KpS (fun q => q == P) u u2) (e : u2.heap[P]? = some (.cells A 81 (0, 0))) (hA : StoA D M ep2 slot2 tb2 (atL ot2) vp2 A) (hp : LstI parts2 vp2 u) (hlo : ∀ b, vp2.ownBlock = some b → base ≤ b ∧ b < u.heap.size) (ha : Apt P D bS bm SK vp2) : StoM base D P M bS bm cS d n K ep2 slot2 tb2 ot2 parts2 vp2 SK u2 := by
  have ne : ∀ q, q ≠ P → (fun q => q == P) q = false := fun q hq => by simpa using hq
  obtain ⟨l1, l2, l3⟩ := h.dk.lt
  have dn : ∀ q, P3 D bS bm q = true → q ≠ P := fun q hq e => by subst e; rw [h.pd] at hq; cases hq
  exact
  { dk := h.dk.kept (ks.blk l1 (ne _ (dn _ (P3.a _ _ _)))) (ks.blk l2 (ne _ (dn _ (P3.b _ _ _)))) (ks.blk l3 (ne _ (dn _ (P3.c _ _ _))))
    mp := h.mp.kept (fun q hq => ne q (fun e => by subst e; rw [h.pk] at hq; cases hq)) ks
    box := ⟨A, e, hA⟩
    par := hp.kps (fun b hb => ne b (fun e => ha.p (by rw [hb, e]))) ks
    lo := h.lo
    plo := fun b hb => ⟨(hlo b hb).1, Nat.lt_of_lt_of_le (hlo b hb).2 ks.size⟩
    pd := h.pd
    pk := h.pk
    dks := h.dks
    pa := ha }
/-- a cell of its table is written -/
theorem StoM.put (h : StoM base D P M bS bm cS d n K ep slot tb ot parts vp SK u) {l : Nat} (hl : l < 512) (z : Int) : StoM base D P M bS bm cS d n K ep slot (upd tb l z) ot parts vp SK (u.setCell ⟨P, 1 + l, none⟩ (.int .i64 z)) := by
  obtain ⟨A, e, hA⟩ := h.box
  exact h.rebox (KpS.set (b := P) (by simp) (1 + l) _ u) (Joins.block_setCell (i := 1 + l) e _) (hA.set hl z) h.par h.plo h.pa
theorem StoM.look (h : StoM base D P M bS bm cS d n K ep slot tb ot parts vp SK u) : u.cell? ⟨P, 0, none⟩ = some (.pointer (some ⟨D, 0, none⟩)) ∧ u.cell? ⟨P, 1025, none⟩ = some (.pointer (some ⟨M, 0, none⟩)) ∧ u.cell? ⟨P, 1026, none⟩ = some (.int .i64 ep) ∧ u.cell? ⟨P, 1027, none⟩ = some (.int .i64 (slot : Int)) ∧ u.cell? ⟨P, 1028, none⟩ = some vp ∧ u.cell? ⟨P, 1029, none⟩ = some (.bool false) ∧ ∀ q, u.frozen? ⟨P, q, none⟩ = false := by
  obtain ⟨A, e, hA⟩ := h.box
  exact ⟨(Lib.cell_of_heap e _).trans hA.c0, (Lib.cell_of_heap e _).trans hA.cm, (Lib.cell_of_heap e _).trans hA.ce, (Lib.cell_of_heap e _).trans hA.cs, (Lib.cell_of_heap e _).trans hA.cp, (Lib.cell_of_heap e _).trans hA.cb, fun q => Lib.frozen_of_heap e q⟩
/-- a table in memory: 512 cells from o on -/
def TabC (q o : Nat) (f : Nat → Int) (u : World) : Prop := ∃ A t, u.heap[q]? = some (.cells A t (0, 0)) ∧ ∀ l, l < 512 → A[o + l]? = some (.int .i64 (f l))
theorem TabC.cell {q o : Nat} {f : Nat → Int} (h : TabC q o f u) {l : Nat} (hl : l < 512) : u.cell? ⟨q, o + l, none⟩ = some (.int .i64 (f l)) := by
  obtain ⟨A, t, e, hA⟩ := h
  exact (Lib.cell_of_heap e _).trans (hA l hl)
theorem TabC.fz {q o : Nat} {f : Nat → Int} (h : TabC q o f u) (k : Nat) : u.frozen? ⟨q, k, none⟩ = false := by
  obtain ⟨A, t, e, hA⟩ := h
  exact Lib.frozen_of_heap e k
theorem TabC.below {q o : Nat} {f : Nat → Int} (h : TabC q o f u) (k : Below u.heap.size u u2) : TabC q o f u2 := by
  obtain ⟨A, t, e, hA⟩ := h
  exact ⟨A, t, heap_stays e k, hA⟩
theorem StoM.now (h : StoM base D P M bS bm cS d n K ep slot tb ot parts vp SK u) : TabC P 1 tb u := by
  obtain ⟨A, e, hA⟩ := h.box
  exact ⟨A, _, e, hA.now⟩
theorem StoM.was (h : StoM base D P M bS bm cS d n K ep slot tb ot parts vp SK u) : TabC P 513 (atL ot) u := by
  obtain ⟨A, e, hA⟩ := h.box
  exact ⟨A, _, e, hA.old⟩
end

end Go.Proofs.YtdpmpmaepjgndaaGreat
namespace Go.Proofs.YtdpmpmaepjgndaaGreat
open Go.RowKit Go.Deep
set_option linter.unusedVariables false
set_option linter.unusedSimpArgs false
set_option maxRecDepth 100000

/-- a store that holds x -/
structure PmAt (base D P : Nat) (x : Stt) (a : Nat) (M bS bm cS : Nat) (d : Dk) (n : Nat) (K : Nat → Nat) (tb : Nat → Int) (ot parts : List Int) (slot : Nat) (vp : Value) (SK : Nat → Bool) (u : World) : Prop where
  m : StoM base D P M bS bm cS d n K x.ep slot tb ot parts vp SK u
  h : HoldP d x n K tb ot parts slot
  arm : d.arm = a
  cl : d.calls ≤ x.cl
  dn : d.n ≤ 4096
  ab : d.arm ≤ 9223372036854775807
  sl : slot = 0 ∨ slot = 1
  nm : (n : Int) = manyP d.n
def PMx : StM := fun base D P x a S u => ∃ M bS bm cS d n K tb ot parts slot vp SK, PmAt base D P x a M bS bm cS d n K tb ot parts slot vp SK u ∧ S = stoS P D bS bm SK vp
def PFx : FlM := fun base D x nxt S u => ∃ bS bm cS d, PDk base D bS bm cS d u ∧ FallP d x nxt ∧ d.calls ≤ x.cl + 64 ∧ d.n ≤ 4096 ∧ x.many = manyP d.n ∧ (∀ k, (slA x.old k).fr = false) ∧ (∀ k, (slA nxt k).fr = false) ∧ S = P3 D bS bm
def PCx : FlM := fun base D x nxt S u => ∃ bS bm cS d, PDk base D bS bm cS d u ∧ CrashP d x nxt ∧ d.calls ≤ x.cl + 64 ∧ d.n ≤ 4096 ∧ x.many = manyP d.n ∧ (∀ k, (slA x.old k).fr = false) ∧ (∀ k, (slA nxt k).fr = false) ∧ S = P3 D bS bm
theorem pdk_kept {base D bS bm cS : Nat} {d : Dk} {T : Nat → Bool} {u u2 : World} (h : PDk base D bS bm cS d u) (hT : ∀ k, P3 D bS bm k = true → T k = false) (k : KpS T u u2) : PDk base D bS bm cS d u2 := by
  obtain ⟨l1, l2, l3⟩ := h.lt
  exact h.kept (k.blk l1 (hT _ (P3.a _ _ _))) (k.blk l2 (hT _ (P3.b _ _ _))) (k.blk l3 (hT _ (P3.c _ _ _)))
theorem pdk_lo {base D bS bm cS : Nat} {d : Dk} {u : World} (h : PDk base D bS bm cS d u) : ∀ k, P3 D bS bm k = true → base ≤ k ∧ k < u.heap.size := by
  obtain ⟨l1, l2, l3⟩ := h.lt
  obtain ⟨o1, o2, o3⟩ := h.lo
  intro k hk
  unfold P3 at hk
  simp only [Bool.or_eq_true, beq_iff_eq] at hk
  rcases hk with (rfl | rfl) | rfl
  · exact ⟨o1, l1⟩
  · exact ⟨o2, l2⟩
  · exact ⟨o3, l3⟩
section
variable {base D P a : Nat} {x : Stt} {S T : Nat → Bool} {nxt : List Slt} {u u2 : World}
theorem pmx_kept (h : PMx base D P x a S u) (hT : ∀ k, S k = true → T k = false) (k : KpS T u u2) : PMx base D P x a S u2 := by
  obtain ⟨M, bS, bm, cS, d, n, K, tb, ot, parts, slot, vp, SK, hp, rfl⟩ := h
  exact ⟨M, bS, bm, cS, d, n, K, tb, ot, parts, slot, vp, SK, { hp with m := hp.m.kept hT k }, rfl⟩
theorem pmx_lo (h : PMx base D P x a S u) : ∀ k, S k = true → base ≤ k ∧ k < u.heap.size := by
  obtain ⟨M, bS, bm, cS, d, n, K, tb, ot, parts, slot, vp, SK, hp, rfl⟩ := h
  exact hp.m.s_lo
theorem pfx_kept (h : PFx base D x nxt S u) (hT : ∀ k, S k = true → T k = false) (k : KpS T u u2) : PFx base D x nxt S u2 := by
  obtain ⟨bS, bm, cS, d, hd, h1, h2, h3, h4, h5, h6, rfl⟩ := h
  exact ⟨bS, bm, cS, d, pdk_kept hd hT k, h1, h2, h3, h4, h5, h6, rfl⟩
theorem pfx_lo (h : PFx base D x nxt S u) : ∀ k, S k = true → base ≤ k ∧ k < u.heap.size := by
  obtain ⟨bS, bm, cS, d, hd, h1, h2, h3, h4, h5, h6, rfl⟩ := h
  exact pdk_lo hd
theorem pcx_kept (h : PCx base D x nxt S u) (hT : ∀ k, S k = true → T k = false) (k : KpS T u u2) : PCx base D x nxt S u2 := by
  obtain ⟨bS, bm, cS, d, hd, h1, h2, h3, h4, h5, h6, rfl⟩ := h
  exact ⟨bS, bm, cS, d, pdk_kept hd hT k, h1, h2, h3, h4, h5, h6, rfl⟩
theorem pcx_lo (h : PCx base D x nxt S u) : ∀ k, S k = true → base ≤ k ∧ k < u.heap.size := by
  obtain ⟨bS, bm, cS, d, hd, h1, h2, h3, h4, h5, h6, rfl⟩ := h
  exact pdk_lo hd
end
section
variable {base D P a : Nat} {x : Stt} {M bS bm cS : Nat} {d : Dk} {n : Nat} {K : Nat → Nat} {tb : Nat → Int} {ot parts : List Int} {slot : Nat} {vp : Value} {SK : Nat → Bool} {u u2 : World}
theorem PmAt.below (h : PmAt base D P x a M bS bm cS d n K tb ot parts slot vp SK u) (k : Below u.heap.size u u2) : PmAt base D P x a M bS bm cS d n K tb ot parts slot vp SK u2 := { h with m := h.m.below k }
theorem PmAt.bd (h : PmAt base D P x a M bS bm cS d n K tb ot parts slot vp SK u) (hx : OkX x) : BdD d := ⟨h.dn, by have := h.cl; have := hx.cl; omega, h.ab⟩
theorem PmAt.n_le (h : PmAt base D P x a M bS bm cS d n K tb ot parts slot vp SK u) : n ≤ 1024 := h.h.mn.2.1
/-- a page of the table: there or not -/
theorem PmAt.at_ (h : PmAt base D P x a M bS bm cS d n K tb ot parts slot vp SK u) (l : Nat) : (isS x.now l = true ↔ tb l ≠ -1) ∧ (isS x.now l = false → tb l = -1) ∧ (isS x.now l = true → 0 ≤ tb l ∧ tb l < (n : Int)) ∧ -1 ≤ tb l ∧ tb l < 1024 := by
  have t := h.h.tab.tin l
  have hn := h.n_le
  cases c : isS x.now l with
  | true => have := t.1 c; exact ⟨⟨fun _ => by omega, fun _ => rfl⟩, fun h => Bool.noConfusion h, fun _ => this, by omega, by omega⟩
  | false => have := t.2 c; exact ⟨⟨fun h => Bool.noConfusion h, fun h => absurd this h⟩, fun _ => this, fun h => Bool.noConfusion h, by omega, by omega⟩
theorem lt512 {x : Stt} (hx : OkX x) {l : Nat} (h : isS x.now l = true) : l < 512 := by
  rcases Nat.lt_or_ge l 512 with c | c
  · exact c
  · rw [isS_out (by have := hx.now; omega)] at h; cases h
end

end Go.Proofs.YtdpmpmaepjgndaaGreat
namespace Go.Proofs.YtdpmpmaepjgndaaGreat
open Go.RowKit Go.Deep
set_option linter.unusedVariables false
set_option linter.unusedSimpArgs false
set_option maxRecDepth 100000

theorem wr_stop {d : Dk} {s : ByteArray} {a : Int} {i : Nat} (h : (wrN d s a i).2 ≠ 0) : ∀ k, wrN d s a (i + k) = wrN d s a i
  | 0 => rfl
  | k + 1 => by
    have ih := wr_stop h k
    show wrN d s a ((i + k) + 1) = _
    simp only [wrN]
    rw [ih, if_neg h]
theorem wr_next {d : Dk} {s : ByteArray} {a : Int} {i : Nat} (h : (wrN d s a i).2 = 0) : wrN d s a (i + 1) = (writeD (wrN d s a i).1 (a + (i : Int)) (quart s i), writeE (wrN d s a i).1 (a + (i : Int))) := by
  simp only [wrN]
  rw [if_pos h]
theorem run_index_four (q : Nat → ByteArray) (j : Nat) (hj : j < 4) (w : World) : (Instr.index 170 (.agg #[.string (q 0), .string (q 1), .string (q 2), .string (q 3)]) (.int .i64 (j : Int))).run Tryz.prog w = .ok (.string (q j)) w := by
  have h1 : (0 : Int) ≤ (j : Int) ∧ (j : Int) < 4 := by omega
  rcases (by omega : j = 0 ∨ j = 1 ∨ j = 2 ∨ j = 3) with rfl | rfl | rfl | rfl <;>
    simp [Instr.index, run_underlying Tryz.underlying170, asIntOf, h1, go_sem]
variable {base P bS bm cS : Nat} {d : Dk} {u : World}
theorem bd_wr (hn : d.n ≤ 4096) (hc : d.calls < 950000) (ha : d.arm ≤ 9223372036854775807) (s : ByteArray) (a : Int) {i : Nat} (hi : i ≤ 4) : BdD (wrN d s a i).1 := by
  have h := wr_bd d s a i
  exact ⟨by rw [wr_n]; exact hn, by omega, by omega⟩
set_option maxHeartbeats 6400000 in
theorem ppwrite_any (h : PDk base P bS bm cS d u) (hn : d.n ≤ 4096) (hc : d.calls < 950000) (ha : d.arm ≤ 9223372036854775807) (p : Pg) (hp : p.pay.size ≤ 9223372036854775807) : Calls Tryz.prog 146 #[.pointer (some ⟨P, 0, none⟩), .agg (pgV p).toArray] u fun r u' => r = .returned (.int .i64 (writeP d p).2) ∧ PDk base P bS bm cS (writeP d p).1 u' ∧ KpS (P3 P bS bm) u u' := by
  have HPut := Lib.hid (fun w => pput_any p w hp)
  have HR := Lib.hid (fun hq : putE p = 0 => (putE_zero.1 hq).1)
  have HS := Lib.hid (fun hq : putE p = 0 => putS_size hq)
  have EW : Hid (writeP d p = if putE p = 0 then (if manyP d.n ≤ p.id then (d, 3) else wrN d (putS p) (2 + 4 * p.id) 4) else (d, putE p)) := Lib.hid rfl
  unfold putRet at HPut
  obtain ⟨id, ep, kd, pay⟩ := p
  obtain ⟨wp, hwp⟩ : ∃ x, x = writeP d ⟨id, ep, kd, pay⟩ := ⟨_, rfl⟩
  rw [← hwp] at EW ⊢
  generalize putS ⟨id, ep, kd, pay⟩ = s at *
  have HR0 : Hid (putE ⟨id, ep, kd, pay⟩ = 0 → 0 ≤ id) := Lib.hid (fun hq => (HR.out hq).1)
  generalize putE ⟨id, ep, kd, pay⟩ = pe at *
  clear hwp HR hp
  unfold pgV at HPut ⊢
  dsimp only at HPut EW ⊢
  have X1 := Lib.hid (heap_alloc_new u (.cells #[.int .i64 id, .int .i64 ep, .int .i64 kd, .string pay] 41))
  have B1 := Lib.hid (balloc u (.cells #[.int .i64 id, .int .i64 ep, .int .i64 kd, .string pay] 41))
  have D1 := Lib.hid (h.below B1.out)
  obtain ⟨C, hC⟩ : ∃ C, C = u.heap.size := ⟨_, rfl⟩
  have NC : Hid (P3 P bS bm C = false) := Lib.hid (P3.no (by have := h.lt; omega) (by have := h.lt; omega) (by have := h.lt; omega))
  rw [← hC] at X1
  clear h
  go_enter Tryz.func146, Tryz.ntmps146
  go_upto_region 1 with fail
  rw [← hC]
  generalize u.alloc (.cells #[.int .i64 id, .int .i64 ep, .int .i64 kd, .string pay] 41) = w1 at *
  clear hC
  obtain ⟨x0, x1, x2, x3⟩ := four_cells X1.out
  by_cases he : pe = 0
  · subst he
    rw [if_pos rfl] at EW
    have id0 := HR0.out (by trivial)
    go_wp2_with fail
    refine (HPut.out _).mono ?_
    rintro e w2 ⟨rfl, hb⟩
    clear x0 x1 x2 x3
    have X2 := Lib.hid (heap_stays X1.out hb)
    have B2 := Lib.hid (bthen B1.out hb)
    have D2 := Lib.hid (D1.out.below hb)
    obtain ⟨x0, x1, x2, x3⟩ := four_cells X2.out
    have HH := Lib.hid (phas_any D2.out hn id)
    clear hb
    cases hb : hasB d id with
    | false =>
      rw [hb] at HH
      have hq := hasB_false hb
      rw [if_pos (show manyP (d.n : Int) ≤ id by omega)] at EW
      have K2 := Lib.hid (KpS.of B2.out : KpS (P3 P bS bm) u w2)
      clear hb hq
      go_wp2_with fail
      refine (HH.out).mono ?_
      rintro e w3 ⟨rfl, rfl⟩
      go_wp2_with fail
      go_ret
      rw [EW.out]
      exact ⟨rfl, D2.out, K2.out⟩
    | true =>
      rw [hb] at HH
      have hq := hasB_true hb
      rw [if_neg (show ¬ manyP (d.n : Int) ≤ id by omega)] at EW
      have hin := many_in hq.2 hq.1
      have id1 : id ≤ 4096 := by omega
      have HF := Lib.hid (fun w => pfirst_any id id0 id1 w)
      have HCut := Lib.hid (pcut_any s (HS.out (by trivial)) w2)
      unfold fourQ at HCut
      clear hb hq hin HS
      go_wp2_with fail
      refine (HH.out).mono ?_
      rintro e w3 ⟨rfl, rfl⟩
      go_wp2_with fail
      refine (HCut.out).mono ?_
      rintro e w3 ⟨rfl, hb⟩
      have X3 := Lib.hid (heap_stays X2.out hb)
      have K3 := Lib.hid (KpS.of (bthen B2.out hb) : KpS (P3 P bS bm) u w3)
      have D3 : Hid (PDk base P bS bm cS (wrN d s (2 + 4 * id) 0).1 w3) := Lib.hid (D2.out.below hb)
      clear hb x0 x1 x2 x3 HH HCut
      obtain ⟨q, hq⟩ : ∃ q : Nat → ByteArray, q = quart s := ⟨_, rfl⟩
      have HQ := Lib.hid hq
      rw [← hq]
      clear hq
      go_wp2_with fail
      go_loopw [7, 8, 9, 27] (fun _ _ _ i wr => ∃ j : Nat, j ≤ 4 ∧ i = .int .i64 j ∧ Hid ((wrN d s (2 + 4 * id) j).2 = 0) ∧ Hid (PDk base P bS bm cS (wrN d s (2 + 4 * id) j).1 wr) ∧ Hid (wr.heap[C]? = some (.cells #[.int .i64 id, .int .i64 ep, .int .i64 kd, .string pay] 41 (0, 0))) ∧ Hid (KpS (P3 P bS bm) u wr)) (fun _ _ _ i _ => 4 - (intOf i).toNat)
      case atStart => exact ⟨0, Nat.zero_le _, rfl, Lib.hid rfl, D3, X3, K3⟩
      case round =>
        obtain ⟨j, hj, rfl, HZ, HP, HX, HK⟩ := hrel
        by_cases hlt : j < 4
        · have d1 : decide ((j : Int) < 4) = true := by simp; omega
          have g0 : (0 : Int) ≤ (j : Int) := by omega
          have g1 : (j : Int) < 4 := by omega
          obtain ⟨x0, x1, x2, x3⟩ := four_cells HX.out
          have HW := Lib.hid (pwrite_any HP.out (bd_wr hn hc ha s (2 + 4 * id) (by omega)) (2 + 4 * id + (j : Int)) (quart s j))
          have EN := Lib.hid (wr_next HZ.out)
          rw [← HQ.out] at HW EN
          obtain ⟨ee, hee⟩ : ∃ x, x = writeE (wrN d s (2 + 4 * id) j).1 (2 + 4 * id + (j : Int)) := ⟨_, rfl⟩
          obtain ⟨dd, hdd⟩ : ∃ x, x = writeD (wrN d s (2 + 4 * id) j).1 (2 + 4 * id + (j : Int)) (q j) := ⟨_, rfl⟩
          rw [← hee, ← hdd] at HW EN
          clear hee hdd
          have qi : Hid (∀ w, (Instr.index 170 (.agg #[.string (q 0), .string (q 1), .string (q 2), .string (q 3)]) (.int .i64 (j : Int))).run Tryz.prog w = .ok (.string (q j)) w) := Lib.hid (run_index_four q j hlt)
          have FX := Lib.hid (fun (w4 : World) (k : KpS (P3 P bS bm) wr w4) => (k.blk (heap_lt HX.out) NC.out).trans HX.out)
          by_cases hz : ee = 0
          · subst hz
            focus
              (have qi2 := qi.out
               go_wp2_with fail
               refine (HF.out _).mono ?_
               rintro e w4 ⟨rfl, rfl⟩
               go_wp2_with fail
               refine (HW.out).mono ?_
               rintro e w5 ⟨rfl, r5, k5⟩
               have R5 := Lib.hid r5
               have K5 := Lib.hid k5
               have X5 := Lib.hid (FX.out w5 k5)
               clear r5 k5
               go_wp2_with fail
               go_roundw
               case rel => exact ⟨_, hlt, by go_num, Lib.hid (by rw [EN.out]), Lib.hid (by rw [EN.out]; exact R5.out), X5, Lib.hid (HK.out.trans K5.out)⟩
               case measure => simp [intOf]; try omega)
          · have hz2 : (ee != 0) = true := by simp [hz]
            have ES : Hid (wrN d s (2 + 4 * id) 4 = (dd, ee)) := Lib.hid (by
              have := wr_stop (d := d) (s := s) (a := 2 + 4 * id) (i := j + 1) (by rw [EN.out]; exact hz) (4 - (j + 1))
              rw [show j + 1 + (4 - (j + 1)) = 4 by omega, EN.out] at this
              exact this)
            focus
              (have qi2 := qi.out
               go_wp2_with fail
               refine (HF.out _).mono ?_
               rintro e w4 ⟨rfl, rfl⟩
               go_wp2_with fail
               refine (HW.out).mono ?_
               rintro e w5 ⟨rfl, r5, k5⟩
               have R5 := Lib.hid r5
               have K5 := Lib.hid (HK.out.trans k5)
               clear r5 k5
               go_wp2_with fail
               go_ret
               rw [EW.out, ES.out]
               exact ⟨rfl, R5.out, K5.out⟩)
        · obtain rfl : j = 4 := by omega
          have d1 : decide ((4 : Int) < 4) = false := by decide
          go_wp2_with fail
          go_ret
          rw [EW.out]
          exact ⟨by rw [HZ.out]; rfl, HP.out, HK.out⟩
  · rw [if_neg he] at EW
    have hz2 : (pe != 0) = true := by simp [he]
    go_wp2_with fail
    refine (HPut.out _).mono ?_
    rintro e w2 ⟨rfl, hb⟩
    have D2 := Lib.hid (D1.out.below hb)
    have K2 := Lib.hid (KpS.of (bthen B1.out hb) : KpS (P3 P bS bm) u w2)
    clear hb
    go_wp2_with fail
    go_ret
    rw [EW.out]
    exact ⟨rfl, D2.out, K2.out⟩

end Go.Proofs.YtdpmpmaepjgndaaGreat
namespace Go.Proofs.YtdpmpmaepjgndaaGreat
open Go.RowKit Go.Deep
set_option linter.unusedVariables false
set_option linter.unusedSimpArgs false
set_option maxRecDepth 100000

theorem wr_armed {d : Dk} (hd : d.down = false) (s : ByteArray) (a : Nat) : ∀ i, a + i ≤ d.n → (wrN d s (a : Int) i).2 ≠ 0 → d.arm ≠ 0
  | 0, _, h => absurd rfl h
  | i + 1, hn, h => by
    simp only [wrN] at h
    by_cases c : (wrN d s (a : Int) i).2 = 0
    · rw [if_pos c] at h
      obtain ⟨h1, _⟩ := wr_done hd s a i c
      have hz := wr_n d s (a : Int) i
      obtain ⟨_, g1, _⟩ := write_fell (quart s i) h1 (by omega) (by rw [hz]; omega) h
      have := (wr_bd d s (a : Int) i).2
      omega
    · exact wr_armed hd s a i (by omega) c
theorem writeP_armed {d : Dk} (hd : d.down = false) {p : Pg} (hm : p.id < manyP (d.n : Int)) (hp : putE p = 0) (h : (writeP d p).2 ≠ 0) : d.arm ≠ 0 := by
  have h0 := (putE_zero.1 hp).1.1
  have hin := many_in hm h0
  obtain ⟨a, ha⟩ : ∃ a : Nat, (a : Int) = 2 + 4 * p.id := ⟨(2 + 4 * p.id).toNat, by omega⟩
  have e : writeP d p = wrN d (putS p) (a : Int) 4 := by
    unfold writeP
    rw [if_pos hp, if_neg (by omega), ha]
  rw [e] at h
  exact wr_armed hd (putS p) a 4 (by omega) h
section
variable {base D P M bS bm cS n : Nat} {d : Dk} {x : Stt} {K K2 : Nat → Nat} {tb : Nat → Int} {ep : Int} {slot : Nat} {ot parts : List Int} {vp : Value} {SK : Nat → Bool} {u : World}
/-- a page that is free or fresh by what was held is written -/
theorem sto_write {tb0 : Nat → Int} (m : StoM base D P M bS bm cS d n K2 ep slot tb ot parts vp SK u) (h : HoldP d x n K tb0 ot parts slot) (hn : d.n ≤ 4096) (hc : d.calls < 950000) (ha : d.arm ≤ 9223372036854775807) (p : Pg) (hE : putE p = 0) (hm : p.id < (n : Int)) (hk : K p.id.toNat = 0 ∨ K p.id.toNat = 2) (nxt : List Slt) :
    Calls Tryz.prog 146 #[.pointer (some ⟨D, 0, none⟩), .agg #[.int .i64 p.id, .int .i64 p.ep, .int .i64 p.kd, .string p.pay]] u fun r u' => ∃ e, r = .returned (.int .i64 e) ∧ KpS (P3 D bS bm) u u' ∧
      ((e = 0 ∧ (writeP d p).2 = 0 ∧ StoM base D P M bS bm cS (writeP d p).1 n K2 ep slot tb ot parts vp SK u') ∨
       (e = 13 ∧ (writeP d p).2 ≠ 0 ∧ d.arm ≠ 0 ∧ StoM base D P M bS bm cS (writeP d p).1 n K2 ep slot tb ot parts vp SK u' ∧ FallP (writeP d p).1 x nxt ∧ (writeP d p).1.calls ≤ d.calls + 4 ∧ (writeP d p).1.n ≤ 4096)) := by
  have hps : p.pay.size ≤ 9223372036854775807 := by
    have := (putE_zero.1 hE).2
    omega
  refine (ppwrite_any m.dk hn hc ha p hps).mono ?_
  rintro r u' ⟨hr, hd, k⟩
  refine ⟨_, hr, k, ?_⟩
  by_cases he : (writeP d p).2 = 0
  · exact .inl ⟨he, he, m.disk hd (.inl rfl) k⟩
  · obtain ⟨e1, e2⟩ := h.fell hE hm hk he nxt
    exact .inr ⟨e1, he, writeP_armed h.dn (by have := h.mn.2.2; omega) hE he, m.disk hd (.inl rfl) k, e2, (writeP_bd d p).1, by rw [writeP_n]; exact hn⟩
/-- a free page is taken, if there is one -/
theorem sto_take (m : StoM base D P M bS bm cS d n K ep slot tb ot parts vp SK u) (hn : n ≤ 1024) : Calls Tryz.prog 110 #[.pointer (some ⟨M, 0, none⟩)] u fun r u' => r = .returned (.tuple #[.int .i64 (takeI n K), .int .i64 (takeE n K)]) ∧ ∃ SK2, (∀ k, SK2 k = true → SK k = true ∨ u.heap.size ≤ k) ∧ KpS SK u u' ∧ StoM base D P M bS bm cS d n (takeF n K) ep slot tb ot parts vp SK2 u' := by
  refine (ptake12_any m.mp hn).mono ?_
  rintro r u' ⟨hr, S2, h1, h2, k⟩
  exact ⟨hr, S2, h1, k, m.map h2 h1 k⟩
theorem sto_leave (m : StoM base D P M bS bm cS d n K ep slot tb ot parts vp SK u) (hn : n ≤ 1024) (i : Int) : Calls Tryz.prog 75 #[.pointer (some ⟨M, 0, none⟩), .int .i64 i] u fun r u' => r = .returned (.int .i64 (leaveE n K i)) ∧ ∃ SK2, (∀ k, SK2 k = true → SK k = true ∨ u.heap.size ≤ k) ∧ KpS SK u u' ∧ StoM base D P M bS bm cS d n (leaveF n K i) ep slot tb ot parts vp SK2 u' := by
  refine (pleave12_any m.mp hn i).mono ?_
  rintro r u' ⟨hr, S2, h1, h2, k⟩
  exact ⟨hr, S2, h1, k, m.map h2 h1 k⟩
theorem sto_abort (m : StoM base D P M bS bm cS d n K ep slot tb ot parts vp SK u) (hn : n ≤ 1024) : Calls Tryz.prog 85 #[.pointer (some ⟨M, 0, none⟩)] u fun r u' => r = .returned (.bool true) ∧ ∃ SK2, (∀ k, SK2 k = true → SK k = true ∨ u.heap.size ≤ k) ∧ KpS SK u u' ∧ StoM base D P M bS bm cS d n (turnF K 0 1) ep slot tb ot parts vp SK2 u' := by
  refine (pabort12_any m.mp hn).mono ?_
  rintro r u' ⟨hr, S2, h1, h2, k⟩
  exact ⟨hr, S2, h1, k, m.map h2 h1 k⟩
theorem sto_commit (m : StoM base D P M bS bm cS d n K ep slot tb ot parts vp SK u) (hn : n ≤ 1024) : Calls Tryz.prog 120 #[.pointer (some ⟨M, 0, none⟩)] u fun r u' => r = .returned (.bool true) ∧ ∃ SK2, (∀ k, SK2 k = true → SK k = true ∨ u.heap.size ≤ k) ∧ KpS SK u u' ∧ StoM base D P M bS bm cS d n (turnF K 1 0) ep slot tb ot parts vp SK2 u' := by
  refine (pcommit12_any m.mp hn).mono ?_
  rintro r u' ⟨hr, S2, h1, h2, k⟩
  exact ⟨hr, S2, h1, k, m.map h2 h1 k⟩
/-- the disk is synced -/
theorem sto_sync (m : StoM base D P M bS bm cS d n K ep slot tb ot parts vp SK u) (hb : BdD d) : Calls Tryz.prog 74 #[.pointer (some ⟨D, 0, none⟩)] u fun r u' => r = .returned (.int .i64 (syncE d)) ∧ KpS (P3 D bS bm) u u' ∧ ∃ bm2, NewOr bm u bm2 ∧ PDk base D bS bm2 cS (syncD d) u' ∧ StoM base D P M bS bm2 cS (syncD d) n K ep slot tb ot parts vp SK u' := by
  refine (psyncB_any m.dk hb).mono ?_
  rintro r u' ⟨hr, ⟨bm2, ho, _, hd⟩, k⟩
  exact ⟨hr, k, bm2, ho, hd, m.disk hd ho k⟩
end

end Go.Proofs.YtdpmpmaepjgndaaGreat
