/- A map of events by their numbers: what it holds, whatever the order in which it is gone through. The program's plain simulation in memory: a struct, a map and a row of states in blocks of their own, which are written again and again, beside what stays. The document's plain simulation in memory: a struct in a block of its own, which is written again and again, beside rows that stay. A drawn region whose last operation writes what the region reads: S is asked behind each operation but that one (number X), for which all others wait. -/
import Derived.Maps.RangeWalk
import Derived.Laws.IdiomCopy
import Derived.WalkKit
import Derived.Deep.RegionHeld3
import Derived.Test.YthkfaeplmmlnlaaGreatRZ11
import Derived.Test.YthkfaeplmmlnlaaGreatRZ1
import Derived.Test.YthkfaeplmmlnlaaGreatRZ10
namespace Go.Proofs.YthkfaeplmmlnlaaGreat
open Go.RowKit Go.Deep Go.Maps
set_option linter.unusedVariables false
set_option maxRecDepth 100000

/-- an event as an element of a map reads as itself -/
def evR (v : Value) : Option (DataW Evn × List MemPlace) :=
  match v with
  | .agg cs => match cs.toList with
    | [.float .f64 t, .int .i64 s, .int .i64 n, .int .i64 d, .int .i64 p] => some (.held ⟨t, s, n, d, p⟩, [])
    | _ => none
  | _ => none
theorem evR_mk (e : Evn) : evR (eval8 e) = some (.held e, []) := rfl
theorem evR_inv {v : Value} {y : DataW Evn × List MemPlace} (h : evR v = some y) : ∃ e, v = eval8 e ∧ y = (.held e, []) := by
  unfold evR at h
  split at h
  · rename_i cs
    obtain ⟨l⟩ := cs
    split at h
    · rename_i t s n d p e
      have e : l = _ := e
      subst e
      cases h
      exact ⟨⟨t, s, n, d, p⟩, rfl, rfl⟩
    · cases h
  · cases h

abbrev kl (n : Int) : Lit := .int .i64 n
theorem kl_key (n : Int) : WideAt.IsKeyLit (kl n) := trivial
/-- what a map of events holds -/
structure WtIs (D : DataW Evn) (L : List (Int × Evn)) : Prop where
  tidy : Tidy D
  has : ∀ n, Maps.has D (kl n) = true ↔ ∃ e, (n, e) ∈ L
  at_ : ∀ n e, (n, e) ∈ L → ∀ z, D.atKey (kl n) z = .held e
  size : Maps.size D = L.length
  nd : L.Pairwise (fun a b => a.1 ≠ b.1)
theorem wtIs_none : WtIs (.map [] : DataW Evn) [] := ⟨tidy_empty, fun n => by simp [Maps.has], fun n e h => absurd h List.not_mem_nil, rfl, List.Pairwise.nil⟩
theorem wtIs_put {D : DataW Evn} {L : List (Int × Evn)} (h : WtIs D L) {n : Int} (hn : ∀ e, (n, e) ∉ L) (e : Evn) : WtIs (D.put (kl n) (.held e)) ((n, e) :: L) := by
  have h0 : Maps.has D (kl n) = false := by
    cases c : Maps.has D (kl n) with
    | false => rfl
    | true => obtain ⟨e2, h2⟩ := (h.has n).1 c; exact absurd h2 (hn e2)
  have ne : ∀ {k : Int}, k ≠ n → kl k ≠ kl n := fun hk e => hk (by injection e)
  refine ⟨h.tidy.put (kl_key n) _, fun k => ?_, fun k e2 hm z => ?_, ?_, ?_⟩
  · by_cases c : k = n
    · subst c
      rw [has_put_same h.tidy.isMap (kl_key _)]
      exact ⟨fun _ => ⟨e, List.mem_cons_self⟩, fun _ => rfl⟩
    · rw [has_put_other (ne c), h.has k]
      constructor
      · rintro ⟨e2, h2⟩; exact ⟨e2, List.mem_cons_of_mem _ h2⟩
      · rintro ⟨e2, h2⟩
        rcases List.mem_cons.1 h2 with h2 | h2
        · exact absurd (Prod.mk.inj h2).1 c
        · exact ⟨e2, h2⟩
  · rcases List.mem_cons.1 hm with h2 | h2
    · obtain ⟨rfl, rfl⟩ := Prod.mk.inj h2
      exact atKey_put_same h.tidy.isMap (kl_key _) _ _
    · have c : k ≠ n := by rintro rfl; exact hn e2 h2
      rw [atKey_put_other (ne c)]
      exact h.at_ k e2 h2 z
  · rw [size_put h.tidy, h0, List.length_cons, h.size]; rfl
  · rw [List.pairwise_cons]
    exact ⟨fun a ha e2 => hn a.2 (by rw [show n = a.1 from e2]; exact ha), h.nd⟩
theorem wtIs_perm {D : DataW Evn} {L L2 : List (Int × Evn)} (h : WtIs D L) (p : L.Perm L2) : WtIs D L2 :=
  ⟨h.tidy, fun n => by rw [h.has n]; exact ⟨fun ⟨e, he⟩ => ⟨e, p.mem_iff.1 he⟩, fun ⟨e, he⟩ => ⟨e, p.mem_iff.2 he⟩⟩, fun n e he => h.at_ n e (p.mem_iff.2 he), by rw [h.size, p.length_eq], (p.pairwise_iff (fun {a b} h => Ne.symm h)).1 h.nd⟩
theorem wtIs_del {D : DataW Evn} {L : List (Int × Evn)} {n : Int} {e : Evn} (h : WtIs D ((n, e) :: L)) : WtIs (D.del (kl n)) L := by
  have ne : ∀ {k : Int}, k ≠ n → kl k ≠ kl n := fun hk e => hk (by injection e)
  have hnd := h.nd
  rw [List.pairwise_cons] at hnd
  have hn : ∀ e2, (n, e2) ∉ L := fun e2 h2 => hnd.1 _ h2 rfl
  refine ⟨h.tidy.del _, fun k => ?_, fun k e2 hm z => ?_, ?_, hnd.2⟩
  · by_cases c : k = n
    · subst c
      rw [has_del_same]
      exact ⟨fun h => absurd h (by decide), fun ⟨e2, h2⟩ => absurd h2 (hn e2)⟩
    · rw [has_del_other (ne c), h.has k]
      constructor
      · rintro ⟨e2, h2⟩
        rcases List.mem_cons.1 h2 with h2 | h2
        · exact absurd (Prod.mk.inj h2).1 c
        · exact ⟨e2, h2⟩
      · rintro ⟨e2, h2⟩; exact ⟨e2, List.mem_cons_of_mem _ h2⟩
  · have c : k ≠ n := by rintro rfl; exact hn e2 hm
    rw [atKey_del_other (ne c)]
    exact h.at_ k e2 (List.mem_cons_of_mem _ hm) z
  · have h1 := size_del (k := kl n) h.tidy
    rw [(h.has n).2 ⟨e, List.mem_cons_self⟩, if_pos rfl, h.size, List.length_cons] at h1
    omega
theorem wtIs_one {D : DataW Evn} {L : List (Int × Evn)} (h : WtIs D L) {n : Int} {e e2 : Evn} (h1 : (n, e) ∈ L) (h2 : (n, e2) ∈ L) : e = e2 := by
  have := (h.at_ n e h1 .nil).symm.trans (h.at_ n e2 h2 .nil)
  injection this
theorem mem_split {L : List (Int × Evn)} {a : Int × Evn} (h : a ∈ L) : ∃ L2, L.Perm (a :: L2) := by
  obtain ⟨s, t, rfl⟩ := List.append_of_mem h
  exact ⟨s ++ t, List.perm_middle⟩

end Go.Proofs.YthkfaeplmmlnlaaGreat
namespace Go.Proofs.YthkfaeplmmlnlaaGreat
open Go.RowKit Go.Deep Go.Maps
set_option linter.unusedVariables false
set_option maxRecDepth 100000

/-- the world with the blocks of S hidden -/
def HdS (S : Nat → Bool) (w : World) : World := { w with heap := w.heap.mapIdx fun i o => if S i then .finalizers #[] none else o }
theorem HdS.size (S : Nat → Bool) (w : World) : (HdS S w).heap.size = w.heap.size := by simp [HdS]
theorem HdS.block (S : Nat → Bool) (k : Nat) (w : World) : (HdS S w).heap[k]? = (w.heap[k]?).map (fun o => if S k then Obj.finalizers #[] none else o) := by
  simp only [HdS, Array.getElem?_mapIdx]
theorem HdS.other {S : Nat → Bool} {k : Nat} (w : World) (h : S k = false) : (HdS S w).heap[k]? = w.heap[k]? := by
  rw [HdS.block, h]
  cases w.heap[k]? <;> rfl
theorem HdS.hid {S : Nat → Bool} {k : Nat} {w w2 : World} (h : S k = true) (h1 : k < w.heap.size) (h2 : k < w2.heap.size) : (HdS S w2).heap[k]? = (HdS S w).heap[k]? := by
  rw [HdS.block, HdS.block, h, Array.getElem?_eq_getElem h1, Array.getElem?_eq_getElem h2]; rfl
theorem HdS.cells {S : Nat → Bool} {k : Nat} {w : World} {c : Array Value} {t : TypeId} {f : Nat × Nat} (h : (HdS S w).heap[k]? = some (.cells c t f)) : S k = false ∧ w.heap[k]? = some (.cells c t f) := by
  cases e : S k with
  | false => exact ⟨rfl, by rwa [HdS.other w e] at h⟩
  | true =>
    rw [HdS.block, e] at h
    cases hw : w.heap[k]? with
    | none => rw [hw] at h; cases h
    | some o => rw [hw] at h; simp at h
theorem HdS.cell {S : Nat → Bool} {w : World} {a : Addr} {v : Value} (h : (HdS S w).cell? a = some v) : w.cell? a = some v := by
  obtain ⟨c, t, f, e⟩ := cell_block h
  obtain ⟨h1, h2⟩ := HdS.cells e
  rw [← h]
  exact World.cell?_of_block (by rw [e, h2])
theorem HdS.below {S : Nat → Bool} {B : Nat} {w w2 : World} (h : Below B w w2) : Below B (HdS S w) (HdS S w2) :=
  ⟨h.os, h.tape, h.output, by rw [HdS.size, HdS.size]; exact h.size, fun k hk => by rw [HdS.block, HdS.block, h.block k hk]⟩
theorem HdS.below2 {S S2 : Nat → Bool} {B : Nat} {w w2 : World} (h : Below B w w2) (e : ∀ k, k < B → S2 k = S k) : Below B (HdS S w) (HdS S2 w2) :=
  ⟨h.os, h.tape, h.output, by rw [HdS.size, HdS.size]; exact h.size, fun k hk => by rw [HdS.block, HdS.block, h.block k hk, e k hk]⟩
/-- a row of the call's own, apart from what is hidden -/
theorem own_hdS {S : Nat → Bool} {u : World} {b : Nat} {E : TypeId} {C n : Nat} {v : Value} {xs : List Value} (h : u.ownsRow b E C v n xs) (hne : ∀ g, v.ownBlock = some g → S g = false) : (HdS S u).ownsRow b E C v n xs :=
  own_kept h fun g hg => HdS.other _ (hne g hg)
theorem Sl.hds {S : Nat → Bool} {u : World} {C n : Nat} {g : Nat → Nat → Value} {v : Value} (h : Sl C g n v (HdS S u)) : Sl C g n v u := by
  obtain ⟨a, c, e, h1, h2, h3⟩ := h
  refine ⟨a, c, e, h1, h2, fun h0 => ?_⟩
  obtain ⟨b, o, e2, h4, h5⟩ := h3 h0
  exact ⟨b, o, e2, by rw [HdS.size] at h4; exact h4, fun i hi j hj => HdS.cell (h5 i hi j hj)⟩
theorem MdlAt.hds {S : Nat → Bool} {u : World} {m : Mdl} {vd vp vl vi : Value} (h : MdlAt m vd vp vl vi (HdS S u)) : MdlAt m vd vp vl vi u := by
  obtain ⟨g, p1, p2⟩ := h.p
  obtain ⟨g2, l1, l2⟩ := h.l
  exact ⟨h.d.hds, ⟨g, p1.hds, fun i hi => (p2 i hi).hds⟩, ⟨g2, l1.hds, fun i hi => (l2 i hi).hds⟩, h.i.hds⟩

/-- all but the blocks of S is as it was -/
def KpS (S : Nat → Bool) (w w2 : World) : Prop := Below w.heap.size (HdS S w) (HdS S w2)
theorem KpS.refl (S : Nat → Bool) (w : World) : KpS S w w := Below.refl _ _
theorem KpS.size {S : Nat → Bool} {w w2 : World} (h : KpS S w w2) : w.heap.size ≤ w2.heap.size := by have := Below.size h; rwa [HdS.size, HdS.size] at this
theorem KpS.trans {S : Nat → Bool} {a b c : World} (h : KpS S a b) (k : KpS S b c) : KpS S a c := Below.trans h (Below.mono k h.size)
theorem KpS.of {S : Nat → Bool} {a b : World} (h : Below a.heap.size a b) : KpS S a b := HdS.below h
theorem KpS.on {S : Nat → Bool} {a b c : World} (h : KpS S a b) (k : Below b.heap.size b c) : KpS S a c := h.trans (KpS.of k)
theorem KpS.low {S : Nat → Bool} {a b c : World} (h : KpS S a b) (k : Below a.heap.size b c) : KpS S a c := Below.trans h (HdS.below k)
theorem KpS.hd {S : Nat → Bool} {u u2 : World} (k : KpS S u u2) : Below (HdS S u).heap.size (HdS S u) (HdS S u2) := by rw [HdS.size]; exact k
theorem KpS.blk {S : Nat → Bool} {k : Nat} {a b : World} (h : KpS S a b) (hk : k < a.heap.size) (hne : S k = false) : b.heap[k]? = a.heap[k]? := by
  have := Below.block h k hk
  rwa [HdS.other _ hne, HdS.other _ hne] at this
theorem KpS.mono {S T : Nat → Bool} {a b : World} (h : KpS S a b) (e : ∀ k, S k = true → T k = true) : KpS T a b := by
  have k : Below a.heap.size (HdS S a) (HdS S b) := h
  refine ⟨k.os, k.tape, k.output, by rw [HdS.size, HdS.size]; exact h.size, fun i hi => ?_⟩
  cases c : T i with
  | true => exact HdS.hid c hi (Nat.lt_of_lt_of_le hi h.size)
  | false =>
    rw [HdS.other _ c, HdS.other _ c]
    refine h.blk hi ?_
    cases c2 : S i with
    | false => rfl
    | true => rw [e i c2] at c; cases c
theorem KpS.bot {S : Nat → Bool} {B : Nat} {a b : World} (h : KpS S a b) (hB : B ≤ a.heap.size) (ht : ∀ k, k < B → S k = false) : Below B a b := by
  have k : Below a.heap.size (HdS S a) (HdS S b) := h
  exact ⟨k.os, k.tape, k.output, h.size, fun i hi => h.blk (by omega) (ht i hi)⟩
theorem KpS.grown {S : Nat → Bool} {b : Nat} {w w2 : World} (h : w.grownBy w2 (some b)) (hb : S b = true) : KpS S w w2 := by
  refine ⟨h.os, h.tape, h.output, by rw [HdS.size, HdS.size]; exact h.size, fun k hk => ?_⟩
  by_cases e : k = b
  · subst e; exact HdS.hid hb hk (Nat.lt_of_lt_of_le hk h.size)
  · rw [HdS.block, HdS.block, h.block k hk (fun e2 => e (by injection e2))]
theorem KpS.set {S : Nat → Bool} {b : Nat} (hb : S b = true) (o : Nat) (v : Value) (w : World) : KpS S w (w.setCell ⟨b, o, none⟩ v) := by
  refine ⟨rfl, rfl, rfl, by rw [HdS.size, HdS.size, World.size_setCell]; exact Nat.le_refl _, fun k hk => ?_⟩
  by_cases e : k = b
  · subst e; exact HdS.hid hb hk (by rw [World.size_setCell]; exact hk)
  · rw [HdS.block, HdS.block, Below.heap_setCell _ _ _ _ e]
theorem KpS.sets {S : Nat → Bool} {b : Nat} (hb : S b = true) : ∀ (l : List Value) (o : Nat) (w : World), KpS S w (w.setCells b o l)
  | [], _, w => KpS.refl S w
  | v :: l, o, w => (KpS.set hb o v w).trans (KpS.sets hb l (o + 1) _)

/-- the states' row -/
structure StRow (bs : Nat) (G : Nat → Nat → Value) (n : Nat) (v : Value) (u : World) : Prop where
  v : ∃ c, v = .slice (some ⟨bs, 0, none⟩) n c ∧ n ≤ c ∧ c ≤ 9223372036854775807
  b : ∃ cs, u.heap[bs]? = some (.cells cs 55 (0, 0))
  c : ∀ i, i < n → ∀ j, j < 3 → u.cell? ⟨bs, i * 3 + j, none⟩ = some (G i j)
theorem StRow.kept {bs n : Nat} {G : Nat → Nat → Value} {v : Value} {u u2 : World} (h : StRow bs G n v u) (e : u2.heap[bs]? = u.heap[bs]?) : StRow bs G n v u2 :=
  ⟨h.v, by rw [e]; exact h.b, fun i hi j hj => by have := h.c i hi j hj; rw [← this]; exact World.cell?_of_block e⟩
theorem StRow.of {base n : Nat} {G : Nat → Nat → Value} {v : Value} {u : World} (h : u.ownsRow base 55 3 v n (rowCells 3 G n)) (hn : 0 < n) : ∃ bs, base ≤ bs ∧ v.ownBlock = some bs ∧ StRow bs G n v u := by
  have hs := own_sl h
  rcases h.2 with ⟨_, h0⟩ | ⟨g, cap, cur, rfl, h1, h2, h3, h4, h5, h6⟩
  · omega
  · obtain ⟨a, c, e, s1, s2, s3⟩ := hs
    simp only [Value.slice.injEq, true_and] at e
    obtain ⟨rfl, rfl⟩ := e
    obtain ⟨b, o, e2, hA⟩ := s3 hn
    simp only [Option.some.injEq, Addr.mk.injEq, and_true] at e2
    obtain ⟨rfl, rfl⟩ := e2
    refine ⟨g, h1, rfl, ⟨_, rfl, s1, s2⟩, ⟨_, h2⟩, fun i hi j hj => ?_⟩
    have := hA.2 i hi j hj
    rwa [Nat.zero_add] at this
theorem StRow.lt {bs n : Nat} {G : Nat → Nat → Value} {v : Value} {u : World} (h : StRow bs G n v u) : bs < u.heap.size := by
  obtain ⟨cs, e⟩ := h.b
  exact lt_of_block e
theorem StRow.set {bs n d : Nat} {G : Nat → Nat → Value} {v : Value} {u : World} (h : StRow bs G n v u) (hd : d < n) (v0 v1 v2 : Value) {G2 : Nat → Nat → Value}
    (h0 : G2 d 0 = v0) (h1 : G2 d 1 = v1) (h2 : G2 d 2 = v2) (ho : ∀ i, i ≠ d → ∀ j, G2 i j = G i j) : StRow bs G2 n v (u.setCells bs (d * 3) [v0, v1, v2]) := by
  obtain ⟨cs, e⟩ := h.b
  refine ⟨h.v, ⟨_, Joins.block_setCell (Joins.block_setCell (Joins.block_setCell e v0) v1) v2⟩, fun i hi j hj => ?_⟩
  by_cases c : i = d
  · subst c
    have := World.cell?_setCells_in bs [v0, v1, v2] (i * 3) u (fun q hq => by rw [h.c i hd q (by simpa using hq)]; rfl) j (by simpa using hj)
    rw [this]
    rcases j with _ | _ | _ | j
    · rw [h0]; rfl
    · rw [h1]; rfl
    · rw [h2]; rfl
    · omega
  · rw [ho i c j]
    have := World.cell?_setCells_out bs [v0, v1, v2] (d * 3) u ⟨bs, i * 3 + j, none⟩ (fun _ _ => by
      show i * 3 + j < d * 3 ∨ d * 3 + 3 ≤ i * 3 + j
      omega)
    rw [this]
    exact h.c i hi j hj

/-- the closure -/
def fvP (bc : Nat) : Value := .func (.func 54) #[] #[.pointer (some ⟨bc, 0, none⟩)]
def pbox (m : Mdl) (vd vp vl vi vS : Value) (bm bc : Nat) (nx nd : Int) : List Value := [.int .i64 m.seed, .float .f64 m.fin, vd, vp, vl, vi, vS, .map (some bm), fvP bc, .int .i64 nx, .int .i64 nd]
/-- the simulation's own blocks -/
def T3 (P bm bs : Nat) : Nat → Bool := fun k => k == P || k == bm || k == bs
/-- the map, and what it holds -/
def MpAt (bm nx : Nat) (W : List Evn) (u : World) : Prop :=
  ∃ D L, u.ownsMap Tryz.prog 3 evR bm nx D ∧ WtIs D L ∧ (L.map (fun p => p.2)).Perm W ∧ ∀ p ∈ L, 0 ≤ p.1 ∧ p.1 < (nx : Int)
theorem MpAt.kept {bm nx : Nat} {W : List Evn} {u u2 : World} (h : MpAt bm nx W u) (e : u2.heap[bm]? = u.heap[bm]?) : MpAt bm nx W u2 := by
  obtain ⟨D, L, ⟨es, ck, h1, h2⟩, h3⟩ := h
  exact ⟨D, L, ⟨es, ck, e.trans h1, h2⟩, h3⟩
theorem MpAt.perm {bm nx : Nat} {W W2 : List Evn} {u : World} (h : MpAt bm nx W u) (p : W.Perm W2) : MpAt bm nx W2 u := by
  obtain ⟨D, L, h1, h2, h3, h4⟩ := h
  exact ⟨D, L, h1, h2, h3.trans p, h4⟩
theorem MpAt.blk {bm nx : Nat} {W : List Evn} {u : World} (h : MpAt bm nx W u) : ∃ es ck, u.heap[bm]? = some (.map es ck) := by
  obtain ⟨D, L, ⟨es, ck, h1, _⟩, _⟩ := h
  exact ⟨es, ck, h1⟩
structure PSim (S : Nat → Bool) (P bm bc bs : Nat) (m : Mdl) (vd vp vl vi vS : Value) (x : Sm) (nx nd : Nat) (u : World) : Prop where
  box : u.heap[P]? = some (.cells (pbox m vd vp vl vi vS bm bc nx nd).toArray 70 (0, 0))
  cap : u.heap[bc]? = some (.cells #[.map (some bm)] 66 (0, 0))
  hP : S P = true
  hm : S bm = true
  hs : S bs = true
  hc : S bc = false
  mdl : MdlAt m vd vp vl vi (HdS S u)
  st : ∃ g, StRow bs (gT x.S g) m.nl vS u ∧ ∀ k, k < m.nl → Sl 1 (gW (x.S k).w) (x.S k).nw (g k) (HdS S u)
  mp : MpAt bm nx x.W u
section
variable {S S2 T : Nat → Bool} {P bm bc bs : Nat} {m : Mdl} {vd vp vl vi vS : Value} {x : Sm} {nx nd nx2 nd2 : Nat} {u u2 : World}
theorem PSim.lt (h : PSim S P bm bc bs m vd vp vl vi vS x nx nd u) : P < u.heap.size ∧ bm < u.heap.size ∧ bs < u.heap.size ∧ bc < u.heap.size := by
  obtain ⟨es, ck, e⟩ := h.mp.blk
  obtain ⟨g, r, _⟩ := h.st
  exact ⟨lt_of_block h.box, (Array.getElem?_eq_some_iff.1 e).1, r.lt, lt_of_block h.cap⟩
theorem PSim.ne (h : PSim S P bm bc bs m vd vp vl vi vS x nx nd u) : P ≠ bm ∧ P ≠ bs ∧ bm ≠ bs ∧ bc ≠ P ∧ bc ≠ bm ∧ bc ≠ bs := by
  obtain ⟨es, ck, e⟩ := h.mp.blk
  obtain ⟨g, r, _⟩ := h.st
  obtain ⟨cs, eb⟩ := r.b
  have h1 := h.box
  have hc := h.hc
  refine ⟨?_, ?_, ?_, ?_, ?_, ?_⟩
  · rintro rfl; rw [e] at h1; cases h1
  · rintro rfl
    rw [eb] at h1
    simp only [Option.some.injEq, Obj.cells.injEq] at h1
    exact absurd h1.2.1 (by decide)
  · rintro rfl; rw [e] at eb; cases eb
  · rintro rfl; rw [h.hP] at hc; cases hc
  · rintro rfl; rw [h.hm] at hc; cases hc
  · rintro rfl; rw [h.hs] at hc; cases hc
theorem PSim.sub (h : PSim S P bm bc bs m vd vp vl vi vS x nx nd u) : ∀ k, T3 P bm bs k = true → S k = true := by
  intro k hk
  unfold T3 at hk
  simp only [Bool.or_eq_true, beq_iff_eq] at hk
  rcases hk with (rfl | rfl) | rfl
  · exact h.hP
  · exact h.hm
  · exact h.hs
theorem T3.p1 (P bm bs : Nat) : T3 P bm bs P = true := by simp [T3]
theorem T3.p2 (P bm bs : Nat) : T3 P bm bs bm = true := by simp [T3]
theorem T3.p3 (P bm bs : Nat) : T3 P bm bs bs = true := by simp [T3]
theorem T3.no {P bm bs k : Nat} (h1 : k ≠ P) (h2 : k ≠ bm) (h3 : k ≠ bs) : T3 P bm bs k = false := by simp [T3, h1, h2, h3]
theorem PSim.below2 (h : PSim S P bm bc bs m vd vp vl vi vS x nx nd u) (k : Below u.heap.size u u2) (e : ∀ k, k < u.heap.size → S2 k = S k) : PSim S2 P bm bc bs m vd vp vl vi vS x nx nd u2 := by
  obtain ⟨l1, l2, l3, l4⟩ := h.lt
  have k2 : Below (HdS S u).heap.size (HdS S u) (HdS S2 u2) := by rw [HdS.size]; exact HdS.below2 k e
  obtain ⟨g, r, hw⟩ := h.st
  exact ⟨(k.block _ l1).trans h.box, (k.block _ l4).trans h.cap, (e _ l1).trans h.hP, (e _ l2).trans h.hm, (e _ l3).trans h.hs, (e _ l4).trans h.hc, h.mdl.below k2, ⟨g, r.kept (k.block _ l3), fun i hi => (hw i hi).below k2⟩, h.mp.kept (k.block _ l2)⟩
theorem PSim.below (h : PSim S P bm bc bs m vd vp vl vi vS x nx nd u) (k : Below u.heap.size u u2) : PSim S P bm bc bs m vd vp vl vi vS x nx nd u2 := h.below2 k fun _ _ => rfl
/-- while another one's blocks are written -/
theorem PSim.kept (h : PSim S P bm bc bs m vd vp vl vi vS x nx nd u) (k : KpS T u u2) (hT : ∀ k, T k = true → S k = true) (tP : T P = false) (tm : T bm = false) (ts : T bs = false) : PSim S P bm bc bs m vd vp vl vi vS x nx nd u2 := by
  obtain ⟨l1, l2, l3, l4⟩ := h.lt
  have k2 := (k.mono hT).hd
  obtain ⟨g, r, hw⟩ := h.st
  have tc : T bc = false := by
    cases c : T bc with
    | false => rfl
    | true => have := hT _ c; rw [h.hc] at this; cases this
  exact ⟨(k.blk l1 tP).trans h.box, (k.blk l4 tc).trans h.cap, h.hP, h.hm, h.hs, h.hc, h.mdl.below k2, ⟨g, r.kept (k.blk l3 ts), fun i hi => (hw i hi).below k2⟩, h.mp.kept (k.blk l2 tm)⟩
theorem PSim.perm (h : PSim S P bm bc bs m vd vp vl vi vS x nx nd u) {W : List Evn} (p : x.W.Perm W) : PSim S P bm bc bs m vd vp vl vi vS ⟨x.S, W⟩ nx nd u :=
  ⟨h.box, h.cap, h.hP, h.hm, h.hs, h.hc, h.mdl, h.st, h.mp.perm p⟩
theorem PSim.next (h : PSim S P bm bc bs m vd vp vl vi vS x nx nd u) {y : Sm} (k : KpS (T3 P bm bs) u u2) (hb : u2.heap[P]? = some (.cells (pbox m vd vp vl vi vS bm bc nx2 nd2).toArray 70 (0, 0)))
    (hst : ∃ g, StRow bs (gT y.S g) m.nl vS u2 ∧ ∀ k, k < m.nl → Sl 1 (gW (y.S k).w) (y.S k).nw (g k) (HdS S u2)) (hmp : MpAt bm nx2 y.W u2) : PSim S P bm bc bs m vd vp vl vi vS y nx2 nd2 u2 := by
  obtain ⟨l1, l2, l3, l4⟩ := h.lt
  obtain ⟨n1, n2, n3, n4, n5, n6⟩ := h.ne
  exact ⟨hb, (k.blk l4 (T3.no n4 n5 n6)).trans h.cap, h.hP, h.hm, h.hs, h.hc, h.mdl.below (k.mono h.sub).hd, hst, hmp⟩
/-- the states, as the rest of memory is written -/
theorem PSim.sts (h : PSim S P bm bc bs m vd vp vl vi vS x nx nd u) (k : KpS (T3 P bm bs) u u2) (e : u2.heap[bs]? = u.heap[bs]?) : ∃ g, StRow bs (gT x.S g) m.nl vS u2 ∧ ∀ k, k < m.nl → Sl 1 (gW (x.S k).w) (x.S k).nw (g k) (HdS S u2) := by
  obtain ⟨g, r, hw⟩ := h.st
  exact ⟨g, r.kept e, fun i hi => (hw i hi).below (k.mono h.sub).hd⟩
/-- the struct's cells -/
theorem PSim.cells (h : PSim S P bm bc bs m vd vp vl vi vS x nx nd u) : u.cell? ⟨P, 0, none⟩ = some (.int .i64 m.seed) ∧ u.cell? ⟨P, 1, none⟩ = some (.float .f64 m.fin) ∧ u.cell? ⟨P, 2, none⟩ = some vd ∧ u.cell? ⟨P, 3, none⟩ = some vp ∧ u.cell? ⟨P, 4, none⟩ = some vl ∧ u.cell? ⟨P, 5, none⟩ = some vi ∧ u.cell? ⟨P, 6, none⟩ = some vS ∧ u.cell? ⟨P, 7, none⟩ = some (.map (some bm)) ∧ u.cell? ⟨P, 8, none⟩ = some (fvP bc) ∧ u.cell? ⟨P, 9, none⟩ = some (.int .i64 (nx : Int)) ∧ u.cell? ⟨P, 10, none⟩ = some (.int .i64 (nd : Int)) ∧ ∀ q, u.frozen? ⟨P, q, none⟩ = false := by
  refine ⟨?_, ?_, ?_, ?_, ?_, ?_, ?_, ?_, ?_, ?_, ?_, fun q => Lib.frozen_of_heap h.box q⟩ <;> (rw [Lib.cell_of_heap h.box]; rfl)
end

end Go.Proofs.YthkfaeplmmlnlaaGreat
namespace Go.Proofs.YthkfaeplmmlnlaaGreat
open Go.RowKit Go.Deep
set_option linter.unusedVariables false
set_option maxRecDepth 100000

def rbox (m : Mdl) (vd vp vl vi vS vW vD : Value) : List Value := [.int .i64 m.seed, .float .f64 m.fin, vd, vp, vl, vi, vS, vW, vD]
structure RSim (S : Nat → Bool) (P : Nat) (m : Mdl) (vd vp vl vi : Value) (x : Sm) (nd : Nat) (D : Nat → Dn) (vS vW vD : Value) (u : World) : Prop where
  box : u.heap[P]? = some (.cells (rbox m vd vp vl vi vS vW vD).toArray 52 (0, 0))
  hP : S P = true
  lo : ∀ k, S k = true → k < u.heap.size
  mdl : MdlAt m vd vp vl vi (HdS S u)
  st : StsAt x.S m.nl vS (HdS S u)
  wt : Sl 5 (gV8 (evF x.W)) x.W.length vW (HdS S u)
  dn : Sl 6 (gD D) nd vD (HdS S u)
  wf : (vW = .slice none 0 0 ∧ x.W = []) ∨ ∃ b o c, vW = .slice (some ⟨b, o, none⟩) x.W.length c
section
variable {S : Nat → Bool} {P : Nat} {m : Mdl} {vd vp vl vi : Value} {x : Sm} {nd : Nat} {D : Nat → Dn} {vS vW vD : Value} {u u2 : World}
theorem RSim.lt (h : RSim S P m vd vp vl vi x nd D vS vW vD u) : P < u.heap.size := lt_of_block h.box
theorem Kp.one {P : Nat} {u u2 : World} (k : Kp P u u2) : KpS (fun q => q == P) u u2 := by
  have k9 : Below u.heap.size (Hd P u) (Hd P u2) := k
  refine ⟨k9.os, k9.tape, k9.output, by rw [HdS.size, HdS.size]; exact k.size, fun q hq => ?_⟩
  by_cases e : q = P
  · subst e; exact HdS.hid (by simp) hq (Nat.lt_of_lt_of_le hq k.size)
  · rw [HdS.block, HdS.block, k.blk hq (fun c => e c.symm)]
theorem Kp.hds {S : Nat → Bool} {P : Nat} {u u2 : World} (k : Kp P u u2) (hP : S P = true) : Below (HdS S u).heap.size (HdS S u) (HdS S u2) :=
  (k.one.mono fun q hq => by simp only [beq_iff_eq] at hq; rw [hq]; exact hP).hd
theorem Kp.hd {P : Nat} {u u2 : World} (k : Kp P u u2) : Below (Hd P u).heap.size (Hd P u) (Hd P u2) := by rw [Hd.size]; exact k
theorem RSim.below (h : RSim S P m vd vp vl vi x nd D vS vW vD u) (k : Below u.heap.size u u2) : RSim S P m vd vp vl vi x nd D vS vW vD u2 := by
  have k2 := (KpS.of (S := S) k).hd
  exact ⟨(k.block _ h.lt).trans h.box, h.hP, fun q hq => Nat.lt_of_lt_of_le (h.lo q hq) k.size, h.mdl.below k2, h.st.below k2, h.wt.below k2, h.dn.below k2, h.wf⟩
/-- while others' blocks, hidden, are written -/
theorem RSim.kept {T : Nat → Bool} (h : RSim S P m vd vp vl vi x nd D vS vW vD u) (k : KpS T u u2) (hT : ∀ q, T q = true → S q = true) (tP : T P = false) : RSim S P m vd vp vl vi x nd D vS vW vD u2 := by
  have k2 := (k.mono hT).hd
  exact ⟨(k.blk h.lt tP).trans h.box, h.hP, fun q hq => Nat.lt_of_lt_of_le (h.lo q hq) k.size, h.mdl.below k2, h.st.below k2, h.wt.below k2, h.dn.below k2, h.wf⟩
/-- the struct's cells -/
theorem RSim.cells (h : RSim S P m vd vp vl vi x nd D vS vW vD u) : u.cell? ⟨P, 0, none⟩ = some (.int .i64 m.seed) ∧ u.cell? ⟨P, 1, none⟩ = some (.float .f64 m.fin) ∧ u.cell? ⟨P, 2, none⟩ = some vd ∧ u.cell? ⟨P, 3, none⟩ = some vp ∧ u.cell? ⟨P, 4, none⟩ = some vl ∧ u.cell? ⟨P, 5, none⟩ = some vi ∧ u.cell? ⟨P, 6, none⟩ = some vS ∧ u.cell? ⟨P, 7, none⟩ = some vW ∧ u.cell? ⟨P, 8, none⟩ = some vD ∧ ∀ q, u.frozen? ⟨P, q, none⟩ = false := by
  refine ⟨?_, ?_, ?_, ?_, ?_, ?_, ?_, ?_, ?_, fun q => Lib.frozen_of_heap h.box q⟩ <;> (rw [Lib.cell_of_heap h.box]; rfl)
/-- a row of the call's own, apart from what is hidden -/
theorem own_new {base b : Nat} {E : TypeId} {C n : Nat} {v : Value} {xs : List Value} (lo : ∀ k, S k = true → k < base) (h : u.ownsRow b E C v n xs) (hb : base ≤ b) : (HdS S u).ownsRow b E C v n xs :=
  own_hdS h fun g hg => by
    cases c : S g with
    | false => rfl
    | true => have := lo g c; have := (own_lt h hg).1; omega
/-- a store into the struct -/
theorem RSim.put (h : RSim S P m vd vp vl vi x nd D vS vW vD u) (o : Nat) (v : Value) {y : Sm} {nd2 : Nat} {D2 : Nat → Dn} {vS2 vW2 vD2 : Value}
    (hb : (rbox m vd vp vl vi vS vW vD).toArray.setIfInBounds o v = (rbox m vd vp vl vi vS2 vW2 vD2).toArray)
    (hs : StsAt y.S m.nl vS2 (HdS S u)) (hw : Sl 5 (gV8 (evF y.W)) y.W.length vW2 (HdS S u)) (hd : Sl 6 (gD D2) nd2 vD2 (HdS S u)) (hf : (vW2 = .slice none 0 0 ∧ y.W = []) ∨ ∃ b o c, vW2 = .slice (some ⟨b, o, none⟩) y.W.length c) : RSim S P m vd vp vl vi y nd2 D2 vS2 vW2 vD2 (u.setCell ⟨P, o, none⟩ v) := by
  have k2 := (KpS.set h.hP o v u).hd
  refine ⟨?_, h.hP, fun q hq => by rw [World.size_setCell]; exact h.lo q hq, h.mdl.below k2, hs.below k2, hw.below k2, hd.below k2, hf⟩
  have := Joins.block_setCell (i := o) h.box v
  rw [hb] at this
  exact this
end
/-- the place of an event among those that wait -/
def plcE (e : Evn) : List Evn → Nat
  | [] => 0
  | x :: r => if ordE x e ≤ 0 then plcE e r + 1 else 0
theorem plcE_le (e : Evn) : ∀ W : List Evn, plcE e W ≤ W.length
  | [] => Nat.le_refl _
  | x :: r => by
    unfold plcE
    split
    · simp only [List.length_cons]; have := plcE_le e r; omega
    · exact Nat.zero_le _
theorem plcE_at (e : Evn) : ∀ (W : List Evn) (p : Nat), p ≤ W.length → (∀ i, i < p → ordE (evF W i) e ≤ 0) → (p < W.length → ¬ ordE (evF W p) e ≤ 0) → p = plcE e W
  | [], p, hp, _, _ => by simpa [plcE] using hp
  | x :: r, 0, _, _, h2 => by
    have := h2 (by simp)
    unfold plcE
    rw [if_neg (by simpa [evF] using this)]
  | x :: r, p + 1, hp, h1, h2 => by
    have h0 := h1 0 (by omega)
    unfold plcE
    rw [if_pos (by simpa [evF] using h0)]
    rw [plcE_at e r p (by simpa using hp) (fun i hi => by have := h1 (i + 1) (by omega); simpa [evF] using this) (fun hlt => by have := h2 (by simpa using hlt); simpa [evF] using this)]
theorem insE_take (e : Evn) : ∀ W : List Evn, insE e W = W.take (plcE e W) ++ e :: W.drop (plcE e W)
  | [] => rfl
  | x :: r => by
    unfold insE plcE
    by_cases h : ordE x e ≤ 0
    · rw [if_pos h, if_pos h, insE_take e r]; simp
    · rw [if_neg h, if_neg h]; simp
theorem evF_ins (e : Evn) (W : List Evn) (i : Nat) : evF (insE e W) i = if i < plcE e W then evF W i else if i = plcE e W then e else evF W (i - 1) := by
  have hp := plcE_le e W
  unfold evF
  rw [insE_take e W, List.getD_eq_getElem?_getD]
  by_cases h : i < plcE e W
  · rw [if_pos h, List.getElem?_append_left (by rw [List.length_take]; omega), List.getElem?_take, if_pos h, List.getD_eq_getElem?_getD]
  · rw [if_neg h, List.getElem?_append_right (by rw [List.length_take]; omega), List.length_take, Nat.min_eq_left hp]
    by_cases h2 : i = plcE e W
    · rw [if_pos h2, h2, Nat.sub_self]; rfl
    · rw [if_neg h2, show i - plcE e W = (i - 1 - plcE e W) + 1 by omega, List.getElem?_cons_succ, List.getElem?_drop, show plcE e W + (i - 1 - plcE e W) = i - 1 by omega, List.getD_eq_getElem?_getD]
theorem insE_length (e : Evn) (W : List Evn) : (insE e W).length = W.length + 1 := (insE_perm e W).length_eq

/-- pieces of a slice -/
def evDrop (W : List Evn) (p : Nat) : Nat → Evn := fun i => evF W (i + p)
theorem sl_take {C : Nat} {g : Nat → Nat → Value} {n c b o p : Nat} {w : World} (h : Sl C g n (.slice (some ⟨b, o, none⟩) n c) w) (hp : p ≤ n) : Sl C g p (.slice (some ⟨b, o, none⟩) p c) w := by
  obtain ⟨a, c2, e, h1, h2, h3⟩ := h
  simp only [Value.slice.injEq, true_and] at e
  obtain ⟨rfl, rfl⟩ := e
  refine ⟨_, _, rfl, by omega, h2, fun h0 => ?_⟩
  obtain ⟨b2, o2, e2, hA⟩ := h3 (by omega)
  simp only [Option.some.injEq, Addr.mk.injEq, and_true] at e2
  obtain ⟨rfl, rfl⟩ := e2
  exact ⟨_, _, rfl, hA.1, fun i hi j hj => hA.2 i (by omega) j hj⟩
theorem sl_drop {C : Nat} {g : Nat → Nat → Value} {n c b o p : Nat} {w : World} (h : Sl C g n (.slice (some ⟨b, o, none⟩) n c) w) (hp : p ≤ n) : Sl C (fun i => g (i + p)) (n - p) (.slice (if c = p then some ⟨b, o, none⟩ else some ⟨b, o + p * C, none⟩) (n - p) (c - p)) w := by
  obtain ⟨a, c2, e, h1, h2, h3⟩ := h
  simp only [Value.slice.injEq, true_and] at e
  obtain ⟨rfl, rfl⟩ := e
  refine ⟨_, _, rfl, by omega, by omega, fun h0 => ?_⟩
  obtain ⟨b2, o2, e2, hA⟩ := h3 (by omega)
  simp only [Option.some.injEq, Addr.mk.injEq, and_true] at e2
  obtain ⟨rfl, rfl⟩ := e2
  rw [if_neg (by omega)]
  refine ⟨_, _, rfl, hA.1, fun i hi j hj => ?_⟩
  have := hA.2 (i + p) (by omega) j hj
  rw [Nat.add_mul] at this
  rw [show o + p * C + i * C + j = o + (i * C + p * C) + j by omega]
  exact this
theorem slice_h_run {P : Program} {t : TypeId} {e : TypeId} {i : TypeInfo} (ht : P.underlying t = some (.slice e)) (hi : P.info? e = some i) (b o n c p : Nat) (hp : p ≤ c) (w : World) :
    (Instr.slice t (.slice (some ⟨b, o, none⟩) n c) none (some (.int .i64 (p : Int))) none).run P w = .ok (.slice (some ⟨b, o, none⟩) p c) w := by
  have h1 : (p : Int) ≤ (c : Int) := by omega
  have h0 : (0 : Int) ≤ (p : Int) := by omega
  simp [Instr.slice, run_underlying ht, Instr.sliceBounds, run_sliceBound, sizeOf, typeInfo, hi, h0, hp, add_plain]
theorem slice_l_run {P : Program} {t : TypeId} {e : TypeId} {i : TypeInfo} (ht : P.underlying t = some (.slice e)) (hi : P.info? e = some i) (b o n c p : Nat) (hp : p ≤ n) (w : World) :
    (Instr.slice t (.slice (some ⟨b, o, none⟩) n c) (some (.int .i64 (p : Int))) none none).run P w = .ok (.slice (if c = p then some ⟨b, o, none⟩ else some ⟨b, o + p * i.size, none⟩) (n - p) (c - p)) w := by
  have h0 : (0 : Int) ≤ (p : Int) := by omega
  simp [Instr.slice, run_underlying ht, Instr.sliceBounds, run_sliceBound, sizeOf, typeInfo, hi, h0, hp, add_plain]

theorem cells_ins (e : Evn) (W : List Evn) : (rowCells 5 (gV8 (evF W)) (plcE e W) ++ rowCells 5 (gV8 fun _ => e) 1) ++ rowCells 5 (fun i => gV8 (evF W) (i + plcE e W)) (W.length - plcE e W) = rowCells 5 (gV8 (evF (insE e W))) (W.length + 1) := by
  have hp := plcE_le e W
  rw [rowCells_append 5 (by decide), rowCells_append 5 (by decide), show plcE e W + 1 + (W.length - plcE e W) = W.length + 1 by omega]
  refine rowCells_congr (by decide) fun i hi j hj => ?_
  have hv : ∀ (f f2 : Nat → Evn) (a b : Nat), f a = f2 b → gV8 f a j = gV8 f2 b j := fun f f2 a b h => by unfold gV8; rw [h]
  by_cases h1 : i < plcE e W
  · rw [if_pos (by omega), if_pos h1]
    exact hv _ _ _ _ (by rw [evF_ins, if_pos h1])
  · by_cases h2 : i = plcE e W
    · rw [if_pos (by omega), if_neg h1]
      exact hv _ _ _ _ (by rw [evF_ins, if_neg h1, if_pos h2])
    · rw [if_neg (by omega)]
      exact hv _ _ _ _ (by rw [evF_ins, if_neg h1, if_neg h2, show i - (plcE e W + 1) + plcE e W = i - 1 by omega])
theorem gV8_one (f : Nat → Evn) (i j : Nat) : (gV8 f i j).oneCell' = true := by
  unfold gV8
  split <;> rfl

end Go.Proofs.YthkfaeplmmlnlaaGreat
namespace Go.Proofs.YthkfaeplmmlnlaaGreat
open Go.RowKit
section
variable {P : Program} {ops : Array Oper} {Q : Exit → Act → World → Prop} {md : Region.Mode} {S : World → Prop} {X : Nat}
def wpAnyX (P : Program) (md : Region.Mode) (ops : Array Oper) (Q : Exit → Act → World → Prop) (S : World → Prop) (X : Nat) : Nat → Array Bool → Act → World → Prop
  | 0, l, a, w => Region.ready md ops l = [] ∧ Q .normal a w
  | n + 1, l, a, w => (Region.ready md ops l = [] → Q .normal a w) ∧ ∀ i ∈ Region.ready md ops l, wpOp P ops Q i (fun a2 w2 => (i = X ∨ S w2) ∧ wpAnyX P md ops Q S X n (l.setIfInBounds i true) a2 w2) a w
theorem wpAny_of_x : ∀ (n : Nat) (l : Array Bool) (a : Act) (w : World), wpAnyX P md ops Q S X n l a w → wpAny P md ops Q n l a w
  | 0, _, _, _, h => h
  | n + 1, _, _, _, h => ⟨h.1, fun i hi => wpOp_mono (fun a2 w2 h2 => wpAny_of_x n _ a2 w2 h2.2) (h.2 i hi)⟩
/-- operation X waits for operation i -/
def awaits (md : Region.Mode) (ops : Array Oper) (X i : Nat) : Bool := match ops[X]? with
  | some o => o.after.any fun e => Region.binds md e && e.on == i
  | none => false
theorem wpAnyX_first {i : Nat} {oi : Oper} {v : Value} (hi : ops[i]? = some oi) (hsel : ∀ (j : Nat) (o : Oper) cs b, ops[j]? = some o → o.op ≠ .select cs b)
    (hQ : ∀ c a w, Q (.panic c) (a.put oi.dst v) w → Q (.panic c) a w) (hX : awaits md ops X i = true) :
    ∀ (n : Nat) (l : Array Bool) (a : Act) (w : World),
      (∀ j oj, ops[j]? = some oj → j ≠ i → l.getD j true = false → (∀ e ∈ oj.after, Region.binds md e = true → e.on ≠ i) → oi.apart ops oj = true) →
      i ∈ Region.ready md ops l → YieldsIf P ops S oi v a → S w →
      wpAnyX P md ops Q S X n (l.setIfInBounds i true) (a.put oi.dst v) w → wpAnyX P md ops Q S X (n + 1) l a w := by
  intro n
  induction n with
  | zero =>
    intro l a w _ hr hy hS H
    refine ⟨fun h => (by rw [h] at hr; cases hr), fun j hj => ?_⟩
    by_cases hji : j = i
    · subst hji; exact hy.wpOp hi hS ⟨.inr hS, H⟩
    · have := ready_mono hj hji
      rw [H.1] at this
      cases this
  | succ n ih =>
    intro l a w hfree hr hy hS H
    refine ⟨fun h => (by rw [h] at hr; cases hr), fun j hj => ?_⟩
    by_cases hji : j = i
    · subst hji; exact hy.wpOp hi hS ⟨.inr hS, H⟩
    · have h1 := H.2 j (ready_mono hj hji)
      obtain ⟨hjun, oj, hoj, hall⟩ := mem_ready.1 hj
      have hnot : ∀ e ∈ oj.after, Region.binds md e = true → e.on ≠ i := fun e he hb heq => by
        have h1 := hall e he hb
        have h0 := (mem_ready.1 hr).1
        rw [heq] at h1
        rcases Nat.lt_or_ge i l.size with h' | h'
        · simp [h'] at h0 h1; rw [h0] at h1; cases h1
        · simp [Array.getElem?_eq_none h'] at h1
      have hjX : j ≠ X := fun e => by
        subst e
        unfold awaits at hX
        rw [hoj] at hX
        simp only [Array.any_eq_true, Bool.and_eq_true, beq_iff_eq] at hX
        obtain ⟨k, hk, hb, hon⟩ := hX
        exact hnot _ (Array.getElem_mem hk) hb hon
      have h2 := wpOp_putIf hoj (hfree j oj hoj hji hjun hnot) (fun cs b => hsel i oi cs b hi) (fun cs b => hsel j oj cs b hoj) hQ hy h1
      have hfree2 : ∀ k ok, ops[k]? = some ok → k ≠ i → (l.setIfInBounds j true).getD k true = false →
          (∀ e ∈ ok.after, Region.binds md e = true → e.on ≠ i) → oi.apart ops ok = true := fun k ok hk hki hun hno => by
        refine hfree k ok hk hki ?_ hno
        by_cases hjk : j = k
        · subst hjk; exact hjun
        · rw [getD_set_ne true hjk] at hun; exact hun
      refine wpOp_mono (fun a2 w2 h3 => ?_) h2
      have hS2 : S w2 := h3.2.1.resolve_left hjX
      refine ⟨.inr hS2, ih (l.setIfInBounds j true) a2 w2 hfree2 (ready_mono hr (Ne.symm hji)) h3.1 hS2 ?_⟩
      rw [Array.setIfInBounds_comm _ _ hji]
      exact h3.2.2
theorem wpAnyX_take {i : Nat} {oi : Oper} {v : Value} {n : Nat} {l : Array Bool} {a : Act} {w : World} (hi : ops[i]? = some oi)
    (hs : Region.noSelect ops = true) (hf : Region.free md ops l i = true) (hr : (Region.ready md ops l).contains i = true) (hX : awaits md ops X i = true)
    (hQ : ∀ c a w, Q (.panic c) (a.put oi.dst v) w → Q (.panic c) a w) (hy : YieldsIf P ops S oi v a) (hS : S w)
    (h : wpAnyX P md ops Q S X n (l.setIfInBounds i true) (a.put oi.dst v) w) : wpAnyX P md ops Q S X (n + 1) l a w :=
  wpAnyX_first hi (Region.noSelect_spec hs) hQ hX n l a w (Region.free_spec hi hf) (by simpa using hr) hy hS h
theorem tx0 (i : Nat) {oi : Oper} {n : Nat} {l : Array Bool} {a : Act} {w : World} (hi : ops[i]? = some oi)
    (h : wpAnyX P md ops Q S X n (l.setIfInBounds i true) (a.put oi.dst undef) w)
    (hs : Region.noSelect ops = true := by kernel_rfl) (hf : Region.free md ops l i = true := by kernel_rfl) (hr : (Region.ready md ops l).contains i = true := by kernel_rfl) (hX : awaits md ops X i = true := by kernel_rfl)
    (hQ : ∀ c a w, Q (.panic c) (a.put oi.dst undef) w → Q (.panic c) a w := by exact fun _ _ _ h => h)
    (hw : Region.wanted oi (yielded ops a.tmps) = false := by rfl) (hS : S w := by assumption) : wpAnyX P md ops Q S X (n + 1) l a w := wpAnyX_take hi hs hf hr hX hQ (.inr ⟨hw, rfl⟩) hS h
theorem tx1 (i : Nat) {oi : Oper} {v : Value} {n : Nat} {l : Array Bool} {a : Act} {w : World} (hi : ops[i]? = some oi)
    (hy : ∀ w5, S w5 → (execOp a.eval oi).run P w5 = .ok (.value v) w5)
    (h : wpAnyX P md ops Q S X n (l.setIfInBounds i true) (a.put oi.dst v) w)
    (hs : Region.noSelect ops = true := by kernel_rfl) (hf : Region.free md ops l i = true := by kernel_rfl) (hr : (Region.ready md ops l).contains i = true := by kernel_rfl) (hX : awaits md ops X i = true := by kernel_rfl)
    (hQ : ∀ c a w, Q (.panic c) (a.put oi.dst v) w → Q (.panic c) a w := by exact fun _ _ _ h => h)
    (hw : Region.wanted oi (yielded ops a.tmps) = true := by rfl) (hS : S w := by assumption) : wpAnyX P md ops Q S X (n + 1) l a w := wpAnyX_take hi hs hf hr hX hQ (.inl ⟨hw, hy⟩) hS h
/-- each of the operations rs comes up next -/
def AllReadyX (P : Program) (md : Region.Mode) (ops : Array Oper) (Q : Exit → Act → World → Prop) (S : World → Prop) (X n : Nat) (l : Array Bool) (a : Act) (w : World) (rs : List Nat) : Prop :=
  ∀ i ∈ rs, wpOp P ops Q i (fun a2 w2 => (i = X ∨ S w2) ∧ wpAnyX P md ops Q S X n (l.setIfInBounds i true) a2 w2) a w
theorem AllReadyX.nil {n : Nat} {l : Array Bool} {a : Act} {w : World} : AllReadyX P md ops Q S X n l a w [] := fun _ h => by cases h
theorem AllReadyX.cons {n : Nat} {l : Array Bool} {a : Act} {w : World} {i : Nat} {o : Oper} {rs : List Nat} (ho : ops[i]? = some o)
    (h : ∀ K2 : Act → World → Prop, Shut (∀ a w, S w → (S w → wpAnyX P md ops Q S X n (l.setIfInBounds i true) a w) → K2 a w) → if Region.wanted o (yielded ops a.tmps) = true then Oper.wp P o a w K2 Q else K2 (a.put o.dst undef) w)
    (hs : AllReadyX P md ops Q S X n l a w rs) : AllReadyX P md ops Q S X n l a w (i :: rs) := fun j hj => by
  rcases List.mem_cons.1 hj with rfl | hj
  · exact wpOp_step ho (fun K2 hK => h K2 (fun a w hS hW => hK a w ⟨.inr hS, hW hS⟩))
  · exact hs j hj
theorem wpAnyX_ready {rs : List Nat} {n : Nat} {l : Array Bool} {a : Act} {w : World} (hr : Region.ready md ops l = rs) (hne : rs ≠ [])
    (h : AllReadyX P md ops Q S X n l a w rs) : wpAnyX P md ops Q S X (n + 1) l a w := ⟨fun h0 => absurd (hr ▸ h0) hne, hr ▸ h⟩
/-- the last one, X, and then the end -/
theorem wpAnyX_last {n : Nat} {l : Array Bool} {a : Act} {w : World} {o : Oper} (hr : Region.ready md ops l = [X]) (ho : ops[X]? = some o)
    (h : ∀ K2 : Act → World → Prop, Shut (∀ a w, Q .normal a w → K2 a w) → if Region.wanted o (yielded ops a.tmps) = true then Oper.wp P o a w K2 Q else K2 (a.put o.dst undef) w)
    (hr2 : Region.ready md ops (l.setIfInBounds X true) = []) : wpAnyX P md ops Q S X (n + 1) l a w := by
  refine ⟨fun h0 => absurd (hr ▸ h0) (by simp), fun j hj => ?_⟩
  rw [hr] at hj
  obtain rfl := List.mem_singleton.1 hj
  refine wpOp_step ho (fun K2 hK => h K2 (fun a w hq => hK a w ⟨.inl rfl, ?_⟩))
  cases n with
  | zero => exact ⟨hr2, hq⟩
  | succ n => exact ⟨fun _ => hq, by rw [hr2]; simp⟩
theorem wp_region_x_drew (X : Nat) {id : Nat} {a : Act} {w : World} (hm : P.follows .mixedOrders = true) (hS : S w.drew)
    (h : S w.drew → wpAnyX P .any ops Q S X ops.size (Array.replicate ops.size false) a w.drew) : (Code.region id ops true).wp P Q a w :=
  wp_region_any hm (wpAny_of_x _ _ _ _ (h hS))
end
end Go.Proofs.YthkfaeplmmlnlaaGreat
