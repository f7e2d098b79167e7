/- Reading a model, the document's way: what its four loops keep. The place lies in block tb, the model in block X. -/
import Derived.Test.YtemhbcjpgapjkaaMioRefGet3
namespace Go.Proofs.Ytemhbcjpgapjkaa
open Go.RowKit
set_option linter.unusedVariables false
set_option maxRecDepth 100000

/-- hiding a block, and what is done to memory -/
theorem hd_types {B : Nat} {W : World} {cs : Array Value} {E : TypeId} {fr : Nat × Nat} (hB : W.heap[B]? = some (.cells cs E fr)) :
    ∀ (k : Nat) (c : Array Value) (t : TypeId) (f : Nat × Nat), t ≠ E → W.heap[k]? = some (Obj.cells c t f) → (Hd B W).heap[k]? = some (Obj.cells c t f) := by
  intro k c t f hne hc
  rw [Hd.other]
  · exact hc
  · rintro rfl
    rw [hc] at hB
    simp only [Option.some.injEq, Obj.cells.injEq] at hB
    exact hne hB.2.1
theorem hd_set_self (X o : Nat) (v : Value) (W : World) : Hd X (W.setCell ⟨X, o, none⟩ v) = Hd X W := by
  unfold Hd World.setCell
  simp only [World.mk.injEq, and_true]
  apply Array.ext_getElem?
  intro k
  simp only [Array.getElem?_modify]
  by_cases e : X = k
  · simp [e, Function.comp_def]
  · simp [e]
theorem hd_set_other {X tb : Nat} (h : tb ≠ X) (o : Nat) (v : Value) (W : World) : Hd X (W.setCell ⟨tb, o, none⟩ v) = (Hd X W).setCell ⟨tb, o, none⟩ v := by
  unfold Hd World.setCell
  simp only [World.mk.injEq, and_true]
  apply Array.ext_getElem?
  intro k
  simp only [Array.getElem?_modify]
  by_cases e : X = k
  · subst e
    simp [h]
  · simp [e]
theorem hd_sets_self (X : Nat) : ∀ (l : List Value) (o : Nat) (W : World), Hd X (W.setCells X o l) = Hd X W
  | [], _, W => rfl
  | v :: l, o, W => (hd_sets_self X l (o + 1) _).trans (hd_set_self X o v W)
theorem hd_sets_other {X tb : Nat} (h : tb ≠ X) : ∀ (l : List Value) (o : Nat) (W : World), Hd X (W.setCells tb o l) = (Hd X W).setCells tb o l
  | [], _, W => rfl
  | v :: l, o, W => by
    show Hd X ((W.setCell ⟨tb, o, none⟩ v).setCells tb (o + 1) l) = ((Hd X W).setCell ⟨tb, o, none⟩ v).setCells tb (o + 1) l
    rw [hd_sets_other h l (o + 1) _, hd_set_other h]
theorem hd_alloc {X : Nat} {W : World} (h : X < W.heap.size) (o : Obj) : Hd X (W.alloc o) = (Hd X W).alloc o := by
  unfold Hd World.alloc
  simp only [World.mk.injEq, and_true]
  apply Array.ext_getElem?
  intro k
  simp only [Array.getElem?_modify, Array.getElem?_push, Array.size_modify]
  by_cases e : X = k
  · subst e
    have : X ≠ W.heap.size := by omega
    simp [this]
  · simp [e]
theorem hd_grown {X : Nat} {w w4 : World} {row : Option Nat} (h : w.grownBy w4 row) : (Hd X w).grownBy (Hd X w4) row :=
  ⟨h.os, h.tape, h.output, by rw [Hd.size, Hd.size]; exact h.size, fun k hk hne => by rw [Hd.block, Hd.block, h.block k (by rwa [Hd.size] at hk) hne]⟩

/-- a list is right once no error was met -/
theorem lst_strong {C : Nat} {E : TypeId} {cl : Value → Nat → Value} {s : ByteArray} {nx : St → St} {R R2 : St → Value → World → Prop} (hs : Stick nx) (h : ∀ st r u, (nx st).e = 0 → R2 st r u → R st r u) {st : St} {r : Value} {u : World}
    (h0 : (lsE s nx st).e = 0) (k : Lst C E cl s nx R2 st r u) : Lst C E cl s nx R st r u := by
  obtain ⟨g, h1, h2⟩ := k
  refine ⟨g, h1, fun i hi => h _ _ _ ?_ (h2 i hi)⟩
  refine Classical.byContradiction fun hc => ?_
  have : it nx (lsN s st) (lsS s st) = it nx (i + 1) (lsS s st) := it_stop hs (by omega) hc
  unfold lsE at h0
  rw [this] at h0
  exact hc h0

/-- what is said of memory, and stays while new blocks are made -/
def Keeps (F : World → Prop) : Prop := ∀ u u2, F u → Below u.heap.size u u2 → F u2
theorem keeps_true : Keeps fun _ => True := fun _ _ h _ => h
theorem keeps_and {F : World → Prop} (hF : Keeps F) {P : Prop} {C : Nat} {E : TypeId} {cl : Value → Nat → Value} {s : ByteArray} {nx : St → St} {R : St → Value → World → Prop} (hE : E ≠ 28) (hS : Stab 28 R) {st : St} {v : Value} :
    Keeps fun u => F u ∧ (P → Lst C E cl s nx R st v u) := fun u u2 h k => ⟨hF u u2 h.1 k, fun p => (stab_lst hE hS).below (h.2 p) k⟩

/-- the state between two loops: the place, the model so far, the result's block, and what is known of the lists that were read -/
structure Mid (w : World) (tb X : Nat) (cs : Array Value) (F : World → Prop) (st : St) (u : World) : Prop where
  lt1 : w.heap.size < tb
  lt2 : tb < X
  place : PlaceAt tb st u
  box : u.heap[X]? = some (.cells cs 28 (0, 0))
  res : u.heap[w.heap.size]? = some (.cells #[.int .i64 0, .float .f64 0, .slice none 0 0, .slice none 0 0, .slice none 0 0, .slice none 0 0] 28 (0, 0))
  low : Below w.heap.size w u
  has : F (Hd tb (Hd X u))
theorem Mid.call {w : World} {tb X : Nat} {cs : Array Value} {F : World → Prop} {st : St} {u u2 : World} (hF : Keeps F) (h : Mid w tb X cs F st u) (k : Below u.heap.size u u2) : Mid w tb X cs F st u2 :=
  ⟨h.lt1, h.lt2, h.place.low k (lt_of_block h.place), (k.block _ (lt_of_block h.box)).trans h.box, (k.block _ (lt_of_block h.res)).trans h.res, bthen h.low k,
    hF _ _ h.has (by rw [Hd.size, Hd.size]; exact Hd.below (Hd.below k))⟩
theorem Mid.put {w : World} {tb X : Nat} {cs : Array Value} {F : World → Prop} {st : St} {u : World} (h : Mid w tb X cs F st u) (st2 : St) : Mid w tb X cs F st2 (u.setCells tb 0 [.int .i64 (st2.pos : Int), .int .i64 st2.e]) := by
  have h1 := h.lt1
  have h2 := h.lt2
  refine ⟨h1, h2, put_two h.place _ _, (put_other (by omega) _ _ _).trans h.box, (put_other (by omega) _ _ _).trans h.res, h.low.trans (putL_low (Nat.le_of_lt h1) _ 0 _), ?_⟩
  rw [hd_sets_other (by omega), hd_sets_self]
  exact h.has

/-- in a loop: j elements were read into the row v, which lies in the model -/
structure LoopG (tb X : Nat) (cs : Value → Array Value) (nx : St → St) (R : St → Value → World → Prop) (C : Nat) (E : TypeId) (cl : Value → Nat → Value) (v4 : World) (S0 : St) (j : Nat) (v : Value) (wr : World) : Prop where
  loop : LoopD tb nx R C E cl (Hd X v4) S0 j v (Hd X wr)
  box : wr.heap[X]? = some (.cells (cs v) 28 (0, 0))
section
variable {w : World} {tb X : Nat} {cs : Value → Array Value} {F : World → Prop} {nx : St → St} {R : St → Value → World → Prop} {C : Nat} {E : TypeId} {cl : Value → Nat → Value} {v4 : World} {S0 : St}
theorem loopG_start (M : Mid w tb X (cs (.slice none 0 0)) F S0 v4) : LoopG tb X cs nx R C E cl v4 S0 0 (.slice none 0 0) v4 := by
  have h2 := M.lt2
  exact ⟨loopD_start ((Hd.other _ (by omega)).trans M.place), M.box⟩
theorem LoopG.place {j : Nat} {v : Value} {wr : World} (h : LoopG tb X cs nx R C E cl v4 S0 j v wr) : PlaceAt tb (it nx j S0) wr := (Hd.cells h.loop.place).2
theorem LoopG.size {j : Nat} {v : Value} {wr : World} (h : LoopG tb X cs nx R C E cl v4 S0 j v wr) : v4.heap.size ≤ wr.heap.size := by
  have := h.loop.kp.size
  rwa [Hd.size, Hd.size] at this
theorem LoopG.own {j : Nat} {v : Value} {wr : World} (h : LoopG tb X cs nx R C E cl v4 S0 j v wr) : ∃ g : Nat → Value, wr.ownsRow v4.heap.size E C v j (rowCells C (fun i k => cl (g i) k) j) ∧ ∀ i, i < j → R (it nx i S0) (g i) (Hd tb (Hd X wr)) := by
  obtain ⟨g, h1, h2⟩ := h.loop.own
  rw [Hd.size] at h1
  exact ⟨g, own_show h1, h2⟩
theorem loopG_step (M : Mid w tb X (cs (.slice none 0 0)) F S0 v4) (hC : 0 < C) (hS : Stab E R) (hE1 : 65 ≠ E) (hE2 : 28 ≠ E) {j : Nat} {v : Value} {wr : World} (hl : LoopG tb X cs nx R C E cl v4 S0 j v wr) {g : Nat → Value}
    (h1 : wr.ownsRow v4.heap.size E C v j (rowCells C (fun i k => cl (g i) k) j)) (h2 : ∀ i, i < j → R (it nx i S0) (g i) (Hd tb (Hd X wr)))
    {w2 : World} {r : Value} (hr : R (it nx j S0) r (Hd tb (Hd X w2))) (hb2 : Below wr.heap.size wr w2)
    {cs2 : Array Value} (hcs : cs2.size = C) (hcl : ∀ k, k < C → cs2.toList[k]? = some (cl r k)) {v' : Value} {w4 : World}
    (hown : w4.ownsRow v4.heap.size E C v' (j + 1) (rowCells C (fun i k => cl (g i) k) j ++ cs2.toList)) (hg : (w2.alloc (.cells cs2 E)).grownBy w4 v.ownBlock) {ci : Nat} (hmk : ∀ v v', (cs v).setIfInBounds ci v' = cs v') :
    ∃ a n c, v' = .slice a n c ∧ w4.heap[X]? = some (.cells (cs v) 28 (0, 0)) ∧ PlaceAt tb (it nx j S0) w4 ∧
      LoopG tb X cs nx R C E cl v4 S0 (j + 1) (.slice a n c) ((w4.setCell ⟨X, ci, none⟩ (.slice a n c)).setCells tb 0 [.int .i64 ((nx (it nx j S0)).pos : Int), .int .i64 (nx (it nx j S0)).e]) := by
  have hlt2 := M.lt2
  have htb := lt_of_block M.place
  have hX := lt_of_block M.box
  have hXw : X < wr.heap.size := lt_of_block hl.box
  have hXw2 : X < w2.heap.size := Nat.lt_of_lt_of_le hXw hb2.size
  have own3 := (own_below h1 hb2).alloc (.cells cs2 E)
  have x2 := (hb2.block X hXw).trans hl.box
  have x4 : w4.heap[X]? = some (.cells (cs v) 28 (0, 0)) := grown_keep own3 hg ((Below.heap_alloc _ _ _ (lt_of_block x2)).trans x2) hE2
  have p2 : PlaceAt tb (it nx j S0) w2 := hl.place.low hb2 (lt_of_block hl.place)
  have p4 : PlaceAt tb (it nx j S0) w4 := grown_keep own3 hg ((Below.heap_alloc _ _ _ (lt_of_block p2)).trans p2) hE1
  obtain ⟨a, n, c, rfl⟩ : ∃ a n c, v' = .slice a n c := by
    rcases hown.2 with ⟨rfl, _⟩ | ⟨b, cap, cur, rfl, _⟩
    · exact ⟨_, _, _, rfl⟩
    · exact ⟨_, _, _, rfl⟩
  refine ⟨a, n, c, rfl, x4, p4, ?_, ?_⟩
  · have hg2 : ((Hd X w2).alloc (.cells cs2 E)).grownBy (Hd X w4) v.ownBlock := by
      rw [← hd_alloc hXw2]; exact hd_grown hg
    have := loopD_step hC (w := Hd X v4) (by rw [Hd.size]; exact htb) hS (by rw [Hd.size]; exact own_hide h1 hX) h2 hl.loop.place hl.loop.kp hr (by rw [Hd.size]; exact Hd.below hb2) hcs hcl
      (by rw [Hd.size]; exact own_hide hown hX) hg2
    rw [hd_sets_other (by omega), hd_set_self]
    exact this
  · rw [put_other (by omega)]
    have := Joins.block_setCell (i := ci) x4 (.slice a n c)
    rw [hmk] at this
    exact this
/-- all were read, or an error stopped it -/
theorem loopG_end {s : ByteArray} (hF : Keeps F) (hs : Stick nx) {st : St} (M : Mid w tb X (cs (.slice none 0 0)) F (lsS s st) v4) {j : Nat} {v : Value} {wr : World} (hl : LoopG tb X cs nx R C E cl v4 (lsS s st) j v wr)
    (hj : j ≤ lsN s st) (hend : j = lsN s st ∨ (it nx j (lsS s st)).e ≠ 0) :
    Mid w tb X (cs v) (fun u => F u ∧ ((lsE s nx st).e = 0 → Lst C E cl s nx R st v u)) (lsE s nx st) wr := by
  have hlt1 := M.lt1
  have hlt2 := M.lt2
  have htb := lt_of_block M.place
  obtain ⟨r1, r2, r3⟩ := loopD_end (w := Hd X v4) hs (by rw [Hd.size]; exact htb) hl.loop hj hend
  have hb : Below w.heap.size (Hd X v4) (Hd X wr) := r3.bot (by rw [Hd.size]; omega) (by omega)
  have hb2 : Below w.heap.size v4 wr := ⟨hb.os, hb.tape, hb.output, by have := hb.size; rwa [Hd.size, Hd.size] at this, fun i hi => by
    have := hb.block i hi
    rwa [Hd.other _ (by omega), Hd.other _ (by omega)] at this⟩
  have hres : wr.heap[w.heap.size]? = v4.heap[w.heap.size]? := by
    have := r3.blk (k := w.heap.size) (by rw [Hd.size]; omega) (by omega)
    rwa [Hd.other _ (by omega), Hd.other _ (by omega)] at this
  exact ⟨hlt1, hlt2, (Hd.cells r2).2, hl.box, hres.trans M.res, M.low.trans hb2, hF _ _ M.has r3.hid, r1⟩
end

/-- elements that are lists themselves: right where no error was met -/
def RPrD (s : ByteArray) (st : St) (r : Value) (u : World) : Prop := (prN s st).e = 0 → RPr s st r u
def RLpD (s : ByteArray) (st : St) (r : Value) (u : World) : Prop := ∃ v, r = .agg #[.int .i64 (stI s st), v] ∧ ((lpN s st).e = 0 → RWd s (stN s st) v u)
theorem stab_prD {E : TypeId} (hE : 45 ≠ E) (s : ByteArray) : Stab E (RPrD s) := fun _ _ _ _ h k h0 => stab_pr hE s _ _ _ _ (h h0) k
theorem stab_lpD {E : TypeId} (hE : 3 ≠ E) (s : ByteArray) : Stab E (RLpD s) := by
  rintro st r u u2 ⟨v, e, h⟩ k
  exact ⟨v, e, fun h0 => stab_wd hE s _ _ _ _ (h h0) k⟩

/-- what is known of the four lists, one behind the other -/
def HasA (_ : World) : Prop := True
def HasB (s : ByteArray) (vd : Value) (u : World) : Prop := HasA u ∧ ((lsE s (stN s) (g2 s)).e = 0 → Lst 1 22 cl1 s (stN s) (RF s) (g2 s) vd u)
def HasC (s : ByteArray) (vd vp : Value) (u : World) : Prop := HasB s vd u ∧ ((lsE s (prN s) (g3 s)).e = 0 → Lst 1 40 cl1 s (prN s) (RPrD s) (g3 s) vp u)
def HasD (s : ByteArray) (vd vp vl : Value) (u : World) : Prop := HasC s vd vp u ∧ ((lsE s (lpN s) (g4 s)).e = 0 → Lst 2 43 clA s (lpN s) (RLpD s) (g4 s) vl u)
def HasE (s : ByteArray) (vd vp vl vi : Value) (u : World) : Prop := HasD s vd vp vl u ∧ ((lsE s (evN s) (g5 s)).e = 0 → Lst 3 55 clA s (evN s) (REv s) (g5 s) vi u)
theorem keeps_a : Keeps HasA := keeps_true
theorem keeps_b (s : ByteArray) (vd : Value) : Keeps (HasB s vd) := keeps_and keeps_a (by decide) (stab_rf _ s)
theorem keeps_c (s : ByteArray) (vd vp : Value) : Keeps (HasC s vd vp) := keeps_and (keeps_b s vd) (by decide) (stab_prD (by decide) s)
theorem keeps_d (s : ByteArray) (vd vp vl : Value) : Keeps (HasD s vd vp vl) := keeps_and (keeps_c s vd vp) (by decide) (stab_lpD (by decide) s)
theorem keeps_e (s : ByteArray) (vd vp vl vi : Value) : Keeps (HasE s vd vp vl vi) := keeps_and (keeps_d s vd vp vl) (by decide) (stab_ev _ s)
/-- where no error was met, it is the model -/
theorem hasE_mdl {s : ByteArray} {vd vp vl vi : Value} {u : World} (h0 : (g6 s).e = 0) (h : HasE s vd vp vl vi u) : RMd s ⟨0, 0⟩ (.agg #[.int .i64 (stI s ⟨0, 0⟩), .float .f64 (stF s (g1 s)), vd, vp, vl, vi]) u := by
  have h5 : (g5 s).e = 0 := up (stick_lsE s _) h0
  have h4 : (g4 s).e = 0 := up (stick_lsE s _) h5
  have h3 : (g3 s).e = 0 := up (stick_lsE s _) h4
  obtain ⟨⟨⟨⟨_, k1⟩, k2⟩, k3⟩, k4⟩ := h
  refine ⟨vd, vp, vl, vi, rfl, k1 h3, lst_strong (stick_pr s) (fun _ _ _ e k => k e) h4 (k2 h4), lst_strong (stick_lp s) (fun st r u e k => ?_) h5 (k3 h5), k4 h0⟩
  obtain ⟨v, e1, e2⟩ := k
  exact ⟨v, e1, e2 e⟩

end Go.Proofs.Ytemhbcjpgapjkaa
