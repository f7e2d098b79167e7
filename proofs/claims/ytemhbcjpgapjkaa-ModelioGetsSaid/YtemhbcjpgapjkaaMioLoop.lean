/- Reading a list: what its loop keeps. -/
import Derived.Test.YtemhbcjpgapjkaaMioReads
namespace Go.Proofs.Ytemhbcjpgapjkaa
open Go.RowKit
set_option linter.unusedVariables false
set_option maxRecDepth 100000

/-- what R says stays while blocks of type E alone are written -/
def Stab (E : TypeId) (R : St → Value → World → Prop) : Prop :=
  ∀ st r u u2, R st r u → (∀ (k : Nat) (c : Array Value) (t : TypeId) (f : Nat × Nat), t ≠ E → u.heap[k]? = some (Obj.cells c t f) → u2.heap[k]? = some (Obj.cells c t f)) → R st r u2
theorem Stab.below {E : TypeId} {R : St → Value → World → Prop} (h : Stab E R) {st : St} {r : Value} {u u2 : World} (hr : R st r u) (k : Below u.heap.size u u2) : R st r u2 :=
  h st r u u2 hr fun i c t f _ hc => by rw [k.block i (lt_of_block hc)]; exact hc
/-- the one cell of a value; the cells of a struct -/
def cl1 (v : Value) (_ : Nat) : Value := v
def clA (v : Value) (k : Nat) : Value := match v with
  | .agg a => a.getD k undef
  | _ => undef
/-- a list that was read: its elements, each as R says, one behind the other in a row -/
def Lst (C : Nat) (E : TypeId) (cl : Value → Nat → Value) (s : ByteArray) (nx : St → St) (R : St → Value → World → Prop) (st : St) (r : Value) (u : World) : Prop :=
  ∃ g : Nat → Value, Own C E (fun i k => cl (g i) k) (lsN s st) r u ∧ ∀ i, i < lsN s st → R (it nx i (lsS s st)) (g i) u
theorem own_types {E E2 : TypeId} {b C n : Nat} {v : Value} {xs : List Value} {u u2 : World} (h : u.ownsRow b E2 C v n xs) (hE : E2 ≠ E) (k : ∀ (k : Nat) (c : Array Value) (t : TypeId) (f : Nat × Nat), t ≠ E → u.heap[k]? = some (Obj.cells c t f) → u2.heap[k]? = some (Obj.cells c t f)) : u2.ownsRow b E2 C v n xs := by
  obtain ⟨h1, h2⟩ := h
  refine ⟨h1, ?_⟩
  rcases h2 with h2 | ⟨g, cap, cur, rfl, r2, r3, r4⟩
  · exact .inl h2
  · exact .inr ⟨g, cap, cur, rfl, r2, k _ _ _ _ hE r3, r4⟩
theorem stab_lst {E E2 : TypeId} {C : Nat} {cl : Value → Nat → Value} {s : ByteArray} {nx : St → St} {R : St → Value → World → Prop} (hE : E2 ≠ E) (h : Stab E R) : Stab E (Lst C E2 cl s nx R) := by
  rintro st r u u2 ⟨g, h1, h2⟩ k
  exact ⟨g, own_types h1 hE k, fun i hi => h _ _ _ _ (h2 i hi) k⟩
theorem stab_ri (E : TypeId) (s : ByteArray) : Stab E (RI s) := fun _ _ _ _ h _ => h
theorem stab_rf (E : TypeId) (s : ByteArray) : Stab E (RF s) := fun _ _ _ _ h _ => h
theorem Lst.form {C : Nat} {E : TypeId} {cl : Value → Nat → Value} {s : ByteArray} {nx : St → St} {R : St → Value → World → Prop} {st : St} {r : Value} {u : World} (h : Lst C E cl s nx R st r u) : ∃ a n c, r = .slice a n c := by
  obtain ⟨g, h1, _⟩ := h
  rcases h1.2 with ⟨rfl, _⟩ | ⟨b, cap, cur, rfl, _⟩
  · exact ⟨_, _, _, rfl⟩
  · exact ⟨_, _, _, rfl⟩

/-- behind j elements -/
structure LoopAt (tb : Nat) (s : ByteArray) (nx : St → St) (R : St → Value → World → Prop) (C : Nat) (E : TypeId) (cl : Value → Nat → Value) (w : World) (S0 : St) (j : Nat) (v : Value) (wr : World) : Prop where
  own : ∃ g : Nat → Value, wr.ownsRow w.heap.size E C v j (rowCells C (fun i k => cl (g i) k) j) ∧ ∀ i, i < j → R (it nx i S0) (g i) (Hd tb wr)
  text : TextAt tb s (it nx j S0) wr
  kp : Kp tb w wr
theorem loop_start {tb : Nat} {s : ByteArray} {nx : St → St} {R : St → Value → World → Prop} {C : Nat} {E : TypeId} {cl : Value → Nat → Value} {w : World} {S0 : St} {wr : World} (h : TextAt tb s S0 wr) (k : Kp tb w wr) :
    LoopAt tb s nx R C E cl w S0 0 (.slice none 0 0) wr := by
  refine ⟨⟨fun _ => undef, ?_, fun i hi => absurd hi (Nat.not_lt_zero i)⟩, h, k⟩
  have e : rowCells C (fun i k => cl undef k) 0 = [] := by simp [rowCells]
  rw [e]
  exact World.ownsRow_nil _ _ _ _
theorem loop_step {tb : Nat} {s : ByteArray} {nx : St → St} {R : St → Value → World → Prop} {C : Nat} (hC : 0 < C) {E : TypeId} {cl : Value → Nat → Value} {w : World} (htb : tb < w.heap.size) {S0 : St} {j : Nat} {v : Value} {wr : World} {g : Nat → Value} (hS : Stab E R)
    (h1 : wr.ownsRow w.heap.size E C v j (rowCells C (fun i k => cl (g i) k) j)) (h2 : ∀ i, i < j → R (it nx i S0) (g i) (Hd tb wr)) (hk : Kp tb w wr)
    {w2 : World} {r : Value} (hr : R (it nx j S0) r (Hd tb w2)) (ht2 : TextAt tb s (nx (it nx j S0)) w2) (hk2 : Kp tb wr w2)
    {cs : Array Value} (hcs : cs.size = C) (hcl : ∀ k, k < C → cs.toList[k]? = some (cl r k)) {v' : Value} {w4 : World}
    (hown : w4.ownsRow w.heap.size E C v' (j + 1) (rowCells C (fun i k => cl (g i) k) j ++ cs.toList)) (hg : (w2.alloc (.cells cs E)).grownBy w4 v.ownBlock) :
    LoopAt tb s nx R C E cl w S0 (j + 1) v' w4 := by
  have own3 := (own_kp h1 htb hk2).alloc (.cells cs E)
  have hsz : w.heap.size ≤ w2.heap.size := Nat.le_trans hk.size hk2.size
  have same : ∀ (k : Nat) (c : Array Value) (t : TypeId) (f : Nat × Nat), t ≠ E → (Hd tb w2).heap[k]? = some (Obj.cells c t f) → (Hd tb w4).heap[k]? = some (Obj.cells c t f) := by
    intro k c t f hne hc
    obtain ⟨e1, e2⟩ := Hd.cells hc
    have hlt := lt_of_block e2
    have e3 : (w2.alloc (.cells cs E)).heap[k]? = some (.cells c t f) := by rw [Below.heap_alloc _ _ _ hlt]; exact e2
    rw [Hd.other _ e1, hg.block k (by simp; omega) ?_]
    · exact e3
    · intro he
      rcases own3.2 with ⟨rfl, _⟩ | ⟨b, cap, cur, rfl, _, r3, _⟩
      · simp [Value.ownBlock] at he
      · simp only [Value.ownBlock, Option.some.injEq] at he
        subst he
        rw [e3] at r3
        simp only [Option.some.injEq, Obj.cells.injEq] at r3
        exact hne r3.2.1
  have hlow : Below w.heap.size w2 w4 := by
    have b1 : Below w.heap.size w2 (w2.alloc (.cells cs E)) := (balloc w2 _).mono hsz
    refine b1.trans ⟨hg.os, hg.tape, hg.output, hg.size, fun k hk => hg.block k (by simp; omega) fun he => ?_⟩
    have := own_lt own3 he.symm
    omega
  refine ⟨⟨fun i => if i = j then r else g i, ?_, fun i hi => ?_⟩, ht2.low hlow htb, (hk.trans hk2).low hlow⟩
  · have e : rowCells C (fun i k => cl (g i) k) j = rowCells C (fun i k => cl (if i = j then r else g i) k) j := by
      unfold rowCells
      refine List.map_congr_left fun k hk => ?_
      rw [List.mem_range] at hk
      have : k / C ≠ j := by have := (Nat.div_lt_iff_lt_mul hC).2 hk; omega
      simp only [if_neg this]
    rw [e, rowCells_succ hC (fun i k => cl (if i = j then r else g i) k) j cs.toList (by simpa using hcs) fun k hk => by rw [hcl k hk]; simp] at hown
    exact hown
  · by_cases e : i = j
    · subst e
      simp only [if_pos]
      exact hS _ _ _ _ hr same
    · simp only [if_neg e]
      exact hS _ _ _ _ (hS.below (h2 i (by omega)) hk2.hid) same
theorem loop_end {tb : Nat} {s : ByteArray} {nx : St → St} {R : St → Value → World → Prop} {C : Nat} {E : TypeId} {cl : Value → Nat → Value} {w : World} (htb : tb < w.heap.size) {st : St} {v : Value} {wr : World} (h : LoopAt tb s nx R C E cl w (lsS s st) (lsN s st) v wr) :
    Lst C E cl s nx R st v (Hd tb wr) ∧ TextAt tb s (lsE s nx st) wr ∧ Kp tb w wr := by
  obtain ⟨g, h1, h2⟩ := h.own
  exact ⟨⟨g, own_low (own_hide h1 htb), h2⟩, h.text, h.kp⟩
theorem news_cells (w2 : World) (cs : Array Value) (E : TypeId) : ∀ j u, cs.toList[j]? = some u → (w2.alloc (.cells cs E)).cell? ((⟨w2.heap.size, 0, none⟩ : Addr).add j) = some u := by
  intro j u h
  rw [add_plain, Nat.zero_add, Lib.cell_of_heap (heap_alloc_new w2 _), ← Array.getElem?_toList]
  exact h
/-- a count that may not be -/
theorem text_bad {tb : Nat} {s : ByteArray} {st : St} {w : World} (h : TextAt tb s st w) : TextAt tb s ⟨0, 6⟩ (w.setCell ⟨tb, 2, none⟩ (.int .i64 6)) := by
  obtain ⟨h1, _, x, _, h4⟩ := h
  exact ⟨h1, fun h => absurd h (by decide), x, fun h => absurd h (by decide), Joins.block_setCell h4 _⟩
theorem ls_bad {s : ByteArray} {st : St} (h : ¬ (0 ≤ stI s st ∧ stI s st ≤ 48)) : lsN s st = 0 ∧ ∀ nx, lsE s nx st = ⟨0, 6⟩ := by
  have e1 : lsN s st = 0 := by unfold lsN; rw [if_neg h]
  exact ⟨e1, fun nx => by unfold lsE; rw [e1]; unfold lsS; rw [if_neg h]; rfl⟩
theorem lst_bad {C : Nat} {E : TypeId} {cl : Value → Nat → Value} {s : ByteArray} {nx : St → St} {R : St → Value → World → Prop} {st : St} (h : lsN s st = 0) (u : World) : Lst C E cl s nx R st (.slice none 0 0) u := by
  refine ⟨fun _ => undef, by rw [h]; exact Own.nil _ _ _ _, fun i hi => ?_⟩
  rw [h] at hi
  exact absurd hi (Nat.not_lt_zero i)

end Go.Proofs.Ytemhbcjpgapjkaa
