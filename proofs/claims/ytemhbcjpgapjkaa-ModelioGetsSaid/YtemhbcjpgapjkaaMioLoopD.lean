/- Reading a list, the document's way: what its loop keeps. -/
import Derived.Test.YtemhbcjpgapjkaaMioList
import Derived.Test.YtemhbcjpgapjkaaMioRefGet1
namespace Go.Proofs.Ytemhbcjpgapjkaa
open Go.RowKit
set_option linter.unusedVariables false
set_option maxRecDepth 100000

/-- the document's place, in a block -/
def PlaceAt (tb : Nat) (st : St) (w : World) : Prop := w.heap[tb]? = some (.cells #[.int .i64 (st.pos : Int), .int .i64 st.e] 65 (0, 0))
theorem PlaceAt.low {tb B : Nat} {st : St} {w w2 : World} (h : PlaceAt tb st w) (k : Below B w w2) (hb : tb < B) : PlaceAt tb st w2 := by
  unfold PlaceAt
  rw [k.block tb hb]; exact h
theorem kp_put {tb : Nat} : ∀ (l : List Value) (o : Nat) (W : World), Kp tb W (W.setCells tb o l)
  | [], _, W => Kp.refl _ _
  | v :: l, o, W => (Kp.set tb o v W).trans (kp_put l (o + 1) _)

/-- one element more, and what it took -/
theorem row_step {tb : Nat} {nx : St → St} {R : St → Value → World → Prop} {C : Nat} (hC : 0 < C) {E : TypeId} {cl : Value → Nat → Value} {w : World} (htb : tb < w.heap.size) {S0 : St} {j : Nat} {v : Value} {wr : World} {g : Nat → Value} (hS : Stab E R)
    (h1 : wr.ownsRow w.heap.size E C v j (rowCells C (fun i k => cl (g i) k) j)) (h2 : ∀ i, i < j → R (it nx i S0) (g i) (Hd tb wr)) (hk : Kp tb w wr)
    {w2 : World} {r : Value} (hr : R (it nx j S0) r (Hd tb w2)) (hk2 : Kp tb wr w2)
    {cs : Array Value} (hcs : cs.size = C) (hcl : ∀ k, k < C → cs.toList[k]? = some (cl r k)) {v' : Value} {w4 : World}
    (hown : w4.ownsRow w.heap.size E C v' (j + 1) (rowCells C (fun i k => cl (g i) k) j ++ cs.toList)) (hg : (w2.alloc (.cells cs E)).grownBy w4 v.ownBlock) :
    (∃ g' : Nat → Value, w4.ownsRow w.heap.size E C v' (j + 1) (rowCells C (fun i k => cl (g' i) k) (j + 1)) ∧ ∀ i, i < j + 1 → R (it nx i S0) (g' i) (Hd tb w4)) ∧ Below w.heap.size w2 w4 := by
  have own3 := (own_kp h1 htb hk2).alloc (.cells cs E)
  have hsz : w.heap.size ≤ w2.heap.size := Nat.le_trans hk.size hk2.size
  have same : ∀ (k : Nat) (c : Array Value) (t : TypeId) (f : Nat × Nat), t ≠ E → (Hd tb w2).heap[k]? = some (Obj.cells c t f) → (Hd tb w4).heap[k]? = some (Obj.cells c t f) := by
    intro k c t f hne hc
    obtain ⟨e1, e2⟩ := Hd.cells hc
    have hlt := lt_of_block e2
    have e3 : (w2.alloc (.cells cs E)).heap[k]? = some (.cells c t f) := by rw [Below.heap_alloc _ _ _ hlt]; exact e2
    rw [Hd.other _ e1, hg.block k (by simp; omega) ?_]
    · exact e3
    · intro he
      rcases own3.2 with ⟨rfl, _⟩ | ⟨b, cap, cur, rfl, _, r3, _⟩
      · simp [Value.ownBlock] at he
      · simp only [Value.ownBlock, Option.some.injEq] at he
        subst he
        rw [e3] at r3
        simp only [Option.some.injEq, Obj.cells.injEq] at r3
        exact hne r3.2.1
  have hlow : Below w.heap.size w2 w4 := by
    have b1 : Below w.heap.size w2 (w2.alloc (.cells cs E)) := (balloc w2 _).mono hsz
    refine b1.trans ⟨hg.os, hg.tape, hg.output, hg.size, fun k hk => hg.block k (by simp; omega) fun he => ?_⟩
    have := own_lt own3 he.symm
    omega
  refine ⟨⟨fun i => if i = j then r else g i, ?_, fun i hi => ?_⟩, hlow⟩
  · have e : rowCells C (fun i k => cl (g i) k) j = rowCells C (fun i k => cl (if i = j then r else g i) k) j := by
      unfold rowCells
      refine List.map_congr_left fun k hk => ?_
      rw [List.mem_range] at hk
      have : k / C ≠ j := by have := (Nat.div_lt_iff_lt_mul hC).2 hk; omega
      simp only [if_neg this]
    rw [e, rowCells_succ hC (fun i k => cl (if i = j then r else g i) k) j cs.toList (by simpa using hcs) fun k hk => by rw [hcl k hk]; simp] at hown
    exact hown
  · by_cases e : i = j
    · subst e
      simp only [if_pos]
      exact hS _ _ _ _ hr same
    · simp only [if_neg e]
      exact hS _ _ _ _ (hS.below (h2 i (by omega)) hk2.hid) same

/-- behind j elements; the place lies in block tb -/
structure LoopD (tb : Nat) (nx : St → St) (R : St → Value → World → Prop) (C : Nat) (E : TypeId) (cl : Value → Nat → Value) (w : World) (S0 : St) (j : Nat) (v : Value) (wr : World) : Prop where
  own : ∃ g : Nat → Value, wr.ownsRow w.heap.size E C v j (rowCells C (fun i k => cl (g i) k) j) ∧ ∀ i, i < j → R (it nx i S0) (g i) (Hd tb wr)
  place : PlaceAt tb (it nx j S0) wr
  kp : Kp tb w wr
theorem loopD_start {tb : Nat} {nx : St → St} {R : St → Value → World → Prop} {C : Nat} {E : TypeId} {cl : Value → Nat → Value} {w : World} {S0 : St} (h : PlaceAt tb S0 w) :
    LoopD tb nx R C E cl w S0 0 (.slice none 0 0) w := by
  refine ⟨⟨fun _ => undef, ?_, fun i hi => absurd hi (Nat.not_lt_zero i)⟩, h, Kp.refl _ _⟩
  have e : rowCells C (fun i k => cl undef k) 0 = [] := by simp [rowCells]
  rw [e]
  exact World.ownsRow_nil _ _ _ _
theorem loopD_step {tb : Nat} {nx : St → St} {R : St → Value → World → Prop} {C : Nat} (hC : 0 < C) {E : TypeId} {cl : Value → Nat → Value} {w : World} (htb : tb < w.heap.size) {S0 : St} {j : Nat} {v : Value} {wr : World} {g : Nat → Value} (hS : Stab E R)
    (h1 : wr.ownsRow w.heap.size E C v j (rowCells C (fun i k => cl (g i) k) j)) (h2 : ∀ i, i < j → R (it nx i S0) (g i) (Hd tb wr)) (hp : PlaceAt tb (it nx j S0) wr) (hk : Kp tb w wr)
    {w2 : World} {r : Value} (hr : R (it nx j S0) r (Hd tb w2)) (hb2 : Below wr.heap.size wr w2)
    {cs : Array Value} (hcs : cs.size = C) (hcl : ∀ k, k < C → cs.toList[k]? = some (cl r k)) {v' : Value} {w4 : World}
    (hown : w4.ownsRow w.heap.size E C v' (j + 1) (rowCells C (fun i k => cl (g i) k) j ++ cs.toList)) (hg : (w2.alloc (.cells cs E)).grownBy w4 v.ownBlock) :
    LoopD tb nx R C E cl w S0 (j + 1) v' (w4.setCells tb 0 [.int .i64 ((it nx (j + 1) S0).pos : Int), .int .i64 (it nx (j + 1) S0).e]) := by
  obtain ⟨⟨g', o1, o2⟩, hlow⟩ := row_step hC htb hS h1 h2 hk hr (Kp.of hb2) hcs hcl hown hg
  have p4 : PlaceAt tb (it nx j S0) w4 := (hp.low hb2 (lt_of_block hp)).low hlow htb
  refine ⟨⟨g', own_kp o1 htb (kp_put _ _ _), fun i hi => hS.below (o2 i hi) (kp_put _ _ _).hid⟩, put_two p4 _ _, ((hk.trans (Kp.of hb2)).low hlow).trans (kp_put _ _ _)⟩
/-- all were read, or an error stopped it -/
theorem loopD_end {tb : Nat} {s : ByteArray} {nx : St → St} (hs : Stick nx) {R : St → Value → World → Prop} {C : Nat} {E : TypeId} {cl : Value → Nat → Value} {w : World} (htb : tb < w.heap.size) {st : St} {j : Nat} {v : Value} {wr : World} (h : LoopD tb nx R C E cl w (lsS s st) j v wr)
    (hj : j ≤ lsN s st) (hend : j = lsN s st ∨ (it nx j (lsS s st)).e ≠ 0) :
    ((lsE s nx st).e = 0 → Lst C E cl s nx R st v (Hd tb wr)) ∧ PlaceAt tb (lsE s nx st) wr ∧ Kp tb w wr := by
  obtain ⟨g, h1, h2⟩ := h.own
  have e : lsE s nx st = it nx j (lsS s st) := by
    unfold lsE
    rcases hend with rfl | he
    · rfl
    · exact it_stop hs hj he
  refine ⟨fun h0 => ?_, by rw [e]; exact h.place, h.kp⟩
  have hjn : j = lsN s st := by
    rcases hend with hx | he
    · exact hx
    · rw [e] at h0; exact absurd h0 he
  subst hjn
  exact ⟨g, own_low (own_hide h1 htb), h2⟩

end Go.Proofs.Ytemhbcjpgapjkaa
