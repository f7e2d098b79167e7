/- Reading a process's words, the document's way: the row lies in a struct in memory. -/
import Derived.Test.YtemhbcjpgapjkaaMioRefGet2
namespace Go.Proofs.Ytemhbcjpgapjkaa
open Go.RowKit
set_option linter.unusedVariables false
set_option maxRecDepth 100000

/-- a store into one cell of a block of type E turns no block of another type -/
theorem set_types {B o : Nat} {v : Value} {W : World} {cs : Array Value} {E : TypeId} {fr : Nat × Nat} (hB : W.heap[B]? = some (.cells cs E fr)) :
    ∀ (k : Nat) (c : Array Value) (t : TypeId) (f : Nat × Nat), t ≠ E → W.heap[k]? = some (Obj.cells c t f) → (W.setCell ⟨B, o, none⟩ v).heap[k]? = some (Obj.cells c t f) := by
  intro k c t f hne hc
  rw [Below.heap_setCell W ⟨B, o, none⟩ v k ?_]
  · exact hc
  · intro e
    have e : k = B := e
    subst e
    rw [hc] at hB
    simp only [Option.some.injEq, Obj.cells.injEq] at hB
    exact hne hB.2.1
/-- behind j words: the row's slice lies in cell 1 of block X -/
def LoopX (tb X : Nat) (s : ByteArray) (p : Int) (w : World) (S0 : St) (j : Nat) (wr : World) : Prop :=
  ∃ a n c, LoopD tb (stN s) (RI s) 1 3 cl1 w S0 j (.slice a n c) wr ∧ wr.heap[X]? = some (.cells #[.int .i64 p, .slice a n c] 43 (0, 0))
theorem loopX_step {tb X : Nat} {s : ByteArray} {p : Int} {w : World} (htb : tb < w.heap.size) (hX : w.heap.size ≤ X) {S0 : St} {j : Nat} {v : Value} {wr : World} {g : Nat → Value}
    (h1 : wr.ownsRow w.heap.size 3 1 v j (rowCells 1 (fun i k => cl1 (g i) k) j)) (h2 : ∀ i, i < j → RI s (it (stN s) i S0) (g i) (Hd tb wr)) (hp : PlaceAt tb (it (stN s) j S0) wr) (hk : Kp tb w wr)
    (hx : wr.heap[X]? = some (.cells #[.int .i64 p, v] 43 (0, 0)))
    {w2 : World} (hb2 : Below wr.heap.size wr w2) {v' : Value} {w4 : World}
    (hown : w4.ownsRow w.heap.size 3 1 v' (j + 1) (rowCells 1 (fun i k => cl1 (g i) k) j ++ [.int .i64 (stI s (it (stN s) j S0))])) (hg : (w2.alloc (.cells #[.int .i64 (stI s (it (stN s) j S0))] 3)).grownBy w4 v.ownBlock) :
    LoopX tb X s p w S0 (j + 1) ((w4.setCell ⟨X, 1, none⟩ v').setCells tb 0 [.int .i64 ((it (stN s) (j + 1) S0).pos : Int), .int .i64 (it (stN s) (j + 1) S0).e]) ∧ w4.heap[X]? = some (.cells #[.int .i64 p, v] 43 (0, 0)) := by
  obtain ⟨⟨g', o1, o2⟩, hlow⟩ := row_step (R := RI s) (cl := cl1) (cs := #[.int .i64 (stI s (it (stN s) j S0))]) (r := .int .i64 (stI s (it (stN s) j S0))) (by decide) htb (stab_ri _ s) h1 h2 hk rfl (Kp.of hb2) rfl (by intro k hk; have : k = 0 := (by omega); subst this; rfl) hown hg
  have own3 := (own_below h1 hb2).alloc (.cells #[.int .i64 (stI s (it (stN s) j S0))] 3)
  have x2 := (hb2.block X (lt_of_block hx)).trans hx
  have x4 : w4.heap[X]? = some (.cells #[.int .i64 p, v] 43 (0, 0)) := grown_keep own3 hg ((Below.heap_alloc _ _ _ (lt_of_block x2)).trans x2) (by decide)
  have p4 : PlaceAt tb (it (stN s) j S0) w4 := (hp.low hb2 (lt_of_block hp)).low hlow htb
  have p5 : PlaceAt tb (it (stN s) j S0) (w4.setCell ⟨X, 1, none⟩ v') := (Below.heap_setCell w4 ⟨X, 1, none⟩ v' tb (by show tb ≠ X; omega)).trans p4
  have k5 : Kp tb w (w4.setCell ⟨X, 1, none⟩ v') := ((hk.trans (Kp.of hb2)).low hlow).low ((Below.refl _ _).setCell (p := ⟨X, 1, none⟩) hX _)
  have o5 := own_types o1 (by decide) (set_types (o := 1) (v := v') x4)
  obtain ⟨a, n, c, rfl⟩ : ∃ a n c, v' = .slice a n c := by
    rcases o1.2 with ⟨rfl, _⟩ | ⟨b, cap, cur, rfl, _⟩
    · exact ⟨_, _, _, rfl⟩
    · exact ⟨_, _, _, rfl⟩
  refine ⟨⟨a, n, c, ⟨⟨g', own_kp o5 htb (kp_put _ _ _), o2⟩, put_two p5 _ _, k5.trans (kp_put _ _ _)⟩, ?_⟩, x4⟩
  rw [put_other (by omega)]
  exact Joins.block_setCell x4 _

end Go.Proofs.Ytemhbcjpgapjkaa
