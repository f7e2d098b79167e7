/- A page in a block of its own. -/
import Derived.Test.YtdmlmjmdpmmcgaaPgP1
namespace Go.Proofs.Ytdmlmjmdpmmcgaa
open Go.RowKit Go.Deep
set_option linter.unusedVariables false
set_option linter.unusedSimpArgs false
set_option maxRecDepth 100000

theorem four_cells {W : World} {B : Nat} {c0 c1 c2 c3 : Value} {T : TypeId} (h : W.heap[B]? = some (.cells #[c0, c1, c2, c3] T (0, 0))) :
    W.cell? ⟨B, 0, none⟩ = some c0 ∧ W.cell? ⟨B, 1, none⟩ = some c1 ∧ W.cell? ⟨B, 2, none⟩ = some c2 ∧ W.cell? ⟨B, 3, none⟩ = some c3 := by
  refine ⟨?_, ?_, ?_, ?_⟩ <;> (rw [Lib.cell_of_heap h]; rfl)
theorem put_four {W : World} {B : Nat} {c0 c1 c2 c3 : Value} {T : TypeId} (h : W.heap[B]? = some (.cells #[c0, c1, c2, c3] T (0, 0))) (u0 u1 u2 u3 : Value) :
    (W.setCells B 0 [u0, u1, u2, u3]).heap[B]? = some (.cells #[u0, u1, u2, u3] T (0, 0)) :=
  Joins.block_setCell (Joins.block_setCell (Joins.block_setCell (Joins.block_setCell h u0) u1) u2) u3
theorem put_below {base B : Nat} (hB : base ≤ B) : ∀ (l : List Value) (o : Nat) (W : World), Below base W (W.setCells B o l)
  | [], _, W => Below.refl _ _
  | v :: l, o, W => ((Below.refl base W).setCell (p := ⟨B, o, none⟩) hB v).trans (put_below hB l (o + 1) _)
theorem heap_lt {u : World} {B : Nat} {o : Obj} (h : u.heap[B]? = some o) : B < u.heap.size := (Array.getElem?_eq_some_iff.1 h).1
theorem heap_stays {u u2 : World} {B : Nat} {o : Obj} (h : u.heap[B]? = some o) (k : Below u.heap.size u u2) : u2.heap[B]? = some o := (k.block _ (heap_lt h)).trans h
def getRet (s : ByteArray) : Ending := .returned (.tuple #[.agg (pgV (getP s)).toArray, .int .i64 (getE s)])
theorem getRet_bad {s : ByteArray} {e : Int} (h : getE s = e) (hne : e ≠ 0) : getRet s = .returned (.tuple #[.agg #[.int .i64 0, .int .i64 0, .int .i64 0, .string ⟨#[]⟩], .int .i64 e]) := by
  unfold getRet getP
  rw [h, if_neg hne]
  rfl
theorem getRet_ok {s : ByteArray} (h : getE s = 0) : getRet s = .returned (.tuple #[.agg (pgV (tellP s)).toArray, .int .i64 0]) := by
  unfold getRet getP
  rw [h, if_pos rfl]

def readRet (d : Dk) (id : Int) : Ending := .returned (.tuple #[.agg (pgV (readPP d id)).toArray, .int .i64 (readPE d id)])
theorem readRet_bad {d : Dk} {id e : Int} (h : readPE d id = e) (hne : e ≠ 0) : readRet d id = .returned (.tuple #[.agg #[.int .i64 0, .int .i64 0, .int .i64 0, .string ⟨#[]⟩], .int .i64 e]) := by
  unfold readRet readPP
  rw [h, if_neg hne]
  rfl
theorem readRet_ok {d : Dk} {id : Int} (h : readPE d id = 0) : readRet d id = .returned (.tuple #[.agg (pgV (getP (pageS d id.toNat))).toArray, .int .i64 0]) := by
  unfold readRet readPP
  rw [h, if_pos rfl]

end Go.Proofs.Ytdmlmjmdpmmcgaa
