/- Roots as values: from the program's to the document's and back, and the document's Same. -/
import Derived.Test.YtaaagmcdbmppmaaYRtR1
namespace Go.Proofs.Ytaaagmcdbmppmaa
open Go.RowKit Go.Deep
set_option linter.unusedVariables false
set_option linter.unusedSimpArgs false
set_option maxRecDepth 100000

theorem three_of {w : World} {C : Nat} {a b c : Value} {T : TypeId} {z : Nat × Nat} (h : w.heap[C]? = some (.cells #[a, b, c] T z)) : w.cell? ⟨C, 0, none⟩ = some a ∧ w.cell? ⟨C, 1, none⟩ = some b ∧ w.cell? ⟨C, 2, none⟩ = some c := by
  refine ⟨?_, ?_, ?_⟩ <;> (rw [Lib.cell_of_heap h]; rfl)
def rtV (ep lg : Int) (v : Value) : Value := .agg #[.int .i64 ep, .int .i64 lg, v]
set_option maxHeartbeats 1600000 in
theorem of13_any (ep lg : Int) (ao : Option Addr) (n c : Nat) (w : World) : Calls Try.prog 11 #[rtV ep lg (.slice ao n c)] w fun e w' => e = .returned (rtV ep lg (.slice ao n c)) ∧ Below w.heap.size w w' := by
  unfold rtV
  go_enter Try.func11, Try.ntmps11
  go_wp2_with fail
  obtain ⟨w1, hw1⟩ : ∃ w1, w1 = w.alloc (.cells #[.int .i64 ep, .int .i64 lg, .slice ao n c] 29) := ⟨_, rfl⟩
  have hz : w.heap.size + 1 = w1.heap.size := by rw [hw1]; simp
  rw [hz, ← hw1]
  obtain ⟨t0, t1, t2⟩ := three_of (heap_alloc_new w1 (.cells #[.int .i64 ep, .int .i64 lg, .slice ao n c] 24))
  have B := ((balloc w (.cells #[.int .i64 ep, .int .i64 lg, .slice ao n c] 29)))
  rw [← hw1] at B
  have B2 := bthen B (balloc w1 (.cells #[.int .i64 ep, .int .i64 lg, .slice ao n c] 24))
  generalize w1.alloc (.cells #[.int .i64 ep, .int .i64 lg, .slice ao n c] 24) = w2 at *
  exact bodyPost_ret (v := .agg #[.int .i64 ep, .int .i64 lg, .slice ao n c]) (by simp [results, Try.results11, go_sem, t0, t1, t2]) rfl ⟨rfl, B2⟩
set_option maxHeartbeats 1600000 in
theorem to13_any (ep lg : Int) (ao : Option Addr) (n c : Nat) (w : World) : Calls Try.prog 8 #[rtV ep lg (.slice ao n c)] w fun e w' => e = .returned (rtV ep lg (.slice ao n c)) ∧ Below w.heap.size w w' := by
  unfold rtV
  go_enter Try.func8, Try.ntmps8
  go_wp2_with fail
  obtain ⟨w1, hw1⟩ : ∃ w1, w1 = w.alloc (.cells #[.int .i64 ep, .int .i64 lg, .slice ao n c] 24) := ⟨_, rfl⟩
  have hz : w.heap.size + 1 = w1.heap.size := by rw [hw1]; simp
  rw [hz, ← hw1]
  obtain ⟨t0, t1, t2⟩ := three_of (heap_alloc_new w1 (.cells #[.int .i64 ep, .int .i64 lg, .slice ao n c] 29))
  have B := ((balloc w (.cells #[.int .i64 ep, .int .i64 lg, .slice ao n c] 24)))
  rw [← hw1] at B
  have B2 := bthen B (balloc w1 (.cells #[.int .i64 ep, .int .i64 lg, .slice ao n c] 29))
  generalize w1.alloc (.cells #[.int .i64 ep, .int .i64 lg, .slice ao n c] 29) = w2 at *
  exact bodyPost_ret (v := .agg #[.int .i64 ep, .int .i64 lg, .slice ao n c]) (by simp [results, Try.results8, go_sem, t0, t1, t2]) rfl ⟨rfl, B2⟩
set_option maxHeartbeats 1600000 in
theorem rsame13_eq (ep lg : Int) (l : List Int) (v1 v2 : Value) (w : World) (h1 : LstI l v1 w) (h2 : LstI l v2 w) : Calls Try.prog 10 #[rtV ep lg v1, rtV ep lg v2] w fun e w' => e = .returned (.bool true) ∧ Below w.heap.size w w' := by
  unfold rtV
  obtain ⟨a1, c1, rfl, _⟩ := id h1
  obtain ⟨a2, c2, rfl, _⟩ := id h2
  have H1 := Lib.hid h1
  have H2 := Lib.hid h2
  have HI := Lib.hid (fun (w2 : World) (k : Below w.heap.size w w2) => by
    have := ints5_any (fun i => l.getD i 0) (fun i => l.getD i 0) l.length l.length _ _ w2 (H1.out.below k) (H2.out.below k)
    rwa [sameW_refl] at this)
  clear h1 h2 H1 H2
  go_enter Try.func10, Try.ntmps10
  go_wp2_with fail
  refine (HI.out _ (bthen (balloc w _) (balloc _ _))).mono ?_
  rintro e w3 ⟨rfl, hb⟩
  have B3 := Lib.hid (bthen (bthen (balloc w _) (balloc _ _)) hb)
  clear hb
  go_wp2_with fail
  go_ret
  exact ⟨rfl, B3.out⟩
set_option maxHeartbeats 1600000 in
theorem rsame13_ep (e1 e2 lg1 lg2 : Int) (he : e1 ≠ e2) (a1 a2 : Option Addr) (n1 c1 n2 c2 : Nat) (w : World) : Calls Try.prog 10 #[rtV e1 lg1 (.slice a1 n1 c1), rtV e2 lg2 (.slice a2 n2 c2)] w fun e w' => e = .returned (.bool false) ∧ Below w.heap.size w w' := by
  unfold rtV
  have d : (e1 == e2) = false := by simp [he]
  clear he
  go_enter Try.func10, Try.ntmps10
  go_wp2_with fail
  go_ret
  exact ⟨rfl, bthen (balloc w _) (balloc _ _)⟩

end Go.Proofs.Ytaaagmcdbmppmaa
