/- The contracts of the program's up, at, count, settle, Arm, and of what only looks. -/
import Derived.Test.YtdmlmjmdpmmcgaaDkMem
import Derived.Test.YtdmlmjmdpmmcgaaTake
namespace Go.Proofs.Ytdmlmjmdpmmcgaa
open Go.RowKit Go.Deep Go.Maps
set_option linter.unusedVariables false
set_option linter.unusedSimpArgs false
set_option maxRecDepth 100000

/-- a sector is written -/
def putD (d : Dk) (i : Nat) (s : ByteArray) : Dk := { d with nw := upd d.nw i (byD s), is := upd d.is i true }
structure BdD (d : Dk) : Prop where
  n : d.n ≤ 4096
  calls : d.calls < 1000000
  arm : d.arm ≤ 9223372036854775807
variable {base P bS bm cS : Nat} {d : Dk} {u : World}
theorem pup_nil (u : World) : Calls Try.prog 47 #[.pointer none] u fun r u' => r = .returned (.int .i64 1) ∧ u' = u := by
  go_enter Try.func47, Try.ntmps47
  go_wp2_with fail
  go_ret
  exact ⟨rfl, rfl⟩
theorem pup_any (h : PDk base P bS bm cS d u) : Calls Try.prog 47 #[.pointer (some ⟨P, 0, none⟩)] u fun r u' => r = .returned (.int .i64 (if d.down then 13 else 0)) ∧ u' = u := by
  obtain ⟨c0, c1, c2, c3, c4, cf⟩ := h.cells
  go_enter Try.func47, Try.ntmps47
  cases hd : d.down with
  | true =>
    rw [hd] at c4
    go_wp2_with fail
    go_ret
    exact ⟨rfl, rfl⟩
  | false =>
    rw [hd] at c4
    go_wp2_with fail
    go_ret
    exact ⟨rfl, rfl⟩
theorem pat_any (h : PDk base P bS bm cS d u) (i : Int) : Calls Try.prog 53 #[.pointer (some ⟨P, 0, none⟩), .int .i64 i] u fun r u' => r = .returned (.int .i64 (readE d i)) ∧ u' = u := by
  obtain ⟨c0, c1, c2, c3, c4, cf⟩ := h.cells
  have H := Lib.hid (pup_any h)
  unfold readE
  go_enter Try.func53, Try.ntmps53
  cases hd : d.down with
  | true =>
    rw [hd] at H
    go_wp2_with fail
    refine (H.out).mono ?_
    rintro e w1 ⟨rfl, rfl⟩
    go_wp2_with fail
    go_ret
    exact ⟨rfl, rfl⟩
  | false =>
    rw [hd] at H
    go_wp2_with fail
    refine (H.out).mono ?_
    rintro e w1 ⟨rfl, rfl⟩
    by_cases h1 : i < 0
    · have d1 : decide (i < 0) = true := by simp [h1]
      go_wp2_with fail
      go_ret
      refine ⟨?_, rfl⟩
      show Ending.returned (Value.int .i64 3) = _
      simp [h1]
    · have d1 : decide (i < 0) = false := by simp; omega
      by_cases h2 : (d.n : Int) ≤ i
      · have d2 : decide ((d.n : Int) ≤ i) = true := by simp [h2]
        go_wp2_with fail
        go_ret
        refine ⟨?_, rfl⟩
        show Ending.returned (Value.int .i64 3) = _
        simp [h2]
      · have d2 : decide ((d.n : Int) ≤ i) = false := by simp; omega
        go_wp2_with fail
        go_ret
        refine ⟨?_, rfl⟩
        show Ending.returned (Value.int .i64 0) = _
        simp [h1, h2]
theorem PDk.rebox (h : PDk base P bS bm cS d u) {d2 : Dk} {u2 : World} (hP : ∀ q, q ≠ P → u2.heap[q]? = u.heap[q]?) (hb : u2.heap[P]? = some (.cells (pbx bS cS bm d2) 82 (0, 0)))
    (hn : d2.n = d.n) (hi : d2.is = d.is) (hs : d2.sf = d.sf) (hw : d2.nw = d.nw) : PDk base P bS bm cS d2 u2 := by
  obtain ⟨n1, n2, n3⟩ := h.ne
  have e : nowD d2 = nowD d := by unfold nowD; rw [hi, hs, hw]
  refine ⟨hb, ?_, ?_, h.lo⟩
  · rw [hn, e]; exact h.row.kept (hP _ n1.symm)
  · rw [hn, hi, hs]; exact h.mp.kept (hP _ n2.symm)
theorem set_else {w : World} {P o q : Nat} (v : Value) (h : q ≠ P) : (w.setCell ⟨P, o, none⟩ v).heap[q]? = w.heap[q]? := Below.heap_setCell _ _ _ _ h
set_option maxHeartbeats 1600000 in
theorem pcount_any (h : PDk base P bS bm cS d u) (hb : BdD d) (hdn : d.down = false) : Calls Try.prog 48 #[.pointer (some ⟨P, 0, none⟩)] u fun r u' => r = .returned (.int .i64 (countE d)) ∧ PDk base P bS bm cS (countD d) u' ∧ KpS (P3 P bS bm) u u' := by
  obtain ⟨n, sf, nw, is, arm, calls, down⟩ := d
  have hc : calls < 1000000 := hb.calls
  have ha : arm ≤ 9223372036854775807 := hb.arm
  obtain rfl : down = false := hdn
  have R := Lib.hid h
  have HB := Lib.hid h.box
  obtain ⟨c0, c1, c2, c3, c4, cf⟩ := h.cells
  have hf2 := cf 2
  have hf3 := cf 3
  have hf4 := cf 4
  clear h cf hb c0 c1
  dsimp only at c2 c3 c4
  go_enter Try.func48, Try.ntmps48
  rcases arm with _ | _ | arm
  · have B1 := Lib.hid (show (u.setCell ⟨P, 2, none⟩ (.int .i64 ((calls : Int) + 1))).heap[P]? = some (.cells (pbx bS cS bm ⟨n, sf, nw, is, 0, calls + 1, false⟩) 82 (0, 0)) from Joins.block_setCell (i := 2) HB.out _)
    have R1 := Lib.hid (R.out.rebox (fun q hq => set_else _ hq) B1.out rfl rfl rfl rfl)
    have K1 := Lib.hid (KpS.set (P3.a P bS bm) 2 (.int .i64 ((calls : Int) + 1)) u)
    have H := Lib.hid (pup_any R1.out)
    go_wp2_with fail
    refine (H.out).mono ?_
    rintro e w1 ⟨rfl, rfl⟩
    go_wp2_with fail
    go_ret
    exact ⟨rfl, R1.out, K1.out⟩
  · have B1 := Lib.hid (show (((u.setCell ⟨P, 2, none⟩ (.int .i64 ((calls : Int) + 1))).setCell ⟨P, 3, none⟩ (.int .i64 0)).setCell ⟨P, 4, none⟩ (.bool true)).heap[P]? = some (.cells (pbx bS cS bm ⟨n, sf, nw, is, 0, calls + 1, true⟩) 82 (0, 0)) from Joins.block_setCell (i := 4) (Joins.block_setCell (i := 3) (Joins.block_setCell (i := 2) HB.out _) _) _)
    have R1 := Lib.hid (R.out.rebox (fun q hq => ((set_else _ hq).trans (set_else _ hq)).trans (set_else _ hq)) B1.out rfl rfl rfl rfl)
    have K1 := Lib.hid (((KpS.set (P3.a P bS bm) 2 (.int .i64 ((calls : Int) + 1)) u).trans (KpS.set (P3.a P bS bm) 3 (.int .i64 0) _)).trans (KpS.set (P3.a P bS bm) 4 (.bool true) _))
    have H := Lib.hid (pup_any R1.out)
    go_wp2_with fail
    refine (H.out).mono ?_
    rintro e w1 ⟨rfl, rfl⟩
    go_wp2_with fail
    go_ret
    exact ⟨rfl, R1.out, K1.out⟩
  · have e1 : ((arm + 1 + 1 : Nat) : Int) - 1 = ((arm + 1 : Nat) : Int) := by omega
    have B1 := Lib.hid (show (((u.setCell ⟨P, 2, none⟩ (.int .i64 ((calls : Int) + 1))).setCell ⟨P, 3, none⟩ (.int .i64 ((arm + 1 : Nat) : Int))).setCell ⟨P, 4, none⟩ (.bool false)).heap[P]? = some (.cells (pbx bS cS bm ⟨n, sf, nw, is, arm + 1, calls + 1, false⟩) 82 (0, 0)) from Joins.block_setCell (i := 4) (Joins.block_setCell (i := 3) (Joins.block_setCell (i := 2) HB.out _) _) _)
    have R1 := Lib.hid (R.out.rebox (fun q hq => ((set_else _ hq).trans (set_else _ hq)).trans (set_else _ hq)) B1.out rfl rfl rfl rfl)
    have K1 := Lib.hid (((KpS.set (P3.a P bS bm) 2 (.int .i64 ((calls : Int) + 1)) u).trans (KpS.set (P3.a P bS bm) 3 (.int .i64 ((arm + 1 : Nat) : Int)) _)).trans (KpS.set (P3.a P bS bm) 4 (.bool false) _))
    have H := Lib.hid (pup_any R1.out)
    have d1 : decide ((0 : Int) < ((arm + 1 + 1 : Nat) : Int)) = true := by simp; omega
    have d2 : (((arm + 1 : Nat) : Int) == 0) = false := by simp; omega
    generalize hq1 : ((arm + 1 + 1 : Nat) : Int) = q1 at *
    generalize hq2 : ((arm + 1 : Nat) : Int) = q2 at *
    have hq3 : q1 ≤ 9223372036854775807 ∧ 0 < q1 := by omega
    go_wp2_with fail
    refine (H.out).mono ?_
    rintro e w1 ⟨rfl, rfl⟩
    go_wp2_with fail
    go_ret
    exact ⟨rfl, R1.out, K1.out⟩

end Go.Proofs.Ytdmlmjmdpmmcgaa
