/- The contracts of the document's Now, count, Read, Loose. -/
import Derived.Test.YtbohcfflkcaijaaDkP1
namespace Go.Proofs.Ytbohcfflkcaijaa
open Go.RowKit Go.Deep Go.Maps
set_option linter.unusedVariables false
set_option linter.unusedSimpArgs false
set_option maxRecDepth 100000

variable {base Q b1 b2 b3 c1 c2 c3 : Nat} {d : Dk} {u : World}
theorem rnow_any (h : RDk base Q b1 b2 b3 c1 c2 c3 d u) (i : Nat) (hi : i < d.n) (hn : d.n ≤ 4096) : Calls Try.prog 21 #[.pointer (some ⟨Q, 0, none⟩), .int .i64 (i : Int)] u fun r u' => r = .returned (.string (sec (nowD d i))) ∧ u' = u := by
  obtain ⟨k0, k1, k2, k3, k4, k5, kf⟩ := h.cells
  have hlt : (i : Int) < (d.n : Int) := by omega
  have hi0 : (0 : Int) ≤ (i : Int) := by omega
  have e0 := h.r3.c i hi 0 (by omega)
  have e1 := h.r1.c i hi 0 (by omega)
  obtain ⟨t, r, ht⟩ := h.r2
  have e2 := r.c i hi 0 (by omega)
  have E : nowD d i = if d.is i then d.nw i else d.sf i := rfl
  unfold gO at e0
  unfold gT at e1 e2
  simp only [Nat.mul_one, Nat.add_zero] at e0 e1 e2
  clear r kf
  go_enter Try.func21, Try.ntmps21
  cases hs : d.is i with
  | true =>
    rw [ht i hi hs] at e2
    rw [hs] at e0
    rw [hs, if_pos rfl] at E
    clear h ht
    go_wp2_with fail
    go_ret
    rw [E]
    exact ⟨rfl, rfl⟩
  | false =>
    rw [hs] at e0
    rw [hs, if_neg (by decide)] at E
    clear h ht
    go_wp2_with fail
    go_ret
    rw [E]
    exact ⟨rfl, rfl⟩
theorem rread_any (h : RDk base Q b1 b2 b3 c1 c2 c3 d u) (hn : d.n ≤ 4096) (i : Int) : Calls Try.prog 12 #[.pointer (some ⟨Q, 0, none⟩), .int .i64 i] u fun r u' => r = .returned (.tuple #[.string (readS d i), .int .i64 (readE d i)]) ∧ u' = u := by
  have R := Lib.hid h
  obtain ⟨k0, k1, k2, k3, k4, k5, kf⟩ := h.cells
  unfold readE readS
  clear h kf
  go_enter Try.func12, Try.ntmps12
  cases hd : d.down with
  | true =>
    rw [hd] at k5
    go_wp2_with fail
    go_ret2
    exact ⟨rfl, rfl⟩
  | false =>
    rw [hd] at k5
    by_cases h1 : i < 0
    · have d1 : decide (i < 0) = true := by simp [h1]
      go_wp2_with fail
      go_ret2
      refine ⟨?_, rfl⟩
      first
        | rfl
        | (simp only [if_pos (show i < 0 ∨ (d.n : Int) ≤ i from .inl h1)]; rfl)
    · have d1 : decide (i < 0) = false := by simp; omega
      by_cases h2 : (d.n : Int) ≤ i
      · have d2 : decide ((d.n : Int) ≤ i) = true := by simp [h2]
        go_wp2_with fail
        go_ret2
        refine ⟨?_, rfl⟩
        first
          | rfl
          | (simp only [if_pos (show i < 0 ∨ (d.n : Int) ≤ i from .inr h2)]; rfl)
      · have d2 : decide ((d.n : Int) ≤ i) = false := by simp; omega
        obtain ⟨k, rfl⟩ : ∃ k : Nat, i = (k : Int) := ⟨i.toNat, by omega⟩
        have H := Lib.hid (rnow_any R.out k (by omega) hn)
        go_wp2_with fail
        refine (H.out).mono ?_
        rintro e w1 ⟨rfl, rfl⟩
        go_wp2_with fail
        go_ret2
        refine ⟨?_, rfl⟩
        first
          | (simp only [if_neg (show ¬ ((k : Int) < 0 ∨ (d.n : Int) ≤ (k : Int)) by omega), Int.toNat_natCast]; rfl)
theorem RDk.rebox (h : RDk base Q b1 b2 b3 c1 c2 c3 d u) {d2 : Dk} {u2 : World} (hP : ∀ q, q ≠ Q → u2.heap[q]? = u.heap[q]?) (hb : u2.heap[Q]? = some (.cells (rbx b1 b2 b3 c1 c2 c3 d2) 34 (0, 0)))
    (hn : d2.n = d.n) (hi : d2.is = d.is) (hs : d2.sf = d.sf) (hw : d2.nw = d.nw) : RDk base Q b1 b2 b3 c1 c2 c3 d2 u2 := by
  obtain ⟨n1, n2, n3, _⟩ := h.nes
  obtain ⟨t, r, ht⟩ := h.r2
  refine ⟨hb, ?_, ⟨t, ?_, ?_⟩, ?_, h.ne, h.lo⟩
  · rw [hn, hs]; exact h.r1.kept (hP _ n1.symm)
  · rw [hn]; exact r.kept (hP _ n2.symm)
  · rw [hn, hi, hw]; exact ht
  · rw [hn, hi]; exact h.r3.kept (hP _ n3.symm)
set_option maxHeartbeats 1600000 in
theorem rcount_any (h : RDk base Q b1 b2 b3 c1 c2 c3 d u) (hb : BdD d) (hdn : d.down = false) : Calls Try.prog 34 #[.pointer (some ⟨Q, 0, none⟩)] u fun r u' => r = .returned (.int .i64 (countE d)) ∧ RDk base Q b1 b2 b3 c1 c2 c3 (countD d) u' ∧ KpS (R4 Q b1 b2 b3) u u' := by
  obtain ⟨n, sf, nw, is, arm, calls, down⟩ := d
  have hc : calls < 1000000 := hb.calls
  have ha : arm ≤ 9223372036854775807 := hb.arm
  obtain rfl : down = false := hdn
  have R := Lib.hid h
  have HB := Lib.hid h.box
  obtain ⟨k0, k1, k2, k3, k4, k5, kf⟩ := h.cells
  have hf3 := kf 3
  have hf4 := kf 4
  have hf5 := kf 5
  clear h kf hb k0 k1 k2
  dsimp only at k3 k4 k5
  go_enter Try.func34, Try.ntmps34
  rcases arm with _ | _ | arm
  · have B1 := Lib.hid (show (u.setCell ⟨Q, 4, none⟩ (.int .i64 ((calls : Int) + 1))).heap[Q]? = some (.cells (rbx b1 b2 b3 c1 c2 c3 ⟨n, sf, nw, is, 0, calls + 1, false⟩) 34 (0, 0)) from Joins.block_setCell (i := 4) HB.out _)
    have R1 := Lib.hid (R.out.rebox (fun q hq => set_else _ hq) B1.out rfl rfl rfl rfl)
    have K1 := Lib.hid (KpS.set (R4.a Q b1 b2 b3) 4 (.int .i64 ((calls : Int) + 1)) u)
    go_wp2_with fail
    go_ret
    exact ⟨rfl, R1.out, K1.out⟩
  · have B1 := Lib.hid (show (((u.setCell ⟨Q, 4, none⟩ (.int .i64 ((calls : Int) + 1))).setCell ⟨Q, 5, none⟩ (.bool true)).setCell ⟨Q, 3, none⟩ (.int .i64 0)).heap[Q]? = some (.cells (rbx b1 b2 b3 c1 c2 c3 ⟨n, sf, nw, is, 0, calls + 1, true⟩) 34 (0, 0)) from Joins.block_setCell (i := 3) (Joins.block_setCell (i := 5) (Joins.block_setCell (i := 4) HB.out _) _) _)
    have R1 := Lib.hid (R.out.rebox (fun q hq => ((set_else _ hq).trans (set_else _ hq)).trans (set_else _ hq)) B1.out rfl rfl rfl rfl)
    have K1 := Lib.hid (((KpS.set (R4.a Q b1 b2 b3) 4 (.int .i64 ((calls : Int) + 1)) u).trans (KpS.set (R4.a Q b1 b2 b3) 5 (.bool true) _)).trans (KpS.set (R4.a Q b1 b2 b3) 3 (.int .i64 0) _))
    go_wp2_with fail
    go_ret
    exact ⟨rfl, R1.out, K1.out⟩
  · have e1 : ((arm + 1 + 1 : Nat) : Int) - 1 = ((arm + 1 : Nat) : Int) := by omega
    have B1 := Lib.hid (show ((u.setCell ⟨Q, 4, none⟩ (.int .i64 ((calls : Int) + 1))).setCell ⟨Q, 3, none⟩ (.int .i64 ((arm + 1 : Nat) : Int))).heap[Q]? = some (.cells (rbx b1 b2 b3 c1 c2 c3 ⟨n, sf, nw, is, arm + 1, calls + 1, false⟩) 34 (0, 0)) from Joins.block_setCell (i := 3) (Joins.block_setCell (i := 4) HB.out _) _)
    have R1 := Lib.hid (R.out.rebox (fun q hq => (set_else _ hq).trans (set_else _ hq)) B1.out rfl rfl rfl rfl)
    have K1 := Lib.hid ((KpS.set (R4.a Q b1 b2 b3) 4 (.int .i64 ((calls : Int) + 1)) u).trans (KpS.set (R4.a Q b1 b2 b3) 3 (.int .i64 ((arm + 1 : Nat) : Int)) _))
    have d1 : decide ((1 : Int) < ((arm + 1 + 1 : Nat) : Int)) = true := by simp; omega
    have d2 : (((arm + 1 + 1 : Nat) : Int) == 1) = false := by simp; omega
    generalize hq1 : ((arm + 1 + 1 : Nat) : Int) = q1 at *
    generalize hq2 : ((arm + 1 : Nat) : Int) = q2 at *
    have hq3 : q1 ≤ 9223372036854775807 ∧ 0 < q1 := by omega
    go_wp2_with fail
    go_ret
    exact ⟨rfl, R1.out, K1.out⟩
theorem rloose_any (h : RDk base Q b1 b2 b3 c1 c2 c3 d u) (hn : d.n ≤ 4096) : Calls Try.prog 16 #[.pointer (some ⟨Q, 0, none⟩)] u fun r u' => r = .returned (.int .i64 (looseN d.is d.n : Int)) ∧ Below u.heap.size u u' := by
  have R := Lib.hid h
  obtain ⟨k0, k1, k2, k3, k4, k5, kf⟩ := h.cells
  clear h kf k0 k1 k3 k4 k5
  obtain ⟨n, hq⟩ : ∃ n, n = d.n := ⟨_, rfl⟩
  rw [← hq] at hn k2 ⊢
  have HQ := Lib.hid hq
  clear hq
  go_enter Try.func16, Try.ntmps16
  go_wp2_with fail
  go_loopw [3, 4] (fun c i wr => ∃ j : Nat, j ≤ n ∧ i = .int .i64 j ∧ c = .int .i64 (looseN d.is j : Int) ∧ wr = u) (fun _ i _ => n - (intOf i).toNat)
  case atStart => exact ⟨0, Nat.zero_le _, rfl, rfl, rfl⟩
  case round =>
    obtain ⟨j, hj, rfl, rfl, rfl⟩ := hrel
    have hle := looseN_le d.is j
    by_cases hlt : j < n
    · have hj2 : (j : Int) < (n : Int) := by omega
      have hj0 : (0 : Int) ≤ (j : Int) := by omega
      have d1 : decide ((j : Int) < (n : Int)) = true := by simp [hlt]
      have e0 := R.out.r3.c j (by rw [← HQ.out]; exact hlt) 0 (by omega)
      unfold gO at e0
      simp only [Nat.mul_one, Nat.add_zero] at e0
      cases hs : d.is j with
      | true =>
        rw [hs] at e0
        have E : looseN d.is (j + 1) = looseN d.is j + 1 := by simp [looseN, hs]
        generalize looseN d.is j = q at *
        have HE := Lib.hid E
        clear E
        go_wp2_with fail
        go_roundw
        case rel => exact ⟨j + 1, hlt, by go_num, by rw [HE.out]; go_num, trivial⟩
        case measure => simp [intOf]; omega
      | false =>
        rw [hs] at e0
        have E : looseN d.is (j + 1) = looseN d.is j := by simp [looseN, hs]
        generalize looseN d.is j = q at *
        have HE := Lib.hid E
        clear E
        go_wp2_with fail
        go_roundw
        case rel => exact ⟨j + 1, hlt, by go_num, by rw [HE.out], trivial⟩
        case measure => simp [intOf]; omega
    · obtain rfl : j = n := by omega
      have d1 : decide ((j : Int) < (j : Int)) = false := by simp
      go_wp2_with fail
      go_ret
      exact ⟨rfl, Below.refl _ _⟩

end Go.Proofs.Ytbohcfflkcaijaa
