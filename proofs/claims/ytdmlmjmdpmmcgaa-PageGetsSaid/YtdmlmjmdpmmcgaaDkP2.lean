/- The contracts of the program's settle, Arm, Sync, Read, and of what only looks. -/
import Derived.Test.YtdmlmjmdpmmcgaaDkP1
import Derived.Laws.BytesArg
namespace Go.Proofs.Ytdmlmjmdpmmcgaa
open Go.RowKit Go.Deep Go.Maps
set_option linter.unusedVariables false
set_option linter.unusedSimpArgs false
set_option maxRecDepth 100000

variable {base P bS bm cS : Nat} {d : Dk} {u : World}
theorem psettle_any (h : PDk base P bS bm cS d u) : Calls Try.prog 49 #[.pointer (some ⟨P, 0, none⟩)] u fun r u' => r = .returned (.tuple #[]) ∧ (∃ bm2, bm2 < u'.heap.size ∧ PDk base P bS bm2 cS (safeD d) u') ∧ KpS (P3 P bS bm) u u' := by
  have hmm := @run_makeMap Try.prog
  obtain ⟨n1, n2, n3⟩ := h.ne
  obtain ⟨l1, l2, l3⟩ := h.lt
  obtain ⟨o1, o2, o3⟩ := h.lo
  obtain ⟨c0, c1, c2, c3, c4, cf⟩ := h.cells
  have hf1 := cf 1
  have B1 := balloc (u.setCell ⟨P, 1, none⟩ (.map (some u.heap.size))) (.map #[] 0)
  have e9 : (u.setCell ⟨P, 1, none⟩ (.map (some u.heap.size))).heap.size = u.heap.size := World.size_setCell _ _ _
  have X1 := heap_alloc_new (u.setCell ⟨P, 1, none⟩ (.map (some u.heap.size))) (.map #[] 0)
  rw [e9] at X1 B1
  have S1 : Hid (PDk base P bS u.heap.size cS (safeD d) ((u.setCell ⟨P, 1, none⟩ (.map (some u.heap.size))).alloc (.map #[] 0))) := by
    refine ⟨?_, ?_, MpD.none X1 fun _ => rfl, o1, o2, by omega⟩
    · rw [B1.block _ l1]; exact Joins.block_setCell (i := 1) h.box _
    · exact h.row.kept ((B1.block _ l2).trans (set_else _ n1.symm))
  have SZ := Lib.hid (show u.heap.size < ((u.setCell ⟨P, 1, none⟩ (.map (some u.heap.size))).alloc (.map #[] 0)).heap.size by rw [World.size_alloc, e9]; omega)
  have K1 := Lib.hid ((KpS.set (P3.a P bS bm) 1 (.map (some u.heap.size)) u).on (balloc (u.setCell ⟨P, 1, none⟩ (.map (some u.heap.size))) (.map #[] 0)))
  clear h B1 X1 cf c0 c2 c3 c4 e9
  go_enter Try.func49, Try.ntmps49
  go_wp2_with fail
  exact bodyPost_end (v := .tuple #[]) (by simp [results, Try.results49, go_sem]) rfl ⟨rfl, ⟨_, SZ.out, S1.out⟩, K1.out⟩
theorem parm_any (h : PDk base P bS bm cS d u) (i : Int) : Calls Try.prog 23 #[.pointer (some ⟨P, 0, none⟩), .int .i64 i] u fun r u' => r = .returned (.int .i64 (armE d i)) ∧ PDk base P bS bm cS (armD d i) u' ∧ KpS (P3 P bS bm) u u' := by
  have R := Lib.hid h
  obtain ⟨c0, c1, c2, c3, c4, cf⟩ := h.cells
  have hf3 := cf 3
  have H := Lib.hid (pup_any h)
  unfold armE armD
  go_enter Try.func23, Try.ntmps23
  cases hd : d.down with
  | true =>
    rw [hd] at H
    clear h
    go_wp2_with fail
    refine (H.out).mono ?_
    rintro e w1 ⟨rfl, rfl⟩
    go_wp2_with fail
    go_ret
    exact ⟨rfl, R.out, KpS.refl _ _⟩
  | false =>
    rw [hd] at H
    clear h
    go_wp2_with fail
    refine (H.out).mono ?_
    rintro e w1 ⟨rfl, rfl⟩
    by_cases h1 : i < 1
    · have d1 : decide (i < 1) = true := by simp [h1]
      go_wp2_with fail
      go_ret
      refine ⟨?_, ?_, KpS.refl _ _⟩
      · show Ending.returned (Value.int .i64 2) = _
        simp [h1]
      · first
          | exact R.out
          | (rw [if_neg (by decide), if_pos h1]; exact R.out)
    · have d1 : decide (i < 1) = false := by simp; omega
      have B1 := Lib.hid (show (w1.setCell ⟨P, 3, none⟩ (.int .i64 i)).heap[P]? = some (.cells (pbx bS cS bm { d with arm := i.toNat }) 82 (0, 0)) from by
        have := Joins.block_setCell (i := 3) R.out.box (.int .i64 i)
        rw [this]
        unfold pbx
        simp only [show ((i.toNat : Nat) : Int) = i by omega]
        rfl)
      have R1 := Lib.hid (R.out.rebox (fun q hq => set_else _ hq) B1.out rfl rfl rfl rfl)
      go_wp2_with fail
      go_ret
      refine ⟨?_, ?_, KpS.set (P3.a P bS bm) 3 (.int .i64 i) _⟩
      · show Ending.returned (Value.int .i64 0) = _
        simp [h1]
      · first
          | exact R1.out
          | (have := R1.out; rw [hd] at this; exact this)
          | (rw [if_neg (by decide), if_neg h1]; exact R1.out)
theorem psync_any (h : PDk base P bS bm cS d u) (hb : BdD d) : Calls Try.prog 21 #[.pointer (some ⟨P, 0, none⟩)] u fun r u' => r = .returned (.int .i64 (syncE d)) ∧ (∃ bm2, bm2 < u'.heap.size ∧ PDk base P bS bm2 cS (syncD d) u') ∧ KpS (P3 P bS bm) u u' := by
  have R := Lib.hid h
  have H := Lib.hid (pup_any h)
  unfold syncE syncD
  go_enter Try.func21, Try.ntmps21
  cases hd : d.down with
  | true =>
    rw [hd] at H
    clear h hb
    go_wp2_with fail
    refine (H.out).mono ?_
    rintro e w1 ⟨rfl, rfl⟩
    go_wp2_with fail
    go_ret
    exact ⟨rfl, ⟨_, R.out.lt.2.2, R.out⟩, KpS.refl _ _⟩
  | false =>
    rw [hd] at H
    have H2 := Lib.hid (pcount_any h hb hd)
    clear h hb
    go_wp2_with fail
    refine (H.out).mono ?_
    rintro e w1 ⟨rfl, rfl⟩
    go_wp2_with fail
    refine (H2.out).mono ?_
    rintro e w2 ⟨rfl, r2, k2⟩
    have R2 := Lib.hid r2
    have K2 := Lib.hid k2
    clear r2 k2
    by_cases h1 : d.arm = 1
    · have e1 : countE d = 13 := by simp [countE, h1]
      rw [e1]
      go_wp2_with fail
      go_ret
      refine ⟨rfl, ?_, K2.out⟩
      first
        | exact ⟨_, R2.out.lt.2.2, R2.out⟩
        | (rw [if_neg (by decide), if_pos h1]; exact ⟨_, R2.out.lt.2.2, R2.out⟩)
    · have e1 : countE d = 0 := by simp [countE, h1]
      have H3 := Lib.hid (psettle_any R2.out)
      rw [e1]
      go_wp2_with fail
      refine (H3.out).mono ?_
      rintro e w3 ⟨rfl, r3, k3⟩
      have R3 := Lib.hid r3
      have K3 := Lib.hid (K2.out.trans k3)
      clear r3 k3
      go_wp2_with fail
      go_ret
      refine ⟨rfl, ?_, K3.out⟩
      first
        | exact R3.out
        | (rw [if_neg (by decide), if_neg h1]; exact R3.out)
theorem pread_any (h : PDk base P bS bm cS d u) (hn : d.n ≤ 4096) (i : Int) : Calls Try.prog 67 #[.pointer (some ⟨P, 0, none⟩), .int .i64 i] u fun r u' => r = .returned (.tuple #[.string (readS d i), .int .i64 (readE d i)]) ∧ u' = u := by
  have R := Lib.hid h
  obtain ⟨c0, c1, c2, c3, c4, cf⟩ := h.cells
  have H := Lib.hid (pat_any h i)
  unfold readE at H
  unfold readE readS
  go_enter Try.func67, Try.ntmps67
  cases hd : d.down with
  | true =>
    rw [hd] at H
    clear h
    go_wp2_with fail
    refine (H.out).mono ?_
    rintro e w1 ⟨rfl, rfl⟩
    go_wp2_with fail
    go_ret2
    exact ⟨rfl, rfl⟩
  | false =>
    rw [hd] at H
    by_cases h1 : i < 0 ∨ (d.n : Int) ≤ i
    · rw [if_neg (by decide), if_pos h1] at H
      clear h
      go_wp2_with fail
      refine (H.out).mono ?_
      rintro e w1 ⟨rfl, rfl⟩
      go_wp2_with fail
      go_ret2
      refine ⟨?_, rfl⟩
      first
        | rfl
        | (simp only [if_pos h1]; rfl)
    · rw [if_neg (by decide), if_neg h1] at H
      obtain ⟨k, rfl⟩ : ∃ k : Nat, i = (k : Int) := ⟨i.toNat, by omega⟩
      have hk : k < d.n := by omega
      have hlt : (k : Int) < (d.n : Int) := by omega
      have hcv := run_convert_bytes_arg (P := Try.prog) u 69 5 Try.underlying69 Try.underlying5 bS (k * 64) 64 64 ((List.range 64).map (nowD d k)) (by simp)
        (fun j hj => by rw [h.row.c k hk j hj]; simp [gB, hj]) 9 Try.underlying9
      change _ = Result.ok (Value.string (sec (nowD d k))) u at hcv
      clear h
      go_wp2_with fail
      refine (H.out).mono ?_
      rintro e w1 ⟨rfl, rfl⟩
      go_wp2_with fail
      go_ret2
      refine ⟨?_, rfl⟩
      simp only [if_neg h1, Int.toNat_natCast]
      rfl
theorem psectors_any (h : PDk base P bS bm cS d u) : Calls Try.prog 43 #[.pointer (some ⟨P, 0, none⟩)] u fun r u' => r = .returned (.int .i64 (d.n : Int)) ∧ u' = u := by
  obtain ⟨c0, c1, c2, c3, c4, cf⟩ := h.cells
  go_enter Try.func43, Try.ntmps43
  go_wp2_with fail
  go_ret
  exact ⟨rfl, rfl⟩
theorem psectors_nil (u : World) : Calls Try.prog 43 #[.pointer none] u fun r u' => r = .returned (.int .i64 0) ∧ u' = u := by
  go_enter Try.func43, Try.ntmps43
  go_wp2_with fail
  go_ret
  exact ⟨rfl, rfl⟩

end Go.Proofs.Ytdmlmjmdpmmcgaa
