/- The contracts of the program's Abort, Commit, and of pool.New. The contract of slices.Sort at numbers: the library's own, laid over this program. The contracts of the program's Count, Pages. -/
import Derived.Lib.SliceRun
import Derived.Shelf.Sort.Plain
import Derived.Shelf.Slices.In.SortNone
import Derived.Sort.OwnSorted
import Derived.Test.YtmflkkkbahghgaaGreatYZ21
import Derived.Test.YtmflkkkbahghgaaGreatYZ7
import Derived.Test.YtmflkkkbahghgaaGreatYZ6
namespace Go.Proofs.YtmflkkkbahghgaaGreat
open Go.RowKit Go.Deep
set_option linter.unusedVariables false
set_option linter.unusedSimpArgs false
set_option maxRecDepth 100000

theorem rep_no (n i : Nat) : frA (List.replicate n noF) i = noF := by
  unfold frA
  rw [List.getD_eq_getElem?_getD, List.getElem?_replicate]
  split <;> rfl
theorem zero_rows (n : Nat) : (Builtin.zeroCells (fmL noF).toArray n).toList = rowCells 237 (fmG (List.replicate n noF)) n := by
  unfold Builtin.zeroCells rowCells
  rw [Array.toList_map, Array.toList_range, fmL_size]
  apply List.map_congr_left
  intro k hk
  have hm : k % 237 < (fmL noF).length := by rw [fmL_len]; exact Nat.mod_lt _ (by omega)
  have h : (fmL noF)[k % 237]? = some (fmV noF (k % 237)) := by rw [List.getElem?_eq_getElem hm, fmL_at]
  simp only [fmG, rep_no]
  rw [getElem!_def]
  simp only [List.getElem?_toArray, h]
theorem made_frames (n : Nat) : (madeCells (fmL noF).toArray (n * 237)).toList = rowCells 237 (fmG (List.replicate n noF)) n := by
  rw [← zero_rows]
  unfold madeCells Builtin.zeroCells
  rw [fmL_size]
theorem rowsL_len (C : Nat) (G : Nat → Nat → Value) (n : Nat) : (rowCells C G n).length = n * C := by
  unfold rowCells
  rw [List.length_map, List.length_range]
theorem rowsL_at {C : Nat} (G : Nat → Nat → Value) (n i j : Nat) (hi : i < n) (hj : j < C) : (rowCells C G n)[i * C + j]? = some (G i j) := by
  have hlt : i * C + j < n * C := by
    have := Nat.mul_le_mul_right C (show i + 1 ≤ n by omega)
    rw [Nat.add_mul] at this
    omega
  unfold rowCells
  rw [List.getElem?_map, List.getElem?_range hlt]
  simp only [Option.map_some]
  rw [Nat.mul_comm i C, Nat.mul_add_div (by omega), Nat.div_eq_of_lt hj, Nat.mul_add_mod, Nat.mod_eq_of_lt hj, Nat.add_zero]
section
variable {F n c : Nat} {f : List Frm} {u : World}
theorem clear_run (h : QRow F n f c u) (hn : 0 < n) (ty : TypeId) : (Builtin.clear_ #[78] ty #[.slice (some ⟨F, 0, none⟩) n c]).run Tryz.prog u = .ok (.tuple #[]) (u.setCells F 0 (rowCells 237 (fmG (List.replicate n noF)) n)) := by
  have hc : ∀ j, j < (rowCells 237 (fmG (List.replicate n noF)) n).length → (u.cell? ⟨F, 0 + 0 + j, none⟩).isSome = true := fun j hj => by
    rw [rowsL_len] at hj
    have h1 : j / 237 < n := Nat.div_lt_of_lt_mul (by omega)
    have h2 := h.c (j / 237) h1 (j % 237) (Nat.mod_lt _ (by omega))
    rw [show j / 237 * 237 + j % 237 = j by omega] at h2
    rw [show 0 + 0 + j = j by omega, h2]
    rfl
  have hst := run_storeCells_cells (P := Tryz.prog) F 0 (rowCells 237 (fmG (List.replicate n noF)) n) 0 u hc (fun j hj => RowB.frozen h _) (fun v hv => by
    obtain ⟨k, _, rfl⟩ := List.mem_map.1 hv
    exact fmV_one _ _)
  obtain ⟨m, rfl⟩ : ∃ m, n = m + 1 := ⟨n - 1, by omega⟩
  have hz := zero_rows (m + 1)
  simp only [Nat.add_zero] at hst
  have hzz : Tryz.zeroCells82 = (fmL noF).toArray := by kernel_rfl
  simp [Builtin.clear_, run_underlying Tryz.underlying78, zero_frm_val, Value.cells]
  rw [hzz, hz, hst]
  rfl
theorem clear_row (h : QRow F n f c u) : QRow F n (List.replicate n noF) c (u.setCells F 0 (rowCells 237 (fmG (List.replicate n noF)) n)) := by
  refine ⟨h.v, block_setCells F _ _ u h.b, fun i hi j hj => ?_⟩
  have hlt : i * 237 + j < (rowCells 237 (fmG (List.replicate n noF)) n).length := by
    rw [rowsL_len]
    have := Nat.mul_le_mul_right 237 (show i + 1 ≤ n by omega)
    rw [Nat.add_mul] at this
    omega
  have := World.cell?_setCells_in F (rowCells 237 (fmG (List.replicate n noF)) n) 0 u (fun q hq => by
    rw [rowsL_len] at hq
    have h1 : q / 237 < n := Nat.div_lt_of_lt_mul (by omega)
    have h2 := h.c (q / 237) h1 (q % 237) (Nat.mod_lt _ (by omega))
    rw [show q / 237 * 237 + q % 237 = q by omega] at h2
    rw [Nat.zero_add, h2]
    rfl) (i * 237 + j) hlt
  rw [Nat.zero_add] at this
  rw [this]
  have e := rowsL_at (fmG (List.replicate n noF)) n i j hi hj
  rw [List.getElem?_eq_getElem hlt] at e
  exact e
end
section
variable {PM : StM} {PF PC : FlM} {base D P Y F c : Nat} {p : Plt} {S : Nat → Bool} {u : World}
set_option maxHeartbeats 1600000 in
theorem qAbort_any (I : Sh14 PM PF PC) (h : PqAt PM base D P Y F c p S u) (ok : OkX p.x) (hn : 0 < p.f.length) (hbase : base ≤ u.heap.size) : Calls Tryz.prog 17 #[.pointer (some ⟨Y, 0, none⟩)] u fun r u' => r = .returned (.bool true) ∧ PqTo PM base D P Y F c S (aboP p) u u' := by
  obtain ⟨x0, x1, x2, f0, f1, f2⟩ := h.cells
  have hclr := clear_run h.row hn
  have T1 := Lib.hid (h.wrote I (f2 := List.replicate p.f.length noF) List.length_replicate (KpS.sets (O1.a F) _ _ _) (clear_row h.row))
  obtain ⟨w1, hw1⟩ : ∃ w1, w1 = u.setCells F 0 (rowCells 237 (fmG (List.replicate p.f.length noF)) p.f.length) := ⟨_, rfl⟩
  rw [← hw1] at hclr T1
  have y0 : w1.cell? ⟨Y, 0, none⟩ = some (.pointer (some ⟨P, 0, none⟩)) := by
    obtain ⟨S1, a1⟩ := T1.out.at
    exact a1.cells.1
  have HI := Lib.hid I
  have HW : Hid (Calls Tryz.prog 55 #[.pointer (some ⟨P, 0, none⟩)] w1 fun r u' => r = .returned (.bool true) ∧ PqTo PM base D P Y F c S (aboP p) u u') := Lib.hid (by
    obtain ⟨S1, a1, n1, k1⟩ := T1.out
    refine (I.abort a1.st ok (Nat.le_trans hbase k1.size)).mono ?_
    rintro r u' ⟨rfl, S2, n2, k2, p2⟩
    obtain ⟨S3, a3, n3, k3⟩ := a1.stored I n2 k2 p2
    exact ⟨rfl, S3, a3, n1.then n3 k1.size, kps_new (newPq n1) k1 k3⟩)
  clear h I ok hbase hn hw1 T1
  go_enter Tryz.func17, Tryz.ntmps17
  go_wp2_with fail
  refine (HW.out).mono ?_
  rintro r w2 ⟨rfl, t2⟩
  have FIN := Lib.hid t2
  clear t2 HW
  go_wp2_with fail
  go_ret
  exact ⟨rfl, FIN.out⟩
theorem cntB_pos {q : Nat → Bool} {n i : Nat} (hi : i < n) (h : q i = true) : 0 < cntB q n := by
  induction n with
  | zero => omega
  | succ n ih =>
    simp only [cntB]
    by_cases e : i = n
    · subst e; rw [h]; simp
    · have := ih (by omega); omega
theorem held_lst (f : List Frm) : lstP (heldB f) f.length < f.length ↔ 0 < heldF f := by
  constructor
  · intro h
    exact cntB_pos h (lstP_at h)
  · intro h
    rcases Nat.lt_or_ge (lstP (heldB f) f.length) f.length with c | c
    · exact c
    · have : heldF f = 0 := cntB_none fun i hi => lstP_ahead (p := heldB f) (n := f.length) i (by omega)
      omega
set_option maxHeartbeats 3200000 in
theorem qCommit_any (I : Sh14 PM PF PC) (h : PqAt PM base D P Y F c p S u) {c0 m0 : Nat} {e0 : Int} (ok : OkW c0 e0 m0 p) (hc0 : c0 + 2112 ≤ 900000) (he0 : e0 ≤ 1000000) (hm0 : m0 ≤ 1000000) (hbase : base ≤ u.heap.size) : Calls Tryz.prog 15 #[.pointer (some ⟨Y, 0, none⟩)] u fun r u' => r = .returned (.int .i64 (cmtE p)) ∧ PqTo PM base D P Y F c S (cmtP p) u u' := by
  obtain ⟨x0, x1, x2, f0, f1, f2⟩ := h.cells
  have HF := Lib.hid (qfirst_any h ok.len.2 (ask_held h.row))
  have H := Lib.hid h
  have HI := Lib.hid I
  have OK := Lib.hid ok
  have HBASE := Lib.hid hbase
  have HC0 := Lib.hid hc0
  have HE0 := Lib.hid he0
  have HM0 := Lib.hid hm0
  have HL := Lib.hid ok.len.2
  clear h I ok hbase hc0 he0 hm0 x0 x2 f0 f1 f2
  go_enter Tryz.func15, Tryz.ntmps15
  by_cases c1 : lstP (heldB p.f) p.f.length < p.f.length
  · have hp := (held_lst p.f).1 c1
    have E1 : Hid (cmtE p = 16) := Lib.hid (if_pos hp)
    have E2 : Hid (cmtP p = p) := Lib.hid (if_pos hp)
    rw [ptrQ_in c1] at HF
    clear c1 hp x1
    go_wp2_with fail
    refine (HF.out).mono ?_
    rintro r w1 ⟨rfl, hw⟩
    subst hw
    go_wp2_with fail
    go_ret
    exact ⟨by rw [E1.out]; rfl, by rw [E2.out]; exact H.out.same⟩
  · have hp : ¬ 0 < heldF p.f := fun q => c1 ((held_lst p.f).2 q)
    have E1 : Hid (cmtE p = if (basP p.f.length 0 p).2 = 0 then comSE (basP p.f.length 0 p).1.x else (basP p.f.length 0 p).2) := Lib.hid (if_neg hp)
    have E2 : Hid (cmtP p = if (basP p.f.length 0 p).2 = 0 then { (basP p.f.length 0 p).1 with x := comSX (basP p.f.length 0 p).1.x } else (basP p.f.length 0 p).1) := Lib.hid (if_neg hp)
    rw [ptrQ_out c1] at HF
    clear c1 hp
    go_wp2_with fail
    refine (HF.out).mono ?_
    rintro r w1 ⟨rfl, hw⟩
    subst hw
    go_wp2_with fail
    clear HF x1
    go_loopw [15] (fun i wr => ∃ (j : Nat) (q : Plt), j ≤ p.f.length ∧ i = .int .i64 j ∧ Hid (basP p.f.length 0 p = basP (p.f.length - j) j q) ∧ Hid (OkW (c0 + 64 * j) e0 m0 q) ∧ Hid (q.f.length = p.f.length) ∧ Hid (PqTo PM base D P Y F c S q w1 wr)) (fun i _ => p.f.length - (intOf i).toNat)
    case atStart => exact ⟨0, p, Nat.zero_le _, rfl, Lib.hid rfl, OK, Lib.hid rfl, Lib.hid H.out.same⟩
    case round =>
      obtain ⟨j, q, hj, rfl, HV, HQK, HQL, HQ⟩ := hrel
      by_cases hlt : j < p.f.length
      · have d1 : decide ((j : Int) < (p.f.length : Int)) = true := decide_eq_true (by omega)
        have hj1 : (j : Int) < (p.f.length : Int) := by omega
        have hj2 : (0 : Int) ≤ (j : Int) := by omega
        have hl32 := HL.out
        have HS : Hid (Calls Tryz.prog 50 #[.pointer (some ⟨Y, 0, none⟩), .pointer (some ⟨F, j * 237, none⟩)] wr fun r u' => r = .returned (.int .i64 (bakE q j)) ∧ PqTo PM base D P Y F c S (bakP q j) w1 u') := Lib.hid (by
          obtain ⟨S1, a1, n1, k1⟩ := HQ.out
          have hx : OkX q.x := (HQK.out.p (by have := HC0.out; have := HL.out; omega) HE0.out HM0.out).x
          refine (qsave_any HI.out a1 hx (Nat.le_trans HBASE.out k1.size) (by rw [HQL.out]; exact hlt) (HQK.out.fr j)).mono ?_
          rintro r w' ⟨rfl, S3, a3, n3, k3⟩
          exact ⟨rfl, S3, a3, n1.then n3 k1.size, kps_new (newPq n1) k1 k3⟩)
        have x1 : wr.cell? ⟨Y, 1, none⟩ = some (.slice (some ⟨F, 0, none⟩) p.f.length c) := by
          obtain ⟨S1, a1⟩ := HQ.out.at
          have := a1.cells.2.1
          rwa [HQL.out] at this
        have HVS : Hid (basP (p.f.length - j) j q = if bakE q j = 0 then basP (p.f.length - (j + 1)) (j + 1) (bakP q j) else (bakP q j, bakE q j)) := Lib.hid (by
          rw [show p.f.length - j = (p.f.length - (j + 1)) + 1 by omega]
          rfl)
        go_wp2_with fail
        refine (HS.out).mono ?_
        rintro r w2 ⟨rfl, t2⟩
        have T2 := Lib.hid t2
        clear t2 HS x1
        by_cases he : bakE q j = 0
        · rw [if_pos he] at HVS
          have HV2 := Lib.hid (HV.out.trans HVS.out)
          have OK2 : Hid (OkW (c0 + 64 * (j + 1)) e0 m0 (bakP q j)) := Lib.hid ((HQK.out.bak j).up (by omega) (Int.le_refl _) (Nat.le_refl _))
          have LN2 : Hid ((bakP q j).f.length = p.f.length) := Lib.hid ((bakP_len q j).trans HQL.out)
          rw [he]
          clear he
          go_wp2_with fail
          go_roundw
          case rel => exact ⟨j + 1, bakP q j, hlt, by go_num, HV2, OK2, LN2, T2⟩
          case measure => simp [intOf]; omega
        · rw [if_neg he] at HVS
          have HV2 := Lib.hid (HV.out.trans HVS.out)
          have E1' : Hid (cmtE p = bakE q j) := Lib.hid (by rw [E1.out, HV2.out]; exact if_neg he)
          have E2' : Hid (cmtP p = bakP q j) := Lib.hid (by rw [E2.out, HV2.out]; exact if_neg he)
          generalize bakE q j = e at *
          have d2 : (e == 0) = false := by simp [he]
          have d3 : (e != 0) = true := by simp [he]
          clear he
          go_wp2_with fail
          go_ret
          exact ⟨by rw [E1'.out]; rfl, by rw [E2'.out]; exact T2.out⟩
      · have d1 : decide ((j : Int) < (p.f.length : Int)) = false := decide_eq_false (by omega)
        obtain rfl : j = p.f.length := by omega
        rw [Nat.sub_self] at HV
        have E1' : Hid (cmtE p = comSE q.x) := Lib.hid (by rw [E1.out, HV.out]; exact if_pos rfl)
        have E2' : Hid (cmtP p = { q with x := comSX q.x }) := Lib.hid (by rw [E2.out, HV.out]; exact if_pos rfl)
        have HS : Hid (Calls Tryz.prog 51 #[.pointer (some ⟨P, 0, none⟩)] wr fun r u' => r = .returned (.int .i64 (comSE q.x)) ∧ PqTo PM base D P Y F c S { q with x := comSX q.x } w1 u') := Lib.hid (by
          obtain ⟨S1, a1, n1, k1⟩ := HQ.out
          have hx : OkX q.x := (HQK.out.p (by have := HC0.out; have := HL.out; omega) HE0.out HM0.out).x
          refine (HI.out.commit a1.st hx (Nat.le_trans HBASE.out k1.size)).mono ?_
          rintro r w' ⟨e, rfl, ho⟩
          obtain ⟨rfl, S2, n2, k2, p2⟩ := out_zero ho
          obtain ⟨S3, a3, n3, k3⟩ := a1.stored HI.out n2 k2 p2
          exact ⟨rfl, S3, a3, n1.then n3 k1.size, kps_new (newPq n1) k1 k3⟩)
        have x0 : wr.cell? ⟨Y, 0, none⟩ = some (.pointer (some ⟨P, 0, none⟩)) := by
          obtain ⟨S1, a1⟩ := HQ.out.at
          exact a1.cells.1
        go_wp2_with fail
        refine (HS.out).mono ?_
        rintro r w2 ⟨rfl, t2⟩
        have T2 := Lib.hid t2
        clear t2 HS x0
        go_wp2_with fail
        go_ret
        exact ⟨by rw [E1'.out]; rfl, by rw [E2'.out]; exact T2.out⟩
end
theorem info_frm : (Tryz.prog.info? 82).map (fun i => (i.zero, i.size, i.bytes)) = some (some (.agg (fmL noF).toArray), 237, 264) := by kernel_rfl
section
variable {PM : StM} {PF PC : FlM} {base D P : Nat} {x : Stt} {S : Nat → Bool} {u : World}
set_option maxHeartbeats 1600000 in
theorem qnew_any (I : Sh14 PM PF PC) (h : PM base D P x 0 S u) (hbase : base ≤ u.heap.size) (n : Nat) (h1 : 1 ≤ n) (h2 : n ≤ 32) : Calls Tryz.prog 21 #[.pointer (some ⟨P, 0, none⟩), .int .i64 (n : Int)] u fun r u' => ∃ Y F c, r = .returned (.tuple #[.pointer (some ⟨Y, 0, none⟩), .int .i64 0]) ∧ PqAt PM base D P Y F c ⟨x, List.replicate n noF, 0⟩ S u' ∧ Below u.heap.size u u' ∧ u.heap.size ≤ Y ∧ u.heap.size ≤ F := by
  obtain ⟨i0, hi, hz0, hz1, hz2⟩ := info_parts info_frm
  have H := Lib.hid h
  have HI := Lib.hid I
  have HBASE := Lib.hid hbase
  have SNO : Hid (∀ k, u.heap.size ≤ k → S k = false) := Lib.hid (fun k hk => by
    cases q : S k with
    | false => rfl
    | true => have := (I.lo h k q).2; omega)
  have d1 : decide ((n : Int) < 1) = false := decide_eq_false (by omega)
  have d2 : decide ((32 : Int) < (n : Int)) = false := decide_eq_false (by omega)
  have d3 : decide (32 < n) = false := decide_eq_false (by omega)
  have d4 : decide (n < 1) = false := decide_eq_false (by omega)
  clear h I hbase
  go_enter Tryz.func21, Tryz.ntmps21
  go_wp2_with (at_make; refine wpList_make_full _ rfl _ _ _ rfl u.heap.size 82 i0 (.agg (fmL noF).toArray) 237 Tryz.underlying78 hi hz0 hz1 .i64 .i64 _ _ n rfl rfl (by omega) (by omega) (by rw [hz2]; omega) (by unfold maxLen; omega) (Nat.le_refl _) ?_)
  intro w2 hown hgr
  rw [made_frames] at hown
  obtain ⟨b, q1, q2, q3⟩ := RowB.of hown (by omega)
  simp only [Value.ownBlock, Option.some.injEq] at q2
  subst q2
  have HB := Lib.hid ((Below.refl u.heap.size u).grown hgr (Nat.le_refl _) (by simp))
  have HR := Lib.hid q3
  have X2 := Lib.hid (heap_alloc_new w2 (.cells #[.pointer (some ⟨P, 0, none⟩), .slice (some ⟨u.heap.size, 0, none⟩) n n, .int .i64 0] 87))
  have B2 := Lib.hid (balloc w2 (.cells #[.pointer (some ⟨P, 0, none⟩), .slice (some ⟨u.heap.size, 0, none⟩) n n, .int .i64 0] 87))
  clear hown hgr q1 q3
  go_wp2_with fail
  go_ret2
  have BB : Below u.heap.size u (w2.alloc (.cells #[.pointer (some ⟨P, 0, none⟩), .slice (some ⟨u.heap.size, 0, none⟩) n n, .int .i64 0] 87)) := HB.out.trans (B2.out.mono HB.out.size)
  refine ⟨w2.heap.size, u.heap.size, n, rfl, ⟨HI.out.below H.out BB, ?_, ?_, SNO.out _ HB.out.size, SNO.out _ (Nat.le_refl _), ?_, ⟨Nat.le_trans HBASE.out HB.out.size, HBASE.out⟩⟩, BB, HB.out.size, Nat.le_refl _⟩
  · have e : (List.replicate n noF).length = n := List.length_replicate
    dsimp only
    rw [e]
    exact X2.out
  · show QRow _ (List.replicate n noF).length _ _ _
    rw [List.length_replicate]
    exact RowB.kept HR.out (B2.out.block _ (RowB.lt HR.out))
  · have := RowB.lt HR.out
    omega
end
end Go.Proofs.YtmflkkkbahghgaaGreat
namespace Go.Proofs.YtmflkkkbahghgaaGreat
open Go.RowKit Go.Deep
set_option linter.unusedVariables false
set_option linter.unusedSimpArgs false
set_option maxRecDepth 100000

def renSort : Go.Shelf.Ren where
  f := fun x => match x with
    | 189 => 47
    | 125 => 85
    | 257 => 84
    | 128 => 133
    | 129 => 134
    | 294 => 124
    | 295 => 125
    | 296 => 126
    | 297 => 127
    | 298 => 128
    | 299 => 129
    | 216 => 130
    | 300 => 131
    | 301 => 132
    | 328 => 158
    | 329 => 159
    | 330 => 160
    | 331 => 161
    | 332 => 162
    | 215 => 163
    | 343 => 180
    | n => n
  t := fun x => match x with
    | 28 => 38
    | 3 => 3
    | 46 => 109
    | 0 => 0
    | 51 => 143
    | 53 => 145
    | 4 => 4
    | 183 => 135
    | 182 => 134
    | 131 => 140
    | 5 => 5
    | 9 => 9
    | 218 => 172
    | 222 => 176
    | 228 => 193
    | 229 => 194
    | n => n
  g := fun n => n
theorem laysSort : Go.Proofs.Lays.n189 Tryz.prog renSort where
  mixed := by kernel_rfl
  f125 := Tryz.func85.trans (congrArg some (by kernel_rfl))
  f128 := Tryz.func133.trans (congrArg some (by kernel_rfl))
  f129 := Tryz.func134.trans (congrArg some (by kernel_rfl))
  f189 := Tryz.func47.trans (congrArg some (by kernel_rfl))
  f215 := Tryz.func163.trans (congrArg some (by kernel_rfl))
  f216 := Tryz.func130.trans (congrArg some (by kernel_rfl))
  f257 := Tryz.func84.trans (congrArg some (by kernel_rfl))
  f294 := Tryz.func124.trans (congrArg some (by kernel_rfl))
  f295 := Tryz.func125.trans (congrArg some (by kernel_rfl))
  f296 := Tryz.func126.trans (congrArg some (by kernel_rfl))
  f297 := Tryz.func127.trans (congrArg some (by kernel_rfl))
  f298 := Tryz.func128.trans (congrArg some (by kernel_rfl))
  f299 := Tryz.func129.trans (congrArg some (by kernel_rfl))
  f300 := Tryz.func131.trans (congrArg some (by kernel_rfl))
  f301 := Tryz.func132.trans (congrArg some (by kernel_rfl))
  f328 := Tryz.func158.trans (congrArg some (by kernel_rfl))
  f329 := Tryz.func159.trans (congrArg some (by kernel_rfl))
  f330 := Tryz.func160.trans (congrArg some (by kernel_rfl))
  f331 := Tryz.func161.trans (congrArg some (by kernel_rfl))
  f332 := Tryz.func162.trans (congrArg some (by kernel_rfl))
  f343 := Tryz.func180.trans (congrArg some (by kernel_rfl))
  t0 := Tryz.underlying0
  a0 := Tryz.isAgg0
  z0 := Tryz.sizeOf0
  v0 := Tryz.zeroValue0
  t3 := Tryz.underlying3
  a3 := Tryz.isAgg3
  z3 := Tryz.sizeOf3
  v3 := Tryz.zeroValue3
  t4 := Tryz.underlying4
  a4 := Tryz.isAgg4
  z4 := Tryz.sizeOf4
  v4 := Tryz.zeroValue4
  t5 := Tryz.underlying5
  a5 := Tryz.isAgg5
  z5 := Tryz.sizeOf5
  v5 := Tryz.zeroValue5
  t9 := Tryz.underlying9
  a9 := Tryz.isAgg9
  z9 := Tryz.sizeOf9
  v9 := Tryz.zeroValue9
  t28 := Tryz.underlying38
  a28 := Tryz.isAgg38
  z28 := Tryz.sizeOf38
  v28 := Tryz.zeroValue38
  t46 := Tryz.underlying109
  a46 := Tryz.isAgg109
  z46 := Tryz.sizeOf109
  v46 := Tryz.zeroValue109
  t51 := Tryz.underlying143
  a51 := Tryz.isAgg143
  z51 := Tryz.sizeOf143
  v51 := Tryz.zeroValue143
  t53 := Tryz.underlying145
  a53 := Tryz.isAgg145
  z53 := Tryz.sizeOf145
  v53 := Tryz.zeroValue145
  t131 := Tryz.underlying140
  a131 := Tryz.isAgg140
  z131 := Tryz.sizeOf140
  v131 := Tryz.zeroValue140
  t182 := Tryz.underlying134
  a182 := Tryz.isAgg134
  z182 := Tryz.sizeOf134
  v182 := Tryz.zeroValue134
  t183 := Tryz.underlying135
  a183 := Tryz.isAgg135
  z183 := Tryz.sizeOf135
  v183 := Tryz.zeroValue135
  t218 := Tryz.underlying172
  a218 := Tryz.isAgg172
  z218 := Tryz.sizeOf172
  v218 := Tryz.zeroValue172
  t222 := Tryz.underlying176
  a222 := Tryz.isAgg176
  z222 := Tryz.sizeOf176
  v222 := Tryz.zeroValue176
  t228 := Tryz.underlying193
  a228 := Tryz.isAgg193
  z228 := Tryz.sizeOf193
  v228 := Tryz.zeroValue193
  t229 := Tryz.underlying194
  a229 := Tryz.isAgg194
  z229 := Tryz.sizeOf194
  v229 := Tryz.zeroValue194
section
open Go.Sort
variable {w : World} {base g n : Nat} {v : Value}
def upI (zs : List Int) : List Int := zs.mergeSort fun x y => decide (x ≤ y)
theorem upI_len (zs : List Int) : (upI zs).length = zs.length := List.length_mergeSort zs
theorem holds_ints {cur : Array Value} {e : TypeId} {zs : List Int} (hb : w.heap[g]? = some (.cells cur e (0, 0))) (ht : cur.toList.take zs.length = intV zs) : Holds (Value.int .i64) w g 0 zs.toArray := by
  intro j hj
  have hj' : j < zs.length := by simpa using hj
  refine ⟨?_, by simp [World.frozen?, hb]⟩
  have h1 : (cur.toList.take zs.length)[j]? = (intV zs)[j]? := by rw [ht]
  rw [List.getElem?_take_of_lt hj'] at h1
  simp only [World.cell?, hb, Nat.zero_add]
  simp only [Option.isSome_none, Bool.false_eq_true, if_false]
  rw [← Array.getElem?_toList, h1]
  simp [intV, hj']
theorem heap_ints {os : Array Obj} {cur : Array Value} {e : TypeId} {fr : Nat × Nat} (d : Array Int) (hb : w.heap[g]? = some (.cells cur e fr)) :
    (grow (putRow (Value.int .i64) (Sort.ahead w n) g 0 d) os).heap[g]? = some (.cells (putCells (Value.int .i64) 0 d cur) e fr) := by
  have hg : g < w.heap.size := (Array.getElem?_eq_some_iff.1 hb).1
  rw [heap_grow_old _ _ (by simpa using hg)]
  simp [putRow, mapBlock, Sort.ahead, Array.getElem?_modify, hb, onCells]
theorem grown_ints {os : Array Obj} (d : Array Int) : w.grownBy (grow (putRow (Value.int .i64) (Sort.ahead w n) g 0 d) os) (some g) := by
  refine ⟨rfl, rfl, rfl, by simp, fun k hk hne => ?_⟩
  rw [heap_grow_old _ _ (by simpa using hk)]
  have : g ≠ k := fun e => hne (by rw [e])
  simp [putRow, mapBlock, Sort.ahead, Array.getElem?_modify, this]
theorem take_ints (cur : Array Value) (ts : List Int) (h : ts.length ≤ cur.size) : (putCells (Value.int .i64) 0 ts.toArray cur).toList.take ts.length = intV ts := by
  apply List.ext_getElem?
  intro j
  by_cases hj : j < ts.length
  · rw [List.getElem?_take_of_lt hj, Array.getElem?_toList]
    simp [putCells, intV, hj, show j < cur.size by omega]
  · rw [List.getElem?_take_eq_none (by omega), List.getElem?_eq_none (by simp [intV]; omega)]
/-- a list of numbers is sorted where it lies -/
theorem sort_any (zs : List Int) (h : w.ownsRow base 3 1 v zs.length (intV zs)) (hl : zs.length ≤ 100000) (hbase : base ≤ w.heap.size) :
    Calls Tryz.prog 47 #[v] w fun e w' => e = .returned (.tuple #[]) ∧ w'.ownsRow base 3 1 v (upI zs).length (intV (upI zs)) ∧ Below base w w' := by
  rcases h.2 with ⟨hv, h0⟩ | ⟨g, cap, cur, hv, hb, hg, h1, h2, h3, h4⟩
  · subst hv
    have hz : zs = [] := List.eq_nil_of_length_eq_zero h0
    subst hz
    refine (calls_of_every_depth fun D => Go.Proofs.AnyS.slices_Sort_int_none_alone laysSort D none 0 w).mono ?_
    rintro e w' ⟨he, rfl⟩
    exact ⟨he, by rw [show upI [] = [] by simp [upI]]; exact World.ownsRow_nil _ _ _ _, Below.refl _ _⟩
  · subst hv
    rw [Nat.mul_one] at h4
    refine (Go.Proofs.Any.slices_Sort_int laysSort g 0 cap zs w (holds_ints hg h4) (Array.getElem?_eq_some_iff.1 hg).1 (by omega)).mono ?_
    rintro e w' ⟨he, n, os, rfl⟩
    refine ⟨he, ⟨by simp [intV], .inr ⟨g, cap, _, by rw [upI_len], hb, heap_ints _ hg, by rw [upI_len]; exact h1, h2, by simp [putCells, h3], ?_⟩⟩, ?_⟩
    · rw [Nat.mul_one]
      exact take_ints cur (upI zs) (by rw [upI_len]; omega)
    · exact (Below.refl base w).grown (grown_ints _) hbase (fun k hk => by simp only [Option.some.injEq] at hk; omega)
end

end Go.Proofs.YtmflkkkbahghgaaGreat
namespace Go.Proofs.YtmflkkkbahghgaaGreat
open Go.RowKit Go.Deep
set_option linter.unusedVariables false
set_option linter.unusedSimpArgs false
set_option maxRecDepth 100000

/-- the pages of the first frames -/
def pgsF (f : List Frm) : Nat → List Int
  | 0 => []
  | n + 1 => pgsF f n ++ (if fullB (frA f n) then [pgN (frA f n)] else [])
theorem pgsF_len (f : List Frm) (n : Nat) : (pgsF f n).length ≤ n := by
  induction n with
  | zero => exact Nat.le_refl _
  | succ n ih =>
    simp only [pgsF]
    rw [List.length_append]
    split
    · simp; omega
    · simp; omega
theorem QRow.all {F n c i : Nat} {f : List Frm} {u : World} (h : QRow F n f c u) (hi : i < n) : u.rangeAt F (i * 237) (fmL (frA f i)) := by
  intro j x hx
  have hj : j < (fmL (frA f i)).length := (List.getElem?_eq_some_iff.1 hx).1
  rw [List.getElem?_eq_getElem hj, fmL_at] at hx
  rw [fmL_len] at hj
  rw [h.c i hi j hj, ← hx]
  rfl
section
variable {PM : StM} {PF PC : FlM} {base D P Y F c : Nat} {p : Plt} {S : Nat → Bool} {u : World}
set_option maxHeartbeats 1600000 in
theorem qCount_any (h : PqAt PM base D P Y F c p S u) (hl : p.f.length ≤ 32) : Calls Tryz.prog 18 #[.pointer (some ⟨Y, 0, none⟩)] u fun r u' => (∃ m : Int, r = .returned (.tuple #[.int .i64 (p.f.length : Int), .int .i64 m, .int .i64 (heldF p.f : Int)])) ∧ u' = u := by
  have HA := Lib.hid (qall_any h)
  have H1 := Lib.hid (qmany_any h hl (ask_empty h.row))
  have H2 := Lib.hid (qmany_any h hl (ask_held h.row))
  rw [show cntB (heldB p.f) p.f.length = heldF p.f from rfl] at H2
  have hc := cntB_le (fun k => !fullB (frA p.f k)) p.f.length
  clear h
  generalize cntB (fun k => !fullB (frA p.f k)) p.f.length = m at *
  go_enter Tryz.func18, Tryz.ntmps18
  go_wp2_with fail
  refine (HA.out).mono ?_
  rintro r w1 ⟨rfl, hw⟩
  subst hw
  go_wp2_with fail
  refine (H1.out).mono ?_
  rintro r w1 ⟨rfl, hw⟩
  subst hw
  go_wp2_with fail
  refine (H2.out).mono ?_
  rintro r w1 ⟨rfl, hw⟩
  subst hw
  go_wp2_with fail
  go_ret3
  exact ⟨⟨_, rfl⟩, rfl⟩
set_option maxHeartbeats 3200000 in
theorem qPages_any (I : Sh14 PM PF PC) (h : PqAt PM base D P Y F c p S u) (hl : p.f.length ≤ 32) (hbase : base ≤ u.heap.size) : Calls Tryz.prog 14 #[.pointer (some ⟨Y, 0, none⟩)] u fun r u' => ∃ v, r = .returned v ∧ u'.ownsRow u.heap.size 3 1 v (upI (pgsF p.f p.f.length)).length (intV (upI (pgsF p.f p.f.length))) ∧ Below u.heap.size u u' := by
  obtain ⟨i0, hi0, hz0, hz1, hz2⟩ := info_parts infoInt12
  have HA := Lib.hid (qall_any h)
  have H := Lib.hid h
  have HI := Lib.hid I
  have HL := Lib.hid hl
  clear h I hl
  go_enter Tryz.func14, Tryz.ntmps14
  go_wp2_with fail
  refine (HA.out).mono ?_
  rintro r w1 ⟨rfl, hw⟩
  subst hw
  clear HA
  go_wp2_with fail
  go_loopw [3, 9] (fun v i wr => ∃ j : Nat, j ≤ p.f.length ∧ i = .int .i64 j ∧ Hid (wr.ownsRow w1.heap.size 3 1 v (pgsF p.f j).length (intV (pgsF p.f j))) ∧ Hid (Below w1.heap.size w1 wr)) (fun _ i _ => p.f.length - (intOf i).toNat)
  case atStart => exact ⟨0, Nat.zero_le _, rfl, Lib.hid ⟨by simp [intV, pgsF], .inl ⟨rfl, rfl⟩⟩, Lib.hid (Below.refl _ _)⟩
  case round =>
    obtain ⟨j, hj, rfl, HO, HB⟩ := hrel
    by_cases hlt : j < p.f.length
    · have d1 : decide ((j : Int) < (p.f.length : Int)) = true := decide_eq_true (by omega)
      have hj1 : (j : Int) < (p.f.length : Int) := by omega
      have hj2 : (0 : Int) ≤ (j : Int) := by omega
      have HR := Lib.hid ((H.out.below HI.out HB.out).row)
      have hrg := QRow.all HR.out hlt
      have hz : (Tryz.prog.info? 82).map (·.size) = some (fmL (frA p.f j)).length := by rw [size_frm, fmL_len]
      have e0 : (fmL (frA p.f j))[0]? = some (.bool (fullB (frA p.f j))) := by rw [List.getElem?_eq_getElem (by rw [fmL_len]; omega), fmL_at]; rfl
      have e1 : (fmL (frA p.f j))[1]? = some (.int .i64 (pgN (frA p.f j))) := by rw [List.getElem?_eq_getElem (by rw [fmL_len]; omega), fmL_at]; rfl
      have hLn := fmL_len (frA p.f j)
      have h1 := all_oneCell_toArray (fmL_one (frA p.f j))
      generalize fmL (frA p.f j) = L at *
      have hLs : L.toArray.size = 237 := by simpa using hLn
      have hza : (Tryz.prog.info? 82).map (·.size) = some L.toArray.size := by rw [hLs]; exact size_frm
      have hzc : (Tryz.zeroCells82).size = 237 := by kernel_rfl
      have ht : (wr.alloc (.cells Tryz.zeroCells82 82)).there wr.heap.size 0 L.toArray.size := fun k hk => by
        rw [hLs] at hk
        have hx := heap_alloc_new wr (.cells Tryz.zeroCells82 82)
        refine ⟨?_, Lib.frozen_of_heap hx _⟩
        rw [Lib.cell_of_heap hx, Nat.zero_add, Array.getElem?_eq_getElem (by rw [hzc]; exact hk)]
        rfl
      have BA := Lib.hid (balloc wr (.cells Tryz.zeroCells82 82))
      have SA := Lib.hid (World.size_alloc wr (.cells Tryz.zeroCells82 82))
      obtain ⟨w2, hw2⟩ : ∃ w2, w2 = (wr.alloc (.cells Tryz.zeroCells82 82)).setCells wr.heap.size 0 L.toArray.toList := ⟨_, rfl⟩
      have RG := World.rangeAt_setCells_same (wr.alloc (.cells Tryz.zeroCells82 82)) wr.heap.size 0 L.toArray.toList (by simpa [hLn, hLs] using ht)
      rw [← hw2] at RG
      have B2 : Hid (Below wr.heap.size wr w2) := Lib.hid (by
        rw [hw2]
        have := KpS.sets (O1.a wr.heap.size) L.toArray.toList 0 (wr.alloc (.cells Tryz.zeroCells82 82))
        exact BA.out.trans (this.bot (by rw [SA.out]; omega) fun k hk => O1.no (by omega)))
      have c0 : w2.cell? ⟨wr.heap.size, 0, none⟩ = some (.bool (fullB (frA p.f j))) := by have := RG 0 _ (by simpa using e0); exact this
      have c1 : w2.cell? ⟨wr.heap.size, 1, none⟩ = some (.int .i64 (pgN (frA p.f j))) := by have := RG 1 _ (by simpa using e1); exact this
      have HW2 := Lib.hid hw2
      clear hw2 RG e0 e1 hLn
      go_upto_region 5 with (first | refine wpList_load_mid rfl 82 _ rfl F (j * 237) rfl L _ hrg Tryz.underlying82 rfl hz ?_ | refine wpList_store_mid rfl 82 _ _ rfl wr.heap.size 0 L.toArray rfl rfl ht hza h1 ?_)
      rw [← HW2.out]
      clear HW2 hza hzc ht h1 hLs hrg hz BA SA
      have hlen := pgsF_len p.f j
      have hl32 := HL.out
      have O2 := Lib.hid (own_below HO.out B2.out)
      have W2 := Lib.hid (HB.out.trans (B2.out.mono HB.out.size))
      have EP : Hid (pgsF p.f (j + 1) = pgsF p.f j ++ (if fullB (frA p.f j) then [pgN (frA p.f j)] else [])) := Lib.hid rfl
      generalize pgN (frA p.f j) = z at *
      cases hb : fullB (frA p.f j) with
      | true =>
        rw [hb, if_pos rfl] at EP
        rw [hb] at c0
        generalize wr.heap.size = C at *
        have B3 := balloc w2 (.cells #[.int .i64 z] 3)
        have O3 := Lib.hid (own_below O2.out B3)
        have W3 := Lib.hid (W2.out.trans (B3.mono W2.out.size))
        have SZ := Lib.hid (Nat.le_trans W2.out.size B3.size)
        have hone := lit_cells12 w2 (.int .i64 z)
        clear B3
        go_wp2_with (at_builtin; refine wpList_append_own _ rfl _ _ 38 rfl w1.heap.size 3 i0 (.int .i64 0) 1 8 Tryz.underlying38 hi0 hz0 hz1 hz2 rfl (by decide) _ (pgsF p.f j).length _ rfl O3.out ⟨w2.heap.size, 0, none⟩ 1 1 [.int .i64 z] rfl rfl hone (by intro q hq; simp only [List.mem_cons, List.not_mem_nil, or_false] at hq; subst hq; rfl) (by unfold maxLen; omega) (by omega) SZ.out ?_)
        intro v4 w4 ho4 hg4 _
        have O4 : Hid (w4.ownsRow w1.heap.size 3 1 v4 (pgsF p.f (j + 1)).length (intV (pgsF p.f (j + 1)))) := Lib.hid (by
          rw [EP.out, List.length_append, List.length_singleton]
          unfold intV at ho4 ⊢
          rw [List.map_append]
          exact ho4)
        have W4 := Lib.hid (W3.out.trans ((Below.refl _ _).grown hg4 SZ.out (fun g hg => (O3.out.lt g hg).1)))
        clear ho4 hg4
        go_wp2_with fail
        go_roundw
        case rel => exact ⟨j + 1, hlt, by go_num, O4, W4⟩
        case measure => simp [intOf]; omega
      | false =>
        rw [hb, if_neg (by decide), List.append_nil] at EP
        rw [hb] at c0
        have O4 : Hid (w2.ownsRow w1.heap.size 3 1 u3 (pgsF p.f (j + 1)).length (intV (pgsF p.f (j + 1)))) := Lib.hid (by
          rw [EP.out]
          exact O2.out)
        generalize wr.heap.size = C at *
        go_wp2_with fail
        go_roundw
        case rel => exact ⟨j + 1, hlt, by go_num, O4, W2⟩
        case measure => simp [intOf]; omega
    · have d1 : decide ((j : Int) < (p.f.length : Int)) = false := decide_eq_false (by omega)
      obtain rfl : j = p.f.length := by omega
      have hlen := pgsF_len p.f p.f.length
      have HS := Lib.hid (sort_any (pgsF p.f p.f.length) HO.out (by have := HL.out; omega) HB.out.size)
      clear hlen
      go_wp2_with fail
      refine (HS.out).mono ?_
      rintro r w3 ⟨rfl, o3, b3⟩
      have O3 := Lib.hid o3
      have B3 := Lib.hid (HB.out.trans b3)
      clear o3 b3 HS
      go_wp2_with fail
      go_ret
      exact ⟨_, rfl, O3.out, B3.out⟩
end
end Go.Proofs.YtmflkkkbahghgaaGreat
