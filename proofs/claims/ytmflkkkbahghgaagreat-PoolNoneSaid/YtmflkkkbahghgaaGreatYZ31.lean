/- The contract of the document's New (of a pool). The contracts of the program's of, New, Of. The contract of the document's Ints, at any two lists. How both pools begin, and what must come at any rate (awake). -/
import Derived.OwnWalk
import Derived.Test.YtmflkkkbahghgaaGreatYZ27
import Derived.Test.YtmflkkkbahghgaaGreatYZ10
import Derived.Test.YtmflkkkbahghgaaGreatYZ0
import Derived.Test.YtmflkkkbahghgaaGreatYZ5
import Derived.Test.YtmflkkkbahghgaaGreatYZ9
import Derived.Test.YtmflkkkbahghgaaGreatYQPqDo
import Derived.Test.YtmflkkkbahghgaaGreatYZ24
namespace Go.Proofs.YtmflkkkbahghgaaGreat
open Go.RowKit Go.Deep
set_option linter.unusedVariables false
set_option linter.unusedSimpArgs false
set_option maxRecDepth 100000

theorem litFrame (w : World) (x : Frm) : ∀ j v, (frL x)[j]? = some v → (w.alloc (frC x)).cell? ((⟨w.heap.size, 0, none⟩ : Addr).add j) = some v := by
  intro j v hj
  rw [add_plain, Lib.cell_of_heap (heap_alloc_new w _), Nat.zero_add]
  rw [show (#[Value.int .i64 x.pg, .string x.b, .int .i64 (x.held : Int), .bool x.di, .bool x.us] : Array Value) = (frL x).toArray from rfl, List.getElem?_toArray]
  exact hj
theorem frA_rep (n i : Nat) : frA (List.replicate n noF) i = noF := by
  unfold frA
  rw [List.getD_eq_getElem?_getD, List.getElem?_replicate]
  split <;> rfl
theorem repG_row (n k : Nat) : rowCells 5 (frG (List.replicate n noF)) k ++ frL noF = rowCells 5 (frG (List.replicate n noF)) (k + 1) := by
  have := frG_row (List.replicate n noF) k
  rwa [frA_rep] at this
section
variable {base Q : Nat} {x : Stt} {u : World}
set_option maxHeartbeats 3200000 in
theorem rnew15_any (h : RSh base Q x u) (hbase : base ≤ u.heap.size) (n : Nat) (hn : n ≤ 32) : Calls Tryz.prog 29 #[.pointer (some ⟨Q, 0, none⟩), .int .i64 (n : Int)] u fun r u' => ∃ R, r = .returned (.pointer (some ⟨R, 0, none⟩)) ∧ RPl base Q R ⟨x, List.replicate n noF, 0⟩ u' ∧ Below u.heap.size u u' ∧ u.heap.size ≤ R := by
  obtain ⟨i0, hi0, hz0, hz1, hz2⟩ := info_parts infoFrame15
  have H := Lib.hid h
  have HBASE := Lib.hid hbase
  clear h hbase
  go_enter Tryz.func29, Tryz.ntmps29
  go_upto_region 2 with fail
  obtain ⟨R, hR⟩ : ∃ R, R = u.heap.size := ⟨_, rfl⟩
  have X0 := Lib.hid (heap_alloc_new u (.cells #[.pointer (some ⟨Q, 0, none⟩), .slice none 0 0, .int .i64 0] 42))
  have B0 := Lib.hid (balloc u (.cells #[.pointer (some ⟨Q, 0, none⟩), .slice none 0 0, .int .i64 0] 42))
  rw [← hR] at X0 ⊢
  have HR := Lib.hid hR
  clear hR
  generalize u.alloc (.cells #[.pointer (some ⟨Q, 0, none⟩), .slice none 0 0, .int .i64 0] 42) = u1 at *
  go_wp2_with fail
  go_loopw [6] (fun i wr => ∃ (k : Nat) (v : Value), k ≤ n ∧ i = .int .i64 k ∧ Hid (wr.heap[R]? = some (.cells #[.pointer (some ⟨Q, 0, none⟩), v, .int .i64 0] 42 (0, 0))) ∧ Hid (wr.ownsRow (R + 1) 44 5 v k (rowCells 5 (frG (List.replicate n noF)) k)) ∧ Hid (Below u.heap.size u wr)) (fun i _ => n - (intOf i).toNat)
  case atStart => exact ⟨0, _, Nat.zero_le _, rfl, X0, Lib.hid (by rw [rowCells_zero]; exact ⟨by simp, .inl ⟨rfl, rfl⟩⟩), B0⟩
  case round =>
    obtain ⟨k, v, hk, rfl, HX, HO, HB⟩ := hrel
    by_cases hlt : k < n
    · have d1 : decide ((k : Int) < (n : Int)) = true := decide_eq_true (by omega)
      have LR : Hid (R < wr.heap.size) := Lib.hid (lt_of_block HX.out)
      have BA := Lib.hid (balloc wr (frC noF))
      have O1 := Lib.hid (own_below HO.out BA.out)
      have XA := Lib.hid ((BA.out.block R LR.out).trans HX.out)
      have SZ : Hid (R + 1 ≤ (wr.alloc (frC noF)).heap.size) := Lib.hid (by have := BA.out.size; have := LR.out; omega)
      have c0 : wr.cell? ⟨R, 1, none⟩ = some v := by rw [Lib.cell_of_heap HX.out]; rfl
      have c1 : (wr.alloc (frC noF)).cell? ⟨R, 1, none⟩ = some v := by rw [Lib.cell_of_heap XA.out]; rfl
      have ER := Lib.hid (repG_row n k)
      go_wp2_with (at_builtin; refine wpList_append_own _ rfl _ _ 40 rfl (R + 1) 44 i0 (.agg #[.int .i64 0, .string ByteArray.empty, .int .i64 0, .bool false, .bool false]) 5 40 Tryz.underlying40 hi0 hz0 hz1 hz2 rfl (by decide) _ k _ rfl O1.out ⟨wr.heap.size, 0, none⟩ 1 1 (frL noF) rfl rfl (litFrame wr noF) (frL_one _) (by unfold maxLen; omega) (by omega) SZ.out ?_)
      intro v4 w4 ho4 hg4 _
      rw [ER.out] at ho4
      obtain ⟨a5, c5, rfl, _⟩ := own_form ho4
      have O4 := Lib.hid ho4
      have G4 : Hid (Below (R + 1) (wr.alloc (frC noF)) w4) := Lib.hid ((Below.refl _ _).grown hg4 SZ.out (fun g hg => (O1.out.lt g hg).1))
      have X4 := Lib.hid ((G4.out.block R (Nat.lt_succ_self R)).trans XA.out)
      have fz := Lib.frozen_of_heap X4.out 1
      have c4 : w4.cell? ⟨R, 1, none⟩ = some v := by rw [Lib.cell_of_heap X4.out]; rfl
      have X5 := Lib.hid (Joins.block_setCell (i := 1) X4.out (.slice a5 (k + 1) c5))
      have B5 : Hid (Below u.heap.size u (w4.setCell ⟨R, 1, none⟩ (.slice a5 (k + 1) c5))) := Lib.hid (by
        have h1 : Below u.heap.size u (wr.alloc (frC noF)) := HB.out.trans (Below.mono BA.out HB.out.size)
        have h2 : Below u.heap.size u w4 := h1.trans (Below.mono G4.out (by have := HR.out; omega))
        exact h2.setCell (p := ⟨R, 1, none⟩) (by have := HR.out; show u.heap.size ≤ R; omega) _)
      have O5 : Hid ((w4.setCell ⟨R, 1, none⟩ (.slice a5 (k + 1) c5)).ownsRow (R + 1) 44 5 (.slice a5 (k + 1) c5) (k + 1) (rowCells 5 (frG (List.replicate n noF)) (k + 1))) := Lib.hid (own_kept O4.out fun g hg => set_else12 _ (by have := ((GRow.of O4.out).lo g hg).1; omega))
      clear ho4 hg4 c1
      go_wp2_with fail
      go_roundw
      case rel => exact ⟨k + 1, _, by omega, by go_num, X5, O5, B5⟩
      case measure => simp [intOf]; omega
    · have d1 : decide ((k : Int) < (n : Int)) = false := decide_eq_false (by omega)
      obtain rfl : k = n := by omega
      have FR : Hid (FRow (R + 1) (List.replicate k noF) v wr) := Lib.hid (by
        have := GRow.of HO.out
        unfold FRow
        rw [List.length_replicate]
        exact this)
      have FF : Hid (RPl base Q R ⟨x, List.replicate k noF, 0⟩ wr) := Lib.hid (by
        have hs := H.out.below HB.out
        have nq : ∀ j, Rs Q wr j → j < R := fun j hj => by
          have := (H.out.rlt (rs_same (HB.out.block Q H.out.lt) hj)).2
          have := HR.out
          omega
        have hv : ∀ j, v.ownBlock = some j → R + 1 ≤ j := fun j hj => (FR.out.lo j hj).1
        refine ⟨hs, ⟨v, HX.out, FR.out.mono (by have := HBASE.out; have := HR.out; omega), fun h9 => by have := hv R h9; omega, fun j hj h9 => by have := hv j hj; have := nq j h9; omega⟩, fun h9 => by have := nq R h9; omega, by have := HBASE.out; have := HR.out; omega⟩)
      go_wp2_with fail
      go_ret
      exact ⟨R, rfl, FF.out, HB.out, by have := HR.out; omega⟩
end
end Go.Proofs.YtmflkkkbahghgaaGreat
namespace Go.Proofs.YtmflkkkbahghgaaGreat
open Go.RowKit Go.Deep Go.Maps
set_option linter.unusedVariables false
set_option linter.unusedSimpArgs false
set_option maxRecDepth 100000

theorem info_sec : (Tryz.prog.info? 129).map (fun i => (i.zero, i.size, i.bytes)) = some (some (.agg (secV fun _ => 0).toArray), 64, 64) := by kernel_rfl
theorem made_rows (n : Nat) : (madeCells (secV fun _ => 0).toArray (n * 64)).toList = rowCells 64 (gB fun _ _ => 0) n := by
  unfold madeCells rowCells
  rw [Array.toList_map, Array.toList_range]
  apply List.map_congr_left
  intro k hk
  rw [secV_size]
  have h := secV_at? (fun _ => 0) (j := k % 64) (Nat.mod_lt _ (by omega))
  simp only [gB]
  rw [getElem!_def]
  simp only [List.getElem?_toArray, h]
variable {base P bS bm cS : Nat} {d : Dk} {u : World}
theorem nowD_new (n : Nat) : nowD (newD n) = fun _ _ => 0 := by funext i j; simp [nowD, newD]
set_option maxHeartbeats 1600000 in
theorem pof_any (n : Nat) (hn : 1 ≤ n) (hn2 : n ≤ 4096) (u : World) : Calls Tryz.prog 60 #[.int .i64 (n : Int)] u fun r u' => ∃ P bS bm cS, r = .returned (.pointer (some ⟨P, 0, none⟩)) ∧ PDk u.heap.size P bS bm cS (newD n) u' ∧ Below u.heap.size u u' := by
  obtain ⟨i0, hi, hz0, hz1, hz2⟩ := info_parts info_sec
  have hmm := @run_makeMap Tryz.prog
  go_enter Tryz.func60, Tryz.ntmps60
  go_wp2_with (at_make; refine wpList_make_full _ rfl _ _ _ rfl u.heap.size 129 i0 (.agg (secV fun _ => 0).toArray) 64 Tryz.underlying119 hi hz0 hz1 .i64 .i64 _ _ n rfl rfl (by omega) (by omega) (by rw [hz2]; omega) (by unfold maxLen; omega) (Nat.le_refl _) ?_)
  intro w2 hown hgr
  rw [made_rows] at hown
  obtain ⟨b, q1, q2, q3⟩ := RowB.of hown (by omega)
  simp only [Value.ownBlock, Option.some.injEq] at q2
  subst q2
  have HB := Lib.hid ((Below.refl u.heap.size u).grown hgr (Nat.le_refl _) (by simp))
  have HR := Lib.hid q3
  have X1 := Lib.hid (heap_alloc_new w2 (.map #[] 0))
  have B1 := Lib.hid (balloc w2 (.map #[] 0))
  have S1 := Lib.hid (show (w2.alloc (.map #[] 0)).heap.size = w2.heap.size + 1 from World.size_alloc _ _)
  have X2 := Lib.hid (heap_alloc_new (w2.alloc (.map #[] 0)) (.cells #[.slice (some ⟨u.heap.size, 0, none⟩) n n, .map (some w2.heap.size), .int .i64 0, .int .i64 0, .bool false] 122))
  have B2 := Lib.hid (balloc (w2.alloc (.map #[] 0)) (.cells #[.slice (some ⟨u.heap.size, 0, none⟩) n n, .map (some w2.heap.size), .int .i64 0, .int .i64 0, .bool false] 122))
  clear hown hgr q1 q3
  go_wp2_with fail
  go_ret
  refine ⟨w2.heap.size + 1, u.heap.size, w2.heap.size, n, rfl, ?_, HB.out.trans ((B1.out.mono HB.out.size).trans (B2.out.mono (Nat.le_trans HB.out.size B1.out.size)))⟩
  have X2' := X2.out
  have B2' := B2.out
  rw [S1.out] at X2' B2'
  refine ⟨X2', ?_, MpD.none ((B2'.block _ (by omega)).trans X1.out) fun _ => rfl, by have := HB.out.size; omega, Nat.le_refl _, HB.out.size⟩
  rw [nowD_new]
  have hl := HR.out.lt
  exact (HR.out.kept (B1.out.block _ hl)).kept (B2'.block _ (by omega))
theorem pnew_any (n : Nat) (hn : 1 ≤ n) (hn2 : n ≤ 4096) (u : World) : Calls Tryz.prog 22 #[.int .i64 (n : Int)] u fun r u' => ∃ P bS bm cS, r = .returned (.tuple #[.pointer (some ⟨P, 0, none⟩), .int .i64 0]) ∧ PDk u.heap.size P bS bm cS (newD n) u' ∧ Below u.heap.size u u' := by
  have H := Lib.hid (pof_any n hn hn2 u)
  have d1 : decide ((n : Int) < 1) = false := by simp; omega
  have d2 : decide (4096 < (n : Int)) = false := by simp; omega
  go_enter Tryz.func22, Tryz.ntmps22
  go_wp2_with fail
  refine (H.out).mono ?_
  rintro e w1 ⟨P, bS, bm, cS, rfl, r1, k1⟩
  have R1 := Lib.hid r1
  have K1 := Lib.hid k1
  clear r1 k1
  go_wp2_with fail
  go_ret2
  exact ⟨P, bS, bm, cS, rfl, R1.out, K1.out⟩

end Go.Proofs.YtmflkkkbahghgaaGreat
namespace Go.Proofs.YtmflkkkbahghgaaGreat
open Go.RowKit
set_option linter.unusedVariables false

set_option maxHeartbeats 1600000 in
theorem ints5_any (f g : Nat → Int) (n m : Nat) (v1 v2 : Value) (w : World) (h1 : Sl 1 (gW f) n v1 w) (h2 : Sl 1 (gW g) m v2 w) :
    Calls Tryz.prog 30 #[v1, v2] w fun e w' => e = .returned (.bool (sameW f g n m)) ∧ Below w.heap.size w w' := by
  obtain ⟨a1, c1, rfl, l1, m1, k1⟩ := h1
  obtain ⟨a2, c2, rfl, l2, m2, k2⟩ := h2
  have K1 := Lib.hid k1
  have K2 := Lib.hid k2
  clear k1 k2
  have E : Hid (sameW f g n m = (decide (n = m) && allN (fun i => decide (f i = g i)) n)) := rfl
  have EP : Hid (∀ i, (fun i => decide (f i = g i)) i = decide (f i = g i)) := fun i => rfl
  generalize sameW f g n m = s at *
  generalize (fun i => decide (f i = g i)) = p at *
  go_enter Tryz.func30, Tryz.ntmps30
  by_cases hnm : n = m
  · subst hnm
    have E2 : Hid (s = allN p n) := by show _ = _; rw [E.out]; simp
    clear E
    go_wp2_with fail
    go_loopw [5] (fun i wr => ∃ j : Nat, j ≤ n ∧ i = .int .i64 j ∧ allN p j = true ∧ Below w.heap.size w wr) (fun i _ => n - (intOf i).toNat)
    case atStart => exact ⟨0, by omega, rfl, rfl, Below.refl _ _⟩
    case round =>
      obtain ⟨j, hj, rfl, hall, hl⟩ := hrel
      have HL := Lib.hid hl
      have HAll := Lib.hid hall
      clear hall
      by_cases hlt : j < n
      · obtain ⟨b1, o1, rfl, hA1⟩ := K1.out (by omega)
        obtain ⟨b2, o2, rfl, hA2⟩ := K2.out (by omega)
        have hj2 : (j : Int) < (n : Int) := by omega
        have hj0 : (0 : Int) ≤ (j : Int) := by omega
        have y1 := (hA1.below hl).one j hlt
        have y2 := (hA2.below hl).one j hlt
        dsimp only [gW] at y1 y2
        have e := EP.out j
        generalize f j = x at y1 e
        generalize g j = y at y2 e
        clear hl hA1 hA2
        by_cases hxy : x = y
        · have hz : (x != y) = false := by simpa using hxy
          have HP : Hid (p j = true) := by show _ = _; rw [e]; simp [hxy]
          clear e hxy
          go_wp2_with fail
          refine wp_region_held_drew (S := (fun w' => w'.cell? ⟨b1, o1 + j, none⟩ = some (.int .i64 x) ∧ w'.cell? ⟨b2, o2 + j, none⟩ = some (.int .i64 y))) (by kernel_rfl) ?_ (fun hHeld => ?_)
          · exact ⟨y1, y2⟩
          first
            | refine tk0 0 (oi := ⟨_, _, _, _, _, _⟩) rfl ?_
            | refine tk1 0 (oi := ⟨_, _, _, _, _, _⟩) (v := ?_) rfl ?_ ?_; rotate_left; · (intro w5 hSw; (try dsimp only at hSw); go_simp; (try with_reducible rfl))
          try simp only [Act.put, List.setIfInBounds_toArray, List.set_cons_zero, List.set_cons_succ]
          first
            | refine tk0 1 (oi := ⟨_, _, _, _, _, _⟩) rfl ?_
            | refine tk1 1 (oi := ⟨_, _, _, _, _, _⟩) (v := ?_) rfl ?_ ?_; rotate_left; · (intro w5 hSw; (try dsimp only at hSw); go_simp; (try with_reducible rfl))
          try simp only [Act.put, List.setIfInBounds_toArray, List.set_cons_zero, List.set_cons_succ]
          first
            | refine tk0 2 (oi := ⟨_, _, _, _, _, _⟩) rfl ?_
            | refine tk1 2 (oi := ⟨_, _, _, _, _, _⟩) (v := ?_) rfl ?_ ?_; rotate_left; · (intro w5 hSw; (try dsimp only at hSw); go_simp; (try with_reducible rfl))
          try simp only [Act.put, List.setIfInBounds_toArray, List.set_cons_zero, List.set_cons_succ]
          first
            | refine tk0 3 (oi := ⟨_, _, _, _, _, _⟩) rfl ?_
            | refine tk1 3 (oi := ⟨_, _, _, _, _, _⟩) (v := ?_) rfl ?_ ?_; rotate_left; · (intro w5 hSw; (try dsimp only at hSw); go_simp; (try with_reducible rfl))
          try simp only [Act.put, List.setIfInBounds_toArray, List.set_cons_zero, List.set_cons_succ]
          first
            | refine tk0 4 (oi := ⟨_, _, _, _, _, _⟩) rfl ?_
            | refine tk1 4 (oi := ⟨_, _, _, _, _, _⟩) (v := ?_) rfl ?_ ?_; rotate_left; · (intro w5 hSw; (try dsimp only at hSw); go_simp; (try with_reducible rfl))
          try simp only [Act.put, List.setIfInBounds_toArray, List.set_cons_zero, List.set_cons_succ]
          first
            | refine tk0 5 (oi := ⟨_, _, _, _, _, _⟩) rfl ?_
            | refine tk1 5 (oi := ⟨_, _, _, _, _, _⟩) (v := ?_) rfl ?_ ?_; rotate_left; · (intro w5 hSw; (try dsimp only at hSw); go_simp; (try with_reducible rfl))
          try simp only [Act.put, List.setIfInBounds_toArray, List.set_cons_zero, List.set_cons_succ]
          first
            | refine tk0 6 (oi := ⟨_, _, _, _, _, _⟩) rfl ?_
            | refine tk1 6 (oi := ⟨_, _, _, _, _, _⟩) (v := ?_) rfl ?_ ?_; rotate_left; · (intro w5 hSw; (try dsimp only at hSw); go_simp; (try with_reducible rfl))
          try simp only [Act.put, List.setIfInBounds_toArray, List.set_cons_zero, List.set_cons_succ]
          first
            | refine tk0 7 (oi := ⟨_, _, _, _, _, _⟩) rfl ?_
            | refine tk1 7 (oi := ⟨_, _, _, _, _, _⟩) (v := ?_) rfl ?_ ?_; rotate_left; · (intro w5 hSw; (try dsimp only at hSw); go_simp; (try with_reducible rfl))
          try simp only [Act.put, List.setIfInBounds_toArray, List.set_cons_zero, List.set_cons_succ]
          first
            | refine tk0 8 (oi := ⟨_, _, _, _, _, _⟩) rfl ?_
            | refine tk1 8 (oi := ⟨_, _, _, _, _, _⟩) (v := ?_) rfl ?_ ?_; rotate_left; · (intro w5 hSw; (try dsimp only at hSw); go_simp; (try with_reducible rfl))
          try simp only [Act.put, List.setIfInBounds_toArray, List.set_cons_zero, List.set_cons_succ]
          refine wpAnyH_done (by kernel_rfl) ?_ _
          go_wp2_with fail
          go_roundw
          case rel => exact ⟨j + 1, by omega, by go_num, allN_step HAll.out HP.out, bthen HL.out (bdrew _)⟩
          case measure => simp [intOf]; omega
        · have hz : (x != y) = true := by simpa using hxy
          have HP : Hid (p j = false) := by show _ = _; rw [e]; simp [hxy]
          clear e hxy
          go_wp2_with fail
          refine wp_region_held_drew (S := (fun w' => w'.cell? ⟨b1, o1 + j, none⟩ = some (.int .i64 x) ∧ w'.cell? ⟨b2, o2 + j, none⟩ = some (.int .i64 y))) (by kernel_rfl) ?_ (fun hHeld => ?_)
          · exact ⟨y1, y2⟩
          first
            | refine tk0 0 (oi := ⟨_, _, _, _, _, _⟩) rfl ?_
            | refine tk1 0 (oi := ⟨_, _, _, _, _, _⟩) (v := ?_) rfl ?_ ?_; rotate_left; · (intro w5 hSw; (try dsimp only at hSw); go_simp; (try with_reducible rfl))
          try simp only [Act.put, List.setIfInBounds_toArray, List.set_cons_zero, List.set_cons_succ]
          first
            | refine tk0 1 (oi := ⟨_, _, _, _, _, _⟩) rfl ?_
            | refine tk1 1 (oi := ⟨_, _, _, _, _, _⟩) (v := ?_) rfl ?_ ?_; rotate_left; · (intro w5 hSw; (try dsimp only at hSw); go_simp; (try with_reducible rfl))
          try simp only [Act.put, List.setIfInBounds_toArray, List.set_cons_zero, List.set_cons_succ]
          first
            | refine tk0 2 (oi := ⟨_, _, _, _, _, _⟩) rfl ?_
            | refine tk1 2 (oi := ⟨_, _, _, _, _, _⟩) (v := ?_) rfl ?_ ?_; rotate_left; · (intro w5 hSw; (try dsimp only at hSw); go_simp; (try with_reducible rfl))
          try simp only [Act.put, List.setIfInBounds_toArray, List.set_cons_zero, List.set_cons_succ]
          first
            | refine tk0 3 (oi := ⟨_, _, _, _, _, _⟩) rfl ?_
            | refine tk1 3 (oi := ⟨_, _, _, _, _, _⟩) (v := ?_) rfl ?_ ?_; rotate_left; · (intro w5 hSw; (try dsimp only at hSw); go_simp; (try with_reducible rfl))
          try simp only [Act.put, List.setIfInBounds_toArray, List.set_cons_zero, List.set_cons_succ]
          first
            | refine tk0 4 (oi := ⟨_, _, _, _, _, _⟩) rfl ?_
            | refine tk1 4 (oi := ⟨_, _, _, _, _, _⟩) (v := ?_) rfl ?_ ?_; rotate_left; · (intro w5 hSw; (try dsimp only at hSw); go_simp; (try with_reducible rfl))
          try simp only [Act.put, List.setIfInBounds_toArray, List.set_cons_zero, List.set_cons_succ]
          first
            | refine tk0 5 (oi := ⟨_, _, _, _, _, _⟩) rfl ?_
            | refine tk1 5 (oi := ⟨_, _, _, _, _, _⟩) (v := ?_) rfl ?_ ?_; rotate_left; · (intro w5 hSw; (try dsimp only at hSw); go_simp; (try with_reducible rfl))
          try simp only [Act.put, List.setIfInBounds_toArray, List.set_cons_zero, List.set_cons_succ]
          first
            | refine tk0 6 (oi := ⟨_, _, _, _, _, _⟩) rfl ?_
            | refine tk1 6 (oi := ⟨_, _, _, _, _, _⟩) (v := ?_) rfl ?_ ?_; rotate_left; · (intro w5 hSw; (try dsimp only at hSw); go_simp; (try with_reducible rfl))
          try simp only [Act.put, List.setIfInBounds_toArray, List.set_cons_zero, List.set_cons_succ]
          first
            | refine tk0 7 (oi := ⟨_, _, _, _, _, _⟩) rfl ?_
            | refine tk1 7 (oi := ⟨_, _, _, _, _, _⟩) (v := ?_) rfl ?_ ?_; rotate_left; · (intro w5 hSw; (try dsimp only at hSw); go_simp; (try with_reducible rfl))
          try simp only [Act.put, List.setIfInBounds_toArray, List.set_cons_zero, List.set_cons_succ]
          first
            | refine tk0 8 (oi := ⟨_, _, _, _, _, _⟩) rfl ?_
            | refine tk1 8 (oi := ⟨_, _, _, _, _, _⟩) (v := ?_) rfl ?_ ?_; rotate_left; · (intro w5 hSw; (try dsimp only at hSw); go_simp; (try with_reducible rfl))
          try simp only [Act.put, List.setIfInBounds_toArray, List.set_cons_zero, List.set_cons_succ]
          refine wpAnyH_done (by kernel_rfl) ?_ _
          go_wp2_with fail
          go_ret
          exact ⟨by rw [E2.out, allN_false hlt HP.out]; rfl, bthen HL.out (bdrew _)⟩
      · obtain rfl : n = j := by omega
        clear hl
        go_wp2_with fail
        go_ret
        exact ⟨by rw [E2.out, HAll.out]; rfl, HL.out⟩
  · have hz : ((n : Int) != (m : Int)) = true := by simp; omega
    have E2 : Hid (s = false) := by show _ = _; rw [E.out]; simp [hnm]
    clear E hnm
    go_wp2_with fail
    go_ret
    exact ⟨by rw [E2.out]; rfl, Below.refl _ _⟩

end Go.Proofs.YtmflkkkbahghgaaGreat
namespace Go.Proofs.YtmflkkkbahghgaaGreat
open Go.RowKit Go.Deep
set_option linter.unusedVariables false
set_option linter.unusedSimpArgs false
set_option maxRecDepth 100000

theorem RPl.mono {base base2 Q R : Nat} {p : Plt} {u : World} (h : RPl base Q R p u) (hb : base2 ≤ base) : RPl base2 Q R p u := by
  obtain ⟨v, e, hf, n1, n2⟩ := h.box
  exact ⟨h.st.mono hb, ⟨v, e, GRow.mono hf hb, n1, n2⟩, h.ap, Nat.le_trans hb h.lo⟩
/-- a pool of n frames over m pages -/
def bgP (n m : Nat) : Plt := ⟨⟨(m : Int), [], [], 1, 64⟩, List.replicate n noF, 0⟩
theorem bgP_ok {n m : Nat} (h1 : 1 ≤ n) (h2 : n ≤ 32) (hm : m ≤ 1000) : OkW 64 1 0 (bgP n m) :=
  ⟨Nat.zero_le _, Nat.zero_le _, ⟨by show (0 : Int) ≤ (m : Int); omega, by show (m : Int) ≤ 1000; omega⟩, ⟨by show (1 : Int) ≤ 1; omega, by show (1 : Int) ≤ 1; omega⟩, Nat.le_refl _, by show 1 ≤ (List.replicate n noF).length ∧ (List.replicate n noF).length ≤ 32; rw [List.length_replicate]; exact ⟨h1, h2⟩, by show 0 < (List.replicate n noF).length; rw [List.length_replicate]; exact h1, fun i => by
    show OkF 0 (frA (List.replicate n noF) i)
    rw [rep_no]; exact .inl rfl, fun i => by
    rw [show (bgP n m).x.now = [] from rfl, slA_out (by exact Nat.zero_le _)]
    exact ⟨Nat.zero_le _, fun h => Bool.noConfusion h⟩, fun i => by
    rw [show (bgP n m).x.old = [] from rfl, slA_out (by exact Nat.zero_le _)]
    exact ⟨Nat.zero_le _, fun h => Bool.noConfusion h⟩⟩
section
variable {PM : StM} {PF PC : FlM}
set_option maxHeartbeats 3200000 in
theorem begun15_any (I : Sh14 PM PF PC) (n m : Nat) (h1 : 1 ≤ n) (h2 : n ≤ 32) (hm : 1 ≤ m) (hm2 : m ≤ 100) (u : World) : Calls Tryz.prog 7 #[.int .i64 (n : Int), .int .i64 (m : Int)] u fun r u' => ∃ D P Y F c Q R S, r = .returned (.tuple #[.pointer (some ⟨Y, 0, none⟩), .pointer (some ⟨R, 0, none⟩)]) ∧ Bq PM u.heap.size D P Y F c Q R (bgP n m) (bgP n m) S u' ∧ Below u.heap.size u u' := by
  have W1 : IntKind.i64.wrap (4 * (m : Int)) = 4 * (m : Int) := by rw [IntKind.wrap_i64]; omega
  have W2 : IntKind.i64.wrap (2 + 4 * (m : Int)) = 2 + 4 * (m : Int) := by rw [IntKind.wrap_i64]; omega
  have HN : Hid (Calls Tryz.prog 22 #[.int .i64 (2 + 4 * (m : Int))] u fun r u' => ∃ P bS bm cS, r = .returned (.tuple #[.pointer (some ⟨P, 0, none⟩), .int .i64 0]) ∧ PDk u.heap.size P bS bm cS (newD (2 + 4 * m)) u' ∧ Below u.heap.size u u') := Lib.hid (by
    have h := pnew_any (2 + 4 * m) (by omega) (by omega) u
    rw [show ((2 + 4 * m : Nat) : Int) = 2 + 4 * (m : Int) by omega] at h
    exact h)
  have HI := Lib.hid I
  have H12 := Lib.hid (And.intro h1 h2)
  clear I
  go_enter Tryz.func7, Tryz.ntmps7
  go_wp2_with fail
  refine (HN.out).mono ?_
  rintro e w1 ⟨D, bS, bm, cS, rfl, hp, hb1⟩
  have PD := Lib.hid hp
  have B1 := Lib.hid hb1
  have HF := Lib.hid (HI.out.format hp hm (by omega) hb1.size)
  clear hp hb1
  go_wp2_with fail
  refine (HF.out).mono ?_
  rintro e w2 ⟨P, S2, rfl, hpm, n2, k2⟩
  have PP := Lib.hid hpm
  have B2 := Lib.hid (B1.out.trans (PD.out.bot k2 B1.out.size))
  have HNW := Lib.hid (qnew_any HI.out hpm B2.out.size n H12.out.1 H12.out.2)
  clear hpm n2 k2 HF HN
  go_wp2_with fail
  refine (HNW.out).mono ?_
  rintro e w3 ⟨Y, F, c, rfl, ha, hb3, hY, hF⟩
  have HA := Lib.hid ha
  have B3 := Lib.hid (bthen B2.out hb3)
  have X3 := Lib.hid (heap_alloc_new w3 (.cells #[.int .i64 (m : Int), .slice none 0 0, .slice none 0 0, .int .i64 1, .bool false] 50))
  have A3 := Lib.hid (balloc w3 (.cells #[.int .i64 (m : Int), .slice none 0 0, .slice none 0 0, .int .i64 1, .bool false] 50))
  have NIL : Hid (∀ w : World, SRow w3.heap.size [] (.slice none 0 0) w) := Lib.hid (fun w => .inl ⟨rfl, none, 0, rfl, by omega, fun p hp => by cases hp⟩)
  have RS : Hid (RSh w3.heap.size w3.heap.size ⟨(m : Int), [], [], 1, 64⟩ (w3.alloc (.cells #[.int .i64 (m : Int), .slice none 0 0, .slice none 0 0, .int .i64 1, .bool false] 50))) := Lib.hid ⟨⟨_, _, X3.out, NIL.out _, NIL.out _, by simp [Value.ownBlock], by simp [Value.ownBlock]⟩, Nat.le_refl _⟩
  have HRN := Lib.hid (rnew15_any RS.out A3.out.size n H12.out.2)
  clear ha hb3 hY hF HNW
  go_wp2_with fail
  refine (HRN.out).mono ?_
  rintro e w5 ⟨R, rfl, hr, hb5, hR⟩
  have FIN : Hid (Bq PM u.heap.size D P Y F c w3.heap.size R (bgP n m) (bgP n m) S2 w5 ∧ Below u.heap.size u w5) := Lib.hid (by
    have b5 : Below w3.heap.size w3 w5 := bthen A3.out hb5
    have hz := B3.out.size
    refine ⟨⟨HA.out.below HI.out b5, hr.mono hz, fun k hk => ?_, Nat.le_trans hz b5.size⟩, bthen B3.out b5⟩
    have h9 := (hr.rlt hk).1
    cases x : pqS S2 Y F k with
    | false => rfl
    | true => have := (HA.out.slo HI.out k x).2; omega)
  clear hr hb5 hR HRN RS
  go_wp2_with fail
  go_ret2
  exact ⟨_, _, _, _, _, _, _, _, rfl, FIN.out⟩
end
/-! ### awake -/
def sA : ByteArray := ⟨#[97]⟩
def awS (pa : ByteArray) (f : List Frm) (h : Nat) : Plt := ⟨⟨20, [⟨true, true, pa⟩, ⟨true, true, pa⟩, ⟨true, true, pa⟩], [], 1, 256⟩, f, h⟩
def awN (pa : ByteArray) : Nat → Plt
  | 0 => ⟨⟨20, [], [], 1, 64⟩, [noF, noF], 0⟩
  | 1 => ⟨⟨20, [⟨true, true, pa⟩], [], 1, 128⟩, [noF, noF], 0⟩
  | 2 => ⟨⟨20, [⟨true, true, pa⟩, ⟨true, true, pa⟩], [], 1, 192⟩, [noF, noF], 0⟩
  | _ => awS pa [noF, noF] 0
theorem kept_nil : keptS [] = 0 := by show (0 : Int) + needR 0 = 0; rw [show needR 0 = 0 from by decide]; rfl
theorem aw_new0 : newE (awN (fullP sA) 0).x sA = 0 ∧ newI (awN (fullP sA) 0).x sA = 0 ∧ nwpP (awN (fullP sA) 0) sA = awN (fullP sA) 1 := by
  have h : newE (awN (fullP sA) 0).x sA = 0 := by
    unfold newE
    rw [if_neg (by decide), if_neg]
    show ¬ (512 ≤ 0 ∨ 20 - keptS [] - 0 < 1)
    rw [kept_nil]; decide
  refine ⟨h, ?_, ?_⟩
  · unfold newI; rw [if_pos h]; rfl
  · unfold nwpP newX; rw [if_pos h]; rfl
theorem aw_new1 : newE (awN (fullP sA) 1).x sA = 0 ∧ newI (awN (fullP sA) 1).x sA = 1 ∧ nwpP (awN (fullP sA) 1) sA = awN (fullP sA) 2 := by
  have h : newE (awN (fullP sA) 1).x sA = 0 := by
    unfold newE
    rw [if_neg (by decide), if_neg]
    show ¬ (512 ≤ 1 ∨ 20 - keptS [] - 1 < 1)
    rw [kept_nil]; decide
  refine ⟨h, ?_, ?_⟩
  · unfold newI; rw [if_pos h]; rfl
  · unfold nwpP newX; rw [if_pos h]; rfl
theorem aw_new2 : newE (awN (fullP sA) 2).x sA = 0 ∧ newI (awN (fullP sA) 2).x sA = 2 ∧ nwpP (awN (fullP sA) 2) sA = awN (fullP sA) 3 := by
  have h : newE (awN (fullP sA) 2).x sA = 0 := by
    unfold newE
    rw [if_neg (by decide), if_neg]
    show ¬ (512 ≤ 2 ∨ 20 - keptS [] - 2 < 1)
    rw [kept_nil]; decide
  refine ⟨h, ?_, ?_⟩
  · unfold newI; rw [if_pos h]; rfl
  · unfold nwpP newX; rw [if_pos h]; rfl
theorem aw_h0 (pa : ByteArray) : holQ (awS pa [noF, noF] 0) 0 = (awS pa [⟨0, pa, 1, false, true⟩, noF] 0, pa, 0) := by
  unfold holQ
  rw [if_neg (show ¬ fndF (awS pa [noF, noF] 0).f 0 < (awS pa [noF, noF] 0).f.length from Nat.lt_irrefl 2), if_pos (show inS (awS pa [noF, noF] 0).x.now 0 from ⟨by decide, rfl⟩)]
  rfl
theorem aw_h1 (pa : ByteArray) : holQ (awS pa [⟨0, pa, 1, false, true⟩, noF] 0) 1 = (awS pa [⟨0, pa, 1, false, true⟩, ⟨1, pa, 1, false, true⟩] 0, pa, 0) := by
  unfold holQ
  rw [if_neg (show ¬ fndF (awS pa [⟨0, pa, 1, false, true⟩, noF] 0).f 1 < (awS pa [⟨0, pa, 1, false, true⟩, noF] 0).f.length from Nat.lt_irrefl 2), if_pos (show inS (awS pa [⟨0, pa, 1, false, true⟩, noF] 0).x.now 1 from ⟨by decide, rfl⟩)]
  rfl
theorem aw_h2 (pa : ByteArray) : holQ (awS pa [⟨0, pa, 1, false, true⟩, ⟨1, pa, 1, false, true⟩] 0) 2 = (awS pa [⟨0, pa, 1, false, true⟩, ⟨1, pa, 1, false, true⟩] 0, ByteArray.empty, 12) := by
  unfold holQ
  rw [if_neg (show ¬ fndF (awS pa [⟨0, pa, 1, false, true⟩, ⟨1, pa, 1, false, true⟩] 0).f 2 < (awS pa [⟨0, pa, 1, false, true⟩, ⟨1, pa, 1, false, true⟩] 0).f.length from Nat.lt_irrefl 2), if_pos (show inS (awS pa [⟨0, pa, 1, false, true⟩, ⟨1, pa, 1, false, true⟩] 0).x.now 2 from ⟨by decide, rfl⟩)]
  unfold newQ
  rw [if_neg]
  have h2 : ∀ i, i < 2 → i = 0 ∨ i = 1 := fun i hi => by omega
  have := vicP_none (p := awS pa [⟨0, pa, 1, false, true⟩, ⟨1, pa, 1, false, true⟩] 0) (by show 0 < 2; omega) (fun i hi => by rcases h2 i hi with rfl | rfl <;> exact Nat.lt_irrefl 0 |> fun _ => Nat.one_pos) (fun i hi => by
    rcases h2 i hi with rfl | rfl
    · show (0 : Int) ≤ 0; omega
    · show (0 : Int) ≤ 1; omega)
  omega
theorem aw_l0 (pa : ByteArray) : letP (awS pa [⟨0, pa, 1, false, true⟩, ⟨1, pa, 1, false, true⟩] 0) 0 = awS pa [⟨0, pa, 0, false, true⟩, ⟨1, pa, 1, false, true⟩] 0 := rfl
theorem aw_v3 (pa : ByteArray) : vicP (awS pa [⟨0, pa, 0, false, true⟩, ⟨1, pa, 1, false, true⟩] 0) = (awS pa [⟨0, pa, 0, false, false⟩, ⟨1, pa, 1, false, true⟩] 1, 0) := by
  unfold vicP
  rw [if_neg (show ¬ lstP (emptyF (awS pa [⟨0, pa, 0, false, true⟩, ⟨1, pa, 1, false, true⟩] 0).f) (awS pa [⟨0, pa, 0, false, true⟩, ⟨1, pa, 1, false, true⟩] 0).f.length < (awS pa [⟨0, pa, 0, false, true⟩, ⟨1, pa, 1, false, true⟩] 0).f.length from Nat.lt_irrefl 2)]
  have s1 : vicN 2 5 [⟨0, pa, 0, false, true⟩, ⟨1, pa, 1, false, true⟩] 0 = vicN 2 4 [⟨0, pa, 0, false, false⟩, ⟨1, pa, 1, false, true⟩] 1 := by
    rw [vicN_unu, if_neg (fun h => Bool.noConfusion h.2)]
    rfl
  have s2 : vicN 2 4 [⟨0, pa, 0, false, false⟩, ⟨1, pa, 1, false, true⟩] 1 = vicN 2 3 [⟨0, pa, 0, false, false⟩, ⟨1, pa, 1, false, true⟩] 0 := by
    rw [vicN_unu, if_neg (fun h => Bool.noConfusion h.2)]
    rfl
  have s3 : vicN 2 3 [⟨0, pa, 0, false, false⟩, ⟨1, pa, 1, false, true⟩] 0 = ([⟨0, pa, 0, false, false⟩, ⟨1, pa, 1, false, true⟩], 1, 0) := by
    rw [vicN_unu, if_pos ⟨rfl, rfl⟩]
  have s4 : vicN (awS pa [⟨0, pa, 0, false, true⟩, ⟨1, pa, 1, false, true⟩] 0).f.length (2 * (awS pa [⟨0, pa, 0, false, true⟩, ⟨1, pa, 1, false, true⟩] 0).f.length + 1) (awS pa [⟨0, pa, 0, false, true⟩, ⟨1, pa, 1, false, true⟩] 0).f (awS pa [⟨0, pa, 0, false, true⟩, ⟨1, pa, 1, false, true⟩] 0).hand = ([⟨0, pa, 0, false, false⟩, ⟨1, pa, 1, false, true⟩], 1, 0) := (s1.trans s2).trans s3
  rw [s4]
  rfl
theorem aw_h3 (pa : ByteArray) : holQ (awS pa [⟨0, pa, 0, false, true⟩, ⟨1, pa, 1, false, true⟩] 0) 2 = (awS pa [⟨2, pa, 1, false, true⟩, ⟨1, pa, 1, false, true⟩] 1, pa, 0) := by
  unfold holQ
  rw [if_neg (show ¬ fndF (awS pa [⟨0, pa, 0, false, true⟩, ⟨1, pa, 1, false, true⟩] 0).f 2 < (awS pa [⟨0, pa, 0, false, true⟩, ⟨1, pa, 1, false, true⟩] 0).f.length from Nat.lt_irrefl 2), if_pos (show inS (awS pa [⟨0, pa, 0, false, true⟩, ⟨1, pa, 1, false, true⟩] 0).x.now 2 from ⟨by decide, rfl⟩)]
  unfold newQ newR
  rw [aw_v3]
  rfl
theorem aw_pg (pa : ByteArray) : upI (pgsF (awS pa [⟨2, pa, 1, false, true⟩, ⟨1, pa, 1, false, true⟩] 1).f (awS pa [⟨2, pa, 1, false, true⟩, ⟨1, pa, 1, false, true⟩] 1).f.length) = [1, 2] := by
  show upI [2, 1] = [1, 2]
  unfold upI
  simp [List.mergeSort, List.MergeSort.Internal.splitInTwo]
end Go.Proofs.YtmflkkkbahghgaaGreat
