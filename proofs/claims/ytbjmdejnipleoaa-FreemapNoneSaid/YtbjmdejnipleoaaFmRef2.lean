/- The contracts of the document's map: Turn, List. -/
import Derived.Test.YtbjmdejnipleoaaFmRef1
namespace Go.Proofs.Ytbjmdejnipleoaa
open Go.RowKit Go.Deep
set_option linter.unusedVariables false
set_option linter.unusedSimpArgs false
set_option maxRecDepth 100000

variable {base Q n : Nat} {K : Nat → Nat} {u : World}
theorem lit_cells12 (w : World) (x : Value) : ∀ j v, [x][j]? = some v → (w.alloc (.cells #[x] 3)).cell? ((⟨w.heap.size, 0, none⟩ : Addr).add j) = some v := by
  intro j v hj
  rcases j with _ | j
  · simp only [List.getElem?_cons_zero, Option.some.injEq] at hj
    subst hj
    rw [add_plain, Lib.cell_of_heap (heap_alloc_new w _)]
    rfl
  · simp at hj
theorem rowK_succ (G : Nat → Nat → Value) (n : Nat) (x : Value) (h : G n 0 = x) : rowCells 1 G n ++ [x] = rowCells 1 G (n + 1) := rowCells_succ (by omega) G n [x] rfl (fun j hj => by
  obtain rfl : j = 0 := by omega
  rw [h]; rfl)
/-- a list of numbers as cells -/
def natV (l : List Nat) : List Value := l.map fun (i : Nat) => .int .i64 (i : Int)
theorem natV_row (l : List Nat) : natV l = rowCells 1 (gK fun i => l.getD i 0) l.length := by
  apply List.ext_getElem?
  intro k
  have hl : (rowCells 1 (gK fun i => l.getD i 0) l.length).length = l.length := by rw [rowCells_len, Nat.mul_one]
  rcases Nat.lt_or_ge k l.length with h | h
  · have e := rowCells_at (gK fun i => l.getD i 0) (C := 1) (n := l.length) (i := k) (j := 0) h (by omega)
    rw [Nat.mul_one, Nat.add_zero] at e
    rw [e]
    show _ = some (Value.int .i64 ((l.getD k 0 : Nat) : Int))
    unfold natV
    rw [List.getElem?_map, List.getElem?_eq_getElem h, List.getD_eq_getElem?_getD, List.getElem?_eq_getElem h]
    rfl
  · rw [List.getElem?_eq_none (by unfold natV; simpa using h), List.getElem?_eq_none (by rw [hl]; exact h)]
set_option maxHeartbeats 1600000 in
theorem rlist12_any (h : RFm base Q n K u) (hn : n ≤ 1024) (k : Nat) : Calls Try.prog 13 #[.pointer (some ⟨Q, 0, none⟩), .int .i64 (k : Int)] u fun r u' => ∃ v, r = .returned v ∧ u'.ownsRow u.heap.size 3 1 v (listF K k n).length (natV (listF K k n)) ∧ Below u.heap.size u u' := by
  obtain ⟨i0, hi0, hz0, hz1, hz2⟩ := info_parts infoInt12
  have R := Lib.hid h
  clear h
  go_enter Try.func13, Try.ntmps13
  go_wp2_with fail
  go_loopw [5, 6] (fun v i wr => ∃ j : Nat, j ≤ n ∧ i = .int .i64 j ∧ Hid (wr.ownsRow u.heap.size 3 1 v (listF K k j).length (natV (listF K k j))) ∧ Hid (Below u.heap.size u wr)) (fun _ i _ => n - (intOf i).toNat)
  case atStart => exact ⟨0, Nat.zero_le _, rfl, Lib.hid (World.ownsRow_nil _ _ _ _), Lib.hid (Below.refl _ _)⟩
  case round =>
    obtain ⟨j, hj, rfl, HO, HB⟩ := hrel
    obtain ⟨a0, c0, y0⟩ := (R.out.below HB.out).len
    by_cases hlt : j < n
    · have hj1 : (j : Int) < (n : Int) := by omega
      have hj2 : (0 : Int) ≤ (j : Int) := by omega
      have d1 : decide ((j : Int) < (n : Int)) = true := by simp [hlt]
      obtain ⟨b, c, x0, x1⟩ := (R.out.below HB.out).look hlt
      clear y0
      by_cases hz : K j = k
      · have EL : Hid (listF K k (j + 1) = listF K k j ++ [j]) := Lib.hid (by simp only [listF]; rw [if_pos hz])
        have dz : (((K j : Nat) : Int) == (k : Int)) = true := by simp [hz]
        have hlen : (listF K k j).length ≤ 1024 := by have := cntF_le K k j; unfold cntF at this; omega
        have B1 := balloc wr (.cells #[.int .i64 (j : Int)] 3)
        have O1 := Lib.hid (own_below HO.out B1)
        have W1 := Lib.hid (HB.out.trans (B1.mono HB.out.size))
        have SZ := Lib.hid (Nat.le_trans HB.out.size B1.size)
        clear hz B1
        generalize ((K j : Nat) : Int) = q at *
        go_wp2_with (at_builtin; refine wpList_append_own _ rfl _ _ 31 rfl u.heap.size 3 i0 (.int .i64 0) 1 8 Try.underlying31 hi0 hz0 hz1 hz2 rfl (by decide) _ (listF K k j).length _ rfl O1.out ⟨wr.heap.size, 0, none⟩ 1 1 [.int .i64 (j : Int)] rfl rfl (lit_cells12 wr _) (by intro x hx; simp only [List.mem_cons, List.not_mem_nil, or_false] at hx; subst hx; rfl) (by unfold maxLen; omega) (by omega) SZ.out ?_)
        intro v4 w4 ho4 hg4 _
        have O4 : Hid (w4.ownsRow u.heap.size 3 1 v4 (listF K k (j + 1)).length (natV (listF K k (j + 1)))) := Lib.hid (by
          rw [EL.out, List.length_append, List.length_singleton]
          unfold natV at ho4 ⊢
          rw [List.map_append]
          exact ho4)
        have W4 := Lib.hid (W1.out.trans ((Below.refl _ _).grown hg4 SZ.out (fun g hg => (O1.out.lt g hg).1)))
        clear ho4 hg4 x0 x1
        go_wp2_with fail
        go_roundw
        case rel => exact ⟨j + 1, hlt, by go_num, O4, W4⟩
        case measure => simp [intOf]; omega
      · have EL : Hid (listF K k (j + 1) = listF K k j) := Lib.hid (by simp only [listF]; rw [if_neg hz, List.append_nil])
        have dz : (((K j : Nat) : Int) == (k : Int)) = false := by simp; omega
        have O4 := HO
        rw [← EL.out] at O4
        clear hz
        generalize ((K j : Nat) : Int) = q at *
        go_wp2_with fail
        go_roundw
        case rel => exact ⟨j + 1, hlt, by go_num, O4, HB⟩
        case measure => simp [intOf]; omega
    · obtain rfl : j = n := by omega
      have d1 : decide ((j : Int) < (j : Int)) = false := by simp
      go_wp2_with fail
      go_ret
      exact ⟨_, rfl, HO.out, HB.out⟩
set_option maxHeartbeats 1600000 in
theorem rturn12_any (h : RFm base Q n K u) (hb : base ≤ u.heap.size) (hn : n ≤ 1024) (a b : Nat) : Calls Try.prog 32 #[.pointer (some ⟨Q, 0, none⟩), .int .i64 (a : Int), .int .i64 (b : Int)] u fun r u' => r = .returned (.tuple #[]) ∧ RFm base Q n (turnF K a b) u' ∧ KpS (QS Q) u u' ∧ Rnew Q u u' := by
  obtain ⟨i0, hi0, hz0, hz1, hz2⟩ := info_parts infoInt12
  have R := Lib.hid h
  have HBa := Lib.hid hb
  clear h hb
  go_enter Try.func32, Try.ntmps32
  go_wp2_with fail
  go_loopw [6, 7] (fun v i wr => ∃ j : Nat, j ≤ n ∧ i = .int .i64 j ∧ Hid (wr.ownsRow u.heap.size 3 1 v j (rowCells 1 (gK (turnF K a b)) j)) ∧ Hid (Below u.heap.size u wr)) (fun _ i _ => n - (intOf i).toNat)
  case atStart => exact ⟨0, Nat.zero_le _, rfl, Lib.hid (World.ownsRow_nil _ _ _ _), Lib.hid (Below.refl _ _)⟩
  case round =>
    obtain ⟨j, hj, rfl, HO, HB⟩ := hrel
    obtain ⟨a0, c0, y0⟩ := (R.out.below HB.out).len
    by_cases hlt : j < n
    · have hj1 : (j : Int) < (n : Int) := by omega
      have hj2 : (0 : Int) ≤ (j : Int) := by omega
      have d1 : decide ((j : Int) < (n : Int)) = true := by simp [hlt]
      obtain ⟨bb, cc, x0, x1⟩ := (R.out.below HB.out).look hlt
      clear y0
      by_cases hz2k : K j = 2
      · have EG : Hid (gK (turnF K a b) j 0 = .int .i64 (a : Int)) := Lib.hid (by unfold gK turnF; rw [if_pos hz2k])
        have dz : (((K j : Nat) : Int) == 2) = true := by simp; omega
        have ER : Hid (rowCells 1 (gK (turnF K a b)) j ++ [.int .i64 (a : Int)] = rowCells 1 (gK (turnF K a b)) (j + 1)) := Lib.hid (rowK_succ _ _ _ EG.out)
        have B1 := balloc wr (.cells #[.int .i64 (a : Int)] 3)
        have O1 := Lib.hid (own_below HO.out B1)
        have W1 := Lib.hid (HB.out.trans (B1.mono HB.out.size))
        have SZ := Lib.hid (Nat.le_trans HB.out.size B1.size)
        clear B1 EG
        generalize ((K j : Nat) : Int) = q at *
        go_wp2_with (at_builtin; refine wpList_append_own _ rfl _ _ 31 rfl u.heap.size 3 i0 (.int .i64 0) 1 8 Try.underlying31 hi0 hz0 hz1 hz2 rfl (by decide) _ j _ rfl O1.out ⟨wr.heap.size, 0, none⟩ 1 1 [.int .i64 (a : Int)] rfl rfl (lit_cells12 wr _) (by intro x hx; simp only [List.mem_cons, List.not_mem_nil, or_false] at hx; subst hx; rfl) (by unfold maxLen; omega) (by omega) SZ.out ?_)
        intro v4 w4 ho4 hg4 _
        have O4 : Hid (w4.ownsRow u.heap.size 3 1 v4 (j + 1) (rowCells 1 (gK (turnF K a b)) (j + 1))) := Lib.hid (by rw [← ER.out]; exact ho4)
        have W4 := Lib.hid (W1.out.trans ((Below.refl _ _).grown hg4 SZ.out (fun g hg => (O1.out.lt g hg).1)))
        clear ho4 hg4 x0 x1
        go_wp2_with fail
        go_roundw
        case rel => exact ⟨j + 1, hlt, by go_num, O4, W4⟩
        case measure => simp [intOf]; omega
      · have dz : (((K j : Nat) : Int) == 2) = false := by simp; omega
        by_cases hz3 : K j = 3
        · have EG : Hid (gK (turnF K a b) j 0 = .int .i64 (b : Int)) := Lib.hid (by unfold gK turnF; rw [if_neg hz2k, if_pos hz3])
          have dz3 : (((K j : Nat) : Int) == 3) = true := by simp; omega
          have ER : Hid (rowCells 1 (gK (turnF K a b)) j ++ [.int .i64 (b : Int)] = rowCells 1 (gK (turnF K a b)) (j + 1)) := Lib.hid (rowK_succ _ _ _ EG.out)
          have B1 := balloc wr (.cells #[.int .i64 (b : Int)] 3)
          have O1 := Lib.hid (own_below HO.out B1)
          have W1 := Lib.hid (HB.out.trans (B1.mono HB.out.size))
          have SZ := Lib.hid (Nat.le_trans HB.out.size B1.size)
          clear B1 EG
          generalize ((K j : Nat) : Int) = q at *
          go_wp2_with (at_builtin; refine wpList_append_own _ rfl _ _ 31 rfl u.heap.size 3 i0 (.int .i64 0) 1 8 Try.underlying31 hi0 hz0 hz1 hz2 rfl (by decide) _ j _ rfl O1.out ⟨wr.heap.size, 0, none⟩ 1 1 [.int .i64 (b : Int)] rfl rfl (lit_cells12 wr _) (by intro x hx; simp only [List.mem_cons, List.not_mem_nil, or_false] at hx; subst hx; rfl) (by unfold maxLen; omega) (by omega) SZ.out ?_)
          intro v4 w4 ho4 hg4 _
          have O4 : Hid (w4.ownsRow u.heap.size 3 1 v4 (j + 1) (rowCells 1 (gK (turnF K a b)) (j + 1))) := Lib.hid (by rw [← ER.out]; exact ho4)
          have W4 := Lib.hid (W1.out.trans ((Below.refl _ _).grown hg4 SZ.out (fun g hg => (O1.out.lt g hg).1)))
          clear ho4 hg4 x0 x1
          go_wp2_with fail
          go_roundw
          case rel => exact ⟨j + 1, hlt, by go_num, O4, W4⟩
          case measure => simp [intOf]; omega
        · have EG : Hid (gK (turnF K a b) j 0 = .int .i64 ((K j : Nat) : Int)) := Lib.hid (by unfold gK turnF; rw [if_neg hz2k, if_neg hz3])
          have dz3 : (((K j : Nat) : Int) == 3) = false := by simp; omega
          generalize ((K j : Nat) : Int) = q at *
          have ER : Hid (rowCells 1 (gK (turnF K a b)) j ++ [.int .i64 (q : Int)] = rowCells 1 (gK (turnF K a b)) (j + 1)) := Lib.hid (rowK_succ _ _ _ EG.out)
          have B1 := balloc wr (.cells #[.int .i64 (q : Int)] 3)
          have O1 := Lib.hid (own_below HO.out B1)
          have W1 := Lib.hid (HB.out.trans (B1.mono HB.out.size))
          have SZ := Lib.hid (Nat.le_trans HB.out.size B1.size)
          clear B1 EG
          go_wp2_with (at_builtin; refine wpList_append_own _ rfl _ _ 31 rfl u.heap.size 3 i0 (.int .i64 0) 1 8 Try.underlying31 hi0 hz0 hz1 hz2 rfl (by decide) _ j _ rfl O1.out ⟨wr.heap.size, 0, none⟩ 1 1 [.int .i64 (q : Int)] rfl rfl (lit_cells12 wr _) (by intro x hx; simp only [List.mem_cons, List.not_mem_nil, or_false] at hx; subst hx; rfl) (by unfold maxLen; omega) (by omega) SZ.out ?_)
          intro v4 w4 ho4 hg4 _
          have O4 : Hid (w4.ownsRow u.heap.size 3 1 v4 (j + 1) (rowCells 1 (gK (turnF K a b)) (j + 1))) := Lib.hid (by rw [← ER.out]; exact ho4)
          have W4 := Lib.hid (W1.out.trans ((Below.refl _ _).grown hg4 SZ.out (fun g hg => (O1.out.lt g hg).1)))
          clear ho4 hg4 x0 x1
          go_wp2_with fail
          go_roundw
          case rel => exact ⟨j + 1, hlt, by go_num, O4, W4⟩
          case measure => simp [intOf]; omega
    · obtain rfl : j = n := by omega
      have d1 : decide ((j : Int) < (j : Int)) = false := by simp
      obtain ⟨va, vc, hv, _⟩ := own_sl HO.out
      subst hv
      obtain ⟨vq, hbx, hrq⟩ := (R.out.below HB.out).box
      have xf : wr.frozen? ⟨Q, 0, none⟩ = false := Lib.frozen_of_heap hbx 0
      have QN : Hid (∀ g, (Value.slice va j vc).ownBlock = some g → g ≠ Q) := Lib.hid (fun g hg e => by have := (HO.out.lt g hg).1; have := R.out.lt; omega)
      have F : Hid (RFm base Q j (turnF K a b) (wr.setCell ⟨Q, 0, none⟩ (.slice va j vc))) := Lib.hid ⟨⟨_, Joins.block_setCell (i := 0) hbx _, by
        have hk := KRow.of (K := turnF K a b) HO.out rfl
        rcases hk with hk | ⟨h0, b2, c2, e2, hb2, hr2⟩
        · exact .inl (by
            obtain ⟨q0, a, c, e, hc, hp⟩ := hk
            exact ⟨q0, a, c, e, hc, fun p h1 => ⟨Nat.le_trans HBa.out (hp p h1).1, by rw [World.size_setCell]; exact (hp p h1).2⟩⟩)
        · exact .inr ⟨h0, b2, c2, e2, Nat.le_trans HBa.out hb2, hr2.kept (set_else12 _ (QN.out b2 (by rw [e2]; rfl)))⟩⟩, R.out.lo⟩
      have KF := Lib.hid ((KpS.of HB.out : KpS (QS Q) u wr).trans (KpS.set (QS.a Q) 0 (.slice va j vc) wr))
      have RN : Hid (Rnew Q u (wr.setCell ⟨Q, 0, none⟩ (.slice va j vc))) := Lib.hid (Rnew.box (Joins.block_setCell (i := 0) hbx _) (fun q hq => (HO.out.lt q hq).1))
      clear hrq hbx
      go_wp2_with fail
      exact bodyPost_end (v := .tuple #[]) (by simp [results, Try.results32, go_sem]) rfl ⟨rfl, F.out, KF.out, RN.out⟩

end Go.Proofs.Ytbjmdejnipleoaa
