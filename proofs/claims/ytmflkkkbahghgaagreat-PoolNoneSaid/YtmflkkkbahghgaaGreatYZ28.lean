/- The contract of the document's Set. The contracts of the document's Drop, Evict. The contract of the document's Drop. The contracts of the document's Get, Put. The contracts of the document's Held, Commit. -/
import Derived.Test.YtmflkkkbahghgaaGreatYZ27
namespace Go.Proofs.YtmflkkkbahghgaaGreat
open Go.RowKit Go.Deep
set_option linter.unusedVariables false
set_option linter.unusedSimpArgs false
set_option maxRecDepth 100000

section
variable {base Q R : Nat} {p : Plt} {u : World}
set_option maxHeartbeats 3200000 in
theorem rset_pl (h : RPl base Q R p u) (ok : OkR p) (hbase : base ≤ u.heap.size) (l : Int) (s : ByteArray) (hs : s.size ≤ 1000000) : Calls Tryz.prog 34 #[.pointer (some ⟨R, 0, none⟩), .int .i64 l, .string s] u fun r u' => r = .returned (.int .i64 (setE p l s)) ∧ RQ base Q R (setP p l s) u u' := by
  obtain ⟨i0, hi0, hz0, hz1, hz2⟩ := info_parts infoFrame15
  obtain ⟨a, c, x0, x1, x2, hf, f0, f1, f2⟩ := h.cells
  have HF := Lib.hid (rfind15_any h ok.len.2 l)
  have H := Lib.hid h
  have OK := Lib.hid ok
  have HBASE := Lib.hid hbase
  have hlen := ok.len
  have F := Lib.hid hf
  have ST := Lib.hid (h.stays (Below.refl _ _))
  clear h x2 f2 ok hbase hf
  go_enter Tryz.func34, Tryz.ntmps34
  by_cases hbig : 232 < s.size
  · have d0 : decide ((232 : Int) < (s.size : Int)) = true := decide_eq_true (by omega)
    have E1 : Hid (setE p l s = 4) := Lib.hid (if_pos hbig)
    have E2 : Hid (setP p l s = p) := Lib.hid (by unfold setP; rw [E1.out]; rfl)
    go_wp2_with fail
    go_ret
    exact ⟨by rw [E1.out]; rfl, by rw [E2.out]; exact ST.out⟩
  · have d0 : decide ((232 : Int) < (s.size : Int)) = false := decide_eq_false (by omega)
    have E0 : Hid (setE p l s = pinE p l) := Lib.hid (if_neg hbig)
    have HFU := Lib.hid (fun w => rfull_any s hs w)
    go_wp2_with fail
    refine (HF.out).mono ?_
    rintro r w1 ⟨rfl, e1⟩
    rw [e1]
    clear HF e1 w1
    by_cases hlt : fndF p.f l < p.f.length
    · have EF : Hid (fndI p.f l = (fndF p.f l : Int)) := Lib.hid (if_pos hlt)
      rw [EF.out]
      generalize hi : fndF p.f l = i at *
      have HI := Lib.hid hi
      clear hi
      obtain ⟨b, ha, y0, y1, y2, y3, y4⟩ := FRow.look F.out hlt
      subst ha
      have hj1 : (i : Int) < (p.f.length : Int) := by omega
      have hj2 : (0 : Int) ≤ (i : Int) := by omega
      have hj3 : ¬ ((i : Int) < 0) := by omega
      have d1 : decide ((i : Int) < 0) = false := decide_eq_false hj3
      by_cases hz : (frA p.f i).held = 0
      · have E1 : Hid (setE p l s = 16) := Lib.hid (by rw [E0.out]; unfold pinE; rw [HI.out, hz]; exact if_neg fun h9 => absurd h9.2 (by decide))
        have E2 : Hid (setP p l s = p) := Lib.hid (by unfold setP; rw [E1.out]; rfl)
        rw [hz] at y2
        clear hz
        go_wp2_with fail
        go_ret
        exact ⟨by rw [E1.out]; rfl, by rw [E2.out]; exact ST.out⟩
      · have E1 : Hid (setE p l s = 0) := Lib.hid (by rw [E0.out]; unfold pinE; rw [HI.out]; exact if_pos ⟨hlt, by omega⟩)
        have E2 : Hid (setP p l s = { p with f := p.f.set i { frA p.f i with b := fullP s, di := true, us := true } }) := Lib.hid (by unfold setP; rw [E1.out, HI.out]; rfl)
        obtain ⟨m, hm⟩ : ∃ m, (frA p.f i).held = m + 1 := ⟨(frA p.f i).held - 1, by omega⟩
        have hz2' : ¬ (((m + 1 : Nat) : Int) = 0) := by omega
        have d2 : (((m : Int) + 1) == 0) = false := by
          rw [beq_eq_false_iff_ne]
          omega
        have E3 : Hid ({ frA p.f i with b := fullP s, di := true, us := true } = (⟨(frA p.f i).pg, fullP s, m + 1, true, true⟩ : Frm)) := Lib.hid (by rw [← hm])
        rw [E3.out] at E2
        rw [hm] at y2
        have X0 := Lib.hid (heap_alloc_new u (.cells #[.int .i64 (frA p.f i).pg, .string (frA p.f i).b, .int .i64 ((m : Int) + 1), .bool (frA p.f i).di, .bool (frA p.f i).us] 44))
        have B0 := Lib.hid (balloc u (.cells #[.int .i64 (frA p.f i).pg, .string (frA p.f i).b, .int .i64 ((m : Int) + 1), .bool (frA p.f i).di, .bool (frA p.f i).us] 44))
        clear hz hm E3
        go_upto_region 7 with fail
        obtain ⟨C, hC⟩ : ∃ C, C = u.heap.size := ⟨_, rfl⟩
        rw [← hC] at X0 ⊢
        have HC := Lib.hid hC
        clear hC x0 f0 f1 x1 y0 y1 y2 y3 y4
        generalize u.alloc (.cells #[.int .i64 (frA p.f i).pg, .string (frA p.f i).b, .int .i64 ((m : Int) + 1), .bool (frA p.f i).di, .bool (frA p.f i).us] 44) = w1 at *
        go_wp2_with fail
        refine (HFU.out w1).mono ?_
        rintro r w2 ⟨rfl, hb⟩
        have X2 := Lib.hid ((hb.block C (lt_of_block X0.out)).trans X0.out)
        have B2 := Lib.hid (B0.out.trans (Below.mono hb B0.out.size))
        have t1 : w2.cell? ⟨C, 1, none⟩ = some (.string (frA p.f i).b) := by rw [Lib.cell_of_heap X2.out]; rfl
        have t3 : w2.cell? ⟨C, 3, none⟩ = some (.bool (frA p.f i).di) := by rw [Lib.cell_of_heap X2.out]; rfl
        have t4 : w2.cell? ⟨C, 4, none⟩ = some (.bool (frA p.f i).us) := by rw [Lib.cell_of_heap X2.out]; rfl
        have g1 := Lib.frozen_of_heap X2.out 1
        have g3 := Lib.frozen_of_heap X2.out 3
        have g4 := Lib.frozen_of_heap X2.out 4
        clear hb
        have X8 := Lib.hid (Joins.block_setCell (i := 4) (Joins.block_setCell (i := 3) (Joins.block_setCell (i := 1) X2.out (.string (fullP s))) (.bool true)) (.bool true))
        have Q0 := Lib.hid (H.out.stays (((B2.out.setCell (p := ⟨C, 1, none⟩) (by have := HC.out; show u.heap.size ≤ C; omega) (.string (fullP s))).setCell (p := ⟨C, 3, none⟩) (by have := HC.out; show u.heap.size ≤ C; omega) (.bool true)).setCell (p := ⟨C, 4, none⟩) (by have := HC.out; show u.heap.size ≤ C; omega) (.bool true)))
        go_upto_region 10 with fail
        clear t1 t3 t4 g1 g3 g4
        generalize ((w2.setCell ⟨C, 1, none⟩ (.string (fullP s))).setCell ⟨C, 3, none⟩ (.bool true)).setCell ⟨C, 4, none⟩ (.bool true) = w8 at *
        have v0 : w8.cell? ⟨C, 0, none⟩ = some (.int .i64 (frA p.f i).pg) := by rw [Lib.cell_of_heap X8.out]; rfl
        have v1 : w8.cell? ⟨C, 1, none⟩ = some (.string (fullP s)) := by rw [Lib.cell_of_heap X8.out]; rfl
        have v2 : w8.cell? ⟨C, 2, none⟩ = some (.int .i64 ((m + 1 : Nat) : Int)) := by rw [Lib.cell_of_heap X8.out]; rfl
        have v3 : w8.cell? ⟨C, 3, none⟩ = some (.bool true) := by rw [Lib.cell_of_heap X8.out]; rfl
        have v4 : w8.cell? ⟨C, 4, none⟩ = some (.bool true) := by rw [Lib.cell_of_heap X8.out]; rfl
        have HT := Lib.hid (rset15_any Q0.out.1 hlen.2 (Nat.le_trans HBASE.out Q0.out.2.1.size) i hlt ⟨(frA p.f i).pg, fullP s, m + 1, true, true⟩)
        go_wp2_with fail
        refine (HT.out).mono ?_
        rintro r w10 ⟨rfl, hq⟩
        have FF : Hid (RQ base Q R (setP p l s) u w10) := Lib.hid (by rw [E2.out]; exact Q0.out.trans hq)
        clear hq v0 v1 v2 v3 v4
        go_wp2_with fail
        go_ret
        exact ⟨by rw [E1.out]; rfl, FF.out⟩
    · have E9 : Hid (fndI p.f l = -1) := Lib.hid (if_neg hlt)
      have E1 : Hid (setE p l s = 16) := Lib.hid (by rw [E0.out]; exact if_neg fun h9 => hlt h9.1)
      have E2 : Hid (setP p l s = p) := Lib.hid (by unfold setP; rw [E1.out]; rfl)
      rw [E9.out]
      go_wp2_with fail
      go_ret
      exact ⟨by rw [E1.out]; rfl, by rw [E2.out]; exact ST.out⟩
end
end Go.Proofs.YtmflkkkbahghgaaGreat
namespace Go.Proofs.YtmflkkkbahghgaaGreat
open Go.RowKit Go.Deep
set_option linter.unusedVariables false
set_option linter.unusedSimpArgs false
set_option maxRecDepth 100000

section
variable {base Q R : Nat} {p : Plt} {u : World}
set_option maxHeartbeats 3200000 in
theorem revict15_any (h : RPl base Q R p u) (ok : OkR p) (hbase : base ≤ u.heap.size) (i : Int) : Calls Tryz.prog 37 #[.pointer (some ⟨R, 0, none⟩), .int .i64 i] u fun r u' => r = .returned (.int .i64 (evcE p i)) ∧ RQ base Q R (evcP p i) u u' := by
  obtain ⟨a, c, x0, x1, x2, hf, f0, f1, f2⟩ := h.cells
  have hlen := ok.len
  have F := Lib.hid hf
  have ST := Lib.hid (h.stays (Below.refl _ _))
  have HB := Lib.hid (fun k hk => rback15_any h ok hbase k hk)
  have HBASE := Lib.hid hbase
  clear h x2 f2 ok hbase hf
  go_enter Tryz.func37, Tryz.ntmps37
  by_cases hneg : i < 0
  · have d1 : decide (i < 0) = true := decide_eq_true hneg
    have E1 : Hid (evcE p i = 3) := Lib.hid (if_pos (.inl hneg))
    have E2 : Hid (evcP p i = p) := Lib.hid (if_pos (.inl hneg))
    go_wp2_with fail
    go_ret
    exact ⟨by rw [E1.out]; rfl, by rw [E2.out]; exact ST.out⟩
  · have d1 : decide (i < 0) = false := decide_eq_false hneg
    obtain ⟨k, rfl⟩ := Int.eq_ofNat_of_zero_le (show 0 ≤ i by omega)
    by_cases hlt : k < p.f.length
    · have hj1 : (k : Int) < (p.f.length : Int) := by omega
      have hj2 : (0 : Int) ≤ (k : Int) := by omega
      have hj3 : ¬ ((p.f.length : Int) ≤ (k : Int)) := by omega
      have d2 : decide ((p.f.length : Int) ≤ (k : Int)) = false := decide_eq_false hj3
      have hno : ¬ ((k : Int) < 0 ∨ (p.f.length : Int) ≤ (k : Int)) := by omega
      obtain ⟨b, ha, y0, y1, y2, y3, y4⟩ := FRow.look F.out hlt
      subst ha
      have EK : ((k : Int)).toNat = k := rfl
      by_cases c1 : (frA p.f k).pg < 0
      · have d3 : decide ((frA p.f k).pg < 0) = true := decide_eq_true c1
        have E1 : Hid (evcE p (k : Int) = 0) := Lib.hid (by unfold evcE; rw [if_neg hno, EK, if_pos c1])
        have E2 : Hid (evcP p (k : Int) = p) := Lib.hid (by unfold evcP; rw [if_neg hno, EK, if_pos c1])
        clear hno
        go_wp2_with fail
        go_ret
        exact ⟨by rw [E1.out]; rfl, by rw [E2.out]; exact ST.out⟩
      · have d3 : decide ((frA p.f k).pg < 0) = false := decide_eq_false c1
        by_cases c2 : 0 < (frA p.f k).held
        · have c3 : (0 : Int) < ((frA p.f k).held : Int) := by omega
          have d4 : decide ((0 : Int) < ((frA p.f k).held : Int)) = true := decide_eq_true c3
          have E1 : Hid (evcE p (k : Int) = 16) := Lib.hid (by unfold evcE; rw [if_neg hno, EK, if_neg c1, if_pos c2])
          have E2 : Hid (evcP p (k : Int) = p) := Lib.hid (by unfold evcP; rw [if_neg hno, EK, if_neg c1, if_pos c2])
          clear hno
          go_wp2_with fail
          go_ret
          exact ⟨by rw [E1.out]; rfl, by rw [E2.out]; exact ST.out⟩
        · have c3 : (frA p.f k).held = 0 := by omega
          have E1 : Hid (evcE p (k : Int) = bakE p k) := Lib.hid (by unfold evcE; rw [if_neg hno, EK, if_neg c1, if_neg c2])
          have E2 : Hid (evcP p (k : Int) = if bakE p k = 0 then { bakP p k with f := (bakP p k).f.set k noF } else bakP p k) := Lib.hid (by unfold evcP; rw [if_neg hno, EK, if_neg c1, if_neg c2])
          have HB2 := Lib.hid (HB.out k hlt)
          rw [c3] at y2
          clear hno c2 c3 HB
          go_wp2_with fail
          refine (HB2.out).mono ?_
          rintro r w1 ⟨rfl, hq⟩
          have Q1' := Lib.hid hq
          clear hq HB2 x0 x1 y0 y1 y2 y3 y4 f0 f1
          by_cases he : bakE p k = 0
          · rw [he]
            have HT := Lib.hid (rset15_any Q1'.out.1 (by rw [bakP_len]; exact hlen.2) (Nat.le_trans HBASE.out Q1'.out.2.1.size) k (by rw [bakP_len]; exact hlt) noF)
            have E3 : Hid (evcP p (k : Int) = { bakP p k with f := (bakP p k).f.set k noF }) := Lib.hid (by rw [E2.out, if_pos he])
            rw [he] at E1
            clear he E2
            go_wp2_with fail
            refine (HT.out).mono ?_
            rintro r w2 ⟨rfl, hq⟩
            have FF : Hid (RQ base Q R (evcP p (k : Int)) u w2) := Lib.hid (by rw [E3.out]; exact Q1'.out.trans hq)
            clear hq
            go_wp2_with fail
            go_ret
            exact ⟨by rw [E1.out]; rfl, FF.out⟩
          · have d5 : (bakE p k == 0) = false := by simpa using he
            have FF : Hid (RQ base Q R (evcP p (k : Int)) u w1) := Lib.hid (by rw [E2.out, if_neg he]; exact Q1'.out)
            go_wp2_with fail
            go_ret
            exact ⟨by rw [E1.out]; rfl, FF.out⟩
    · have hj3 : (p.f.length : Int) ≤ (k : Int) := by omega
      have d2 : decide ((p.f.length : Int) ≤ (k : Int)) = true := decide_eq_true hj3
      have E1 : Hid (evcE p (k : Int) = 3) := Lib.hid (if_pos (.inr hj3))
      have E2 : Hid (evcP p (k : Int) = p) := Lib.hid (if_pos (.inr hj3))
      go_wp2_with fail
      go_ret
      exact ⟨by rw [E1.out]; rfl, by rw [E2.out]; exact ST.out⟩
end
end Go.Proofs.YtmflkkkbahghgaaGreat
namespace Go.Proofs.YtmflkkkbahghgaaGreat
open Go.RowKit Go.Deep
set_option linter.unusedVariables false
set_option linter.unusedSimpArgs false
set_option maxRecDepth 100000

section
variable {base Q R : Nat} {p : Plt} {u : World}
set_option maxHeartbeats 3200000 in
theorem rdrop15_any (h : RPl base Q R p u) (ok : OkR p) (hbase : base ≤ u.heap.size) (l : Int) : Calls Tryz.prog 36 #[.pointer (some ⟨R, 0, none⟩), .int .i64 l] u fun r u' => r = .returned (.int .i64 (drpE p l)) ∧ RQ base Q R (drpP p l) u u' := by
  obtain ⟨a, c, x0, x1, x2, hf, f0, f1, f2⟩ := h.cells
  have HF := Lib.hid (rfind15_any h ok.len.2 l)
  have HD := Lib.hid (rdrop14_any h.st ok.now hbase l)
  have hlen := ok.len
  have H := Lib.hid h
  have F := Lib.hid hf
  have ST := Lib.hid (h.stays (Below.refl _ _))
  have HBASE := Lib.hid hbase
  clear h x2 f2 ok hbase hf
  go_enter Tryz.func36, Tryz.ntmps36
  go_wp2_with fail
  refine (HF.out).mono ?_
  rintro r w1 ⟨rfl, e1⟩
  rw [e1]
  clear HF e1 w1
  by_cases hlt : fndF p.f l < p.f.length
  · have EF : Hid (fndI p.f l = (fndF p.f l : Int)) := Lib.hid (if_pos hlt)
    rw [EF.out]
    generalize hi : fndF p.f l = i at *
    have HI := Lib.hid hi
    clear hi EF
    obtain ⟨b, ha, y0, y1, y2, y3, y4⟩ := FRow.look F.out hlt
    subst ha
    have hj1 : (i : Int) < (p.f.length : Int) := by omega
    have hj2 : (0 : Int) ≤ (i : Int) := by omega
    have d1 : decide ((0 : Int) ≤ (i : Int)) = true := decide_eq_true hj2
    by_cases c2 : 0 < (frA p.f i).held
    · have c3 : (0 : Int) < ((frA p.f i).held : Int) := by omega
      have d4 : decide ((0 : Int) < ((frA p.f i).held : Int)) = true := decide_eq_true c3
      have EP : Hid (pinE p l = 0) := Lib.hid (by unfold pinE; rw [HI.out]; exact if_pos ⟨hlt, c2⟩)
      have E1 : Hid (drpE p l = 16) := Lib.hid (if_pos EP.out)
      have E2 : Hid (drpP p l = p) := Lib.hid (by unfold drpP; rw [E1.out]; rfl)
      clear HD
      go_wp2_with fail
      go_ret
      exact ⟨by rw [E1.out]; rfl, by rw [E2.out]; exact ST.out⟩
    · have c3 : (frA p.f i).held = 0 := by omega
      have EP : Hid (pinE p l = 16) := Lib.hid (by unfold pinE; rw [HI.out]; exact if_neg fun h9 => c2 h9.2)
      have E1 : Hid (drpE p l = dropSE p.x l) := Lib.hid (by unfold drpE; rw [EP.out]; rfl)
      have E2 : Hid (drpP p l = if dropSE p.x l = 0 then { p with x := dropSX p.x l, f := p.f.set i noF } else p) := Lib.hid (by unfold drpP; rw [E1.out, HI.out, if_pos hlt])
      have EX : Hid (dropSE p.x l ≠ 0 → dropSX p.x l = p.x) := Lib.hid (fun h9 => if_neg fun h8 => h9 (if_pos h8))
      rw [c3] at y2
      clear c2 c3
      go_wp2_with fail
      refine (HD.out).mono ?_
      rintro r w1 ⟨rfl, hrp⟩
      have Q1' := Lib.hid (H.out.stored hrp)
      clear hrp HD x0 x1 y0 y1 y2 y3 y4 f0 f1
      by_cases he : dropSE p.x l = 0
      · have HT := Lib.hid (rset15_any Q1'.out.1 hlen.2 (Nat.le_trans HBASE.out Q1'.out.2.1.size) i hlt noF)
        have E3 : Hid (drpP p l = { p with x := dropSX p.x l, f := p.f.set i noF }) := Lib.hid (by rw [E2.out, if_pos he])
        rw [he] at E1 ⊢
        clear he E2 EX
        go_wp2_with fail
        refine (HT.out).mono ?_
        rintro r w2 ⟨rfl, hq⟩
        have FF : Hid (RQ base Q R (drpP p l) u w2) := Lib.hid (by rw [E3.out]; exact Q1'.out.trans hq)
        clear hq
        go_wp2_with fail
        go_ret
        exact ⟨by rw [E1.out]; rfl, FF.out⟩
      · have d5 : (dropSE p.x l == 0) = false := by simpa using he
        have FF : Hid (RQ base Q R (drpP p l) u w1) := Lib.hid (by
          have h9 := Q1'.out
          rw [EX.out he] at h9
          rw [E2.out, if_neg he]
          exact h9)
        go_wp2_with fail
        go_ret
        exact ⟨by rw [E1.out]; rfl, FF.out⟩
  · have E9 : Hid (fndI p.f l = -1) := Lib.hid (if_neg hlt)
    have EP : Hid (pinE p l = 16) := Lib.hid (if_neg fun h9 => hlt h9.1)
    have E1 : Hid (drpE p l = dropSE p.x l) := Lib.hid (by unfold drpE; rw [EP.out]; rfl)
    have E2 : Hid (drpP p l = { p with x := dropSX p.x l }) := Lib.hid (by
      unfold drpP
      rw [E1.out, if_neg hlt]
      by_cases h9 : dropSE p.x l = 0
      · rw [if_pos h9]
      · rw [if_neg h9, show dropSX p.x l = p.x from if_neg fun h8 => h9 (if_pos h8)])
    rw [E9.out]
    go_wp2_with fail
    refine (HD.out).mono ?_
    rintro r w1 ⟨rfl, hrp⟩
    have FF : Hid (RQ base Q R (drpP p l) u w1) := Lib.hid (by rw [E2.out]; exact H.out.stored hrp)
    clear hrp HD
    by_cases he : dropSE p.x l = 0
    · rw [he] at E1 ⊢
      clear he
      go_wp2_with fail
      go_ret
      exact ⟨by rw [E1.out]; rfl, FF.out⟩
    · have d5 : (dropSE p.x l == 0) = false := by simpa using he
      go_wp2_with fail
      go_ret
      exact ⟨by rw [E1.out]; rfl, FF.out⟩
end
end Go.Proofs.YtmflkkkbahghgaaGreat
namespace Go.Proofs.YtmflkkkbahghgaaGreat
open Go.RowKit Go.Deep
set_option linter.unusedVariables false
set_option linter.unusedSimpArgs false
set_option maxRecDepth 100000

theorem fullP_le {s : ByteArray} (h : s.size ≤ 232) : (fullP s).size ≤ 232 := by
  unfold fullP
  rw [if_pos h, padN_size]
  omega
theorem OkR.put {p : Plt} (h : OkR p) (i : Nat) (x : Frm) (hx : x.held ≤ 2000000) (hb : x.b.size ≤ 232) : OkR { p with f := p.f.set i x } := by
  refine ⟨h.now, h.old, h.many, h.ep, by show 1 ≤ (p.f.set i x).length ∧ _; rw [List.length_set]; exact h.len, by show p.hand < (p.f.set i x).length; rw [List.length_set]; exact h.hand, fun k => ?_, fun k => ?_⟩
  · show (frA (p.f.set i x) k).held ≤ _
    rw [frA_set]
    split
    · exact hx
    · exact h.held k
  · show (frA (p.f.set i x) k).b.size ≤ _
    rw [frA_set]
    split
    · exact hb
    · exact h.b k
theorem OkR.hol {p : Plt} (h : OkR p) (hb : ∀ i, (frA p.f i).held ≤ 1999999) (hp : ∀ i, (slA p.x.now i).b.size ≤ 232) (l : Int) : OkR (holR p l).1 := by
  unfold holR
  split
  · have := hb (fndF p.f l)
    exact h.put _ _ (by show _ + 1 ≤ _; omega) (h.b _)
  · split
    · unfold newR
      split
      · split
        · exact (h.vic.bak _).put _ _ (by show 1 ≤ 2000000; omega) (hp _)
        · exact h.vic.bak _
      · exact h.vic
    · exact h
section
variable {base Q R : Nat} {p : Plt} {u : World}
set_option maxHeartbeats 1600000 in
theorem rget_pl (h : RPl base Q R p u) (ok : OkR p) (hh : ∀ i, (frA p.f i).held ≤ 1999999) (hp : ∀ i, (slA p.x.now i).b.size ≤ 232) (hbase : base ≤ u.heap.size) (l : Int) : Calls Tryz.prog 35 #[.pointer (some ⟨R, 0, none⟩), .int .i64 l] u fun r u' => r = .returned (.tuple #[.string (getR p l).2.1, .int .i64 (getR p l).2.2]) ∧ RQ base Q R (getR p l).1 u u' := by
  have HH := Lib.hid (rhold15_any h ok hbase l)
  have OK2 := Lib.hid (ok.hol hh hp l)
  have HBASE := Lib.hid hbase
  clear h ok hh hp hbase
  go_enter Tryz.func35, Tryz.ntmps35
  go_wp2_with fail
  refine (HH.out).mono ?_
  rintro r w1 ⟨rfl, hq⟩
  have Q1' := Lib.hid hq
  clear HH hq
  by_cases he : (holR p l).2.2 = 0
  · have E : Hid (getR p l = (letP (holR p l).1 l, (holR p l).2.1, 0)) := Lib.hid (if_pos he)
    have HT := Lib.hid (rlet15_any Q1'.out.1 OK2.out (Nat.le_trans HBASE.out Q1'.out.2.1.size) l)
    rw [he]
    clear he
    go_wp2_with fail
    refine (HT.out).mono ?_
    rintro r w2 ⟨rfl, hq⟩
    have FF : Hid (RQ base Q R (getR p l).1 u w2) := Lib.hid (by rw [E.out]; exact Q1'.out.trans hq)
    clear hq
    go_wp2_with fail
    go_ret2
    exact ⟨by rw [E.out]; rfl, FF.out⟩
  · have E : Hid (getR p l = holR p l) := Lib.hid (if_neg he)
    have d1 : ((holR p l).2.2 == 0) = false := by simpa using he
    have FF : Hid (RQ base Q R (getR p l).1 u w1) := Lib.hid (by rw [E.out]; exact Q1'.out)
    go_wp2_with fail
    go_ret2
    exact ⟨by rw [E.out]; rfl, FF.out⟩
set_option maxHeartbeats 1600000 in
theorem rput_pl (h : RPl base Q R p u) (ok : OkR p) (hh : ∀ i, (frA p.f i).held ≤ 1999999) (hp : ∀ i, (slA p.x.now i).b.size ≤ 232) (hbase : base ≤ u.heap.size) (l : Int) (s : ByteArray) (hs : s.size ≤ 1000000) : Calls Tryz.prog 39 #[.pointer (some ⟨R, 0, none⟩), .int .i64 l, .string s] u fun r u' => r = .returned (.int .i64 (putE15 p l s)) ∧ RQ base Q R (putP p l s) u u' := by
  have HH := Lib.hid (rhold15_any h ok hbase l)
  have OK2 := Lib.hid (ok.hol hh hp l)
  have HBASE := Lib.hid hbase
  have ST := Lib.hid (h.stays (Below.refl _ _))
  clear h ok hh hp hbase
  go_enter Tryz.func39, Tryz.ntmps39
  by_cases hbig : 232 < s.size
  · have d0 : decide ((232 : Int) < (s.size : Int)) = true := decide_eq_true (by omega)
    have E1 : Hid (putE15 p l s = 4) := Lib.hid (if_pos hbig)
    have E2 : Hid (putP p l s = p) := Lib.hid (if_pos hbig)
    go_wp2_with fail
    go_ret
    exact ⟨by rw [E1.out]; rfl, by rw [E2.out]; exact ST.out⟩
  · have d0 : decide ((232 : Int) < (s.size : Int)) = false := decide_eq_false (by omega)
    have E1 : Hid (putE15 p l s = (holR p l).2.2) := Lib.hid (if_neg hbig)
    have E2 : Hid (putP p l s = if (holR p l).2.2 = 0 then letP (setP (holR p l).1 l s) l else (holR p l).1) := Lib.hid (if_neg hbig)
    go_wp2_with fail
    refine (HH.out).mono ?_
    rintro r w1 ⟨rfl, hq⟩
    have Q1' := Lib.hid hq
    clear HH hq
    by_cases he : (holR p l).2.2 = 0
    · have E3 : Hid (putP p l s = letP (setP (holR p l).1 l s) l) := Lib.hid (by rw [E2.out, if_pos he])
      have OK3 : Hid (OkR (setP (holR p l).1 l s)) := Lib.hid (by
        unfold setP
        split
        · exact OK2.out.put _ _ (OK2.out.held _) (fullP_le (by omega))
        · exact OK2.out)
      have HT := Lib.hid (rset_pl Q1'.out.1 OK2.out (Nat.le_trans HBASE.out Q1'.out.2.1.size) l s hs)
      rw [he] at E1 ⊢
      clear he E2
      go_wp2_with fail
      refine (HT.out).mono ?_
      rintro r w2 ⟨rfl, hq⟩
      have Q2 := Lib.hid (Q1'.out.trans hq)
      have HL := Lib.hid (rlet15_any Q2.out.1 OK3.out (Nat.le_trans HBASE.out Q2.out.2.1.size) l)
      clear hq HT
      go_wp2_with fail
      refine (HL.out).mono ?_
      rintro r w3 ⟨rfl, hq⟩
      have FF : Hid (RQ base Q R (putP p l s) u w3) := Lib.hid (by rw [E3.out]; exact Q2.out.trans hq)
      clear hq HL
      go_wp2_with fail
      go_ret
      exact ⟨by rw [E1.out]; rfl, FF.out⟩
    · have d1 : ((holR p l).2.2 == 0) = false := by simpa using he
      have FF : Hid (RQ base Q R (putP p l s) u w1) := Lib.hid (by rw [E2.out, if_neg he]; exact Q1'.out)
      go_wp2_with fail
      go_ret
      exact ⟨by rw [E1.out]; rfl, FF.out⟩
end
end Go.Proofs.YtmflkkkbahghgaaGreat
namespace Go.Proofs.YtmflkkkbahghgaaGreat
open Go.RowKit Go.Deep
set_option linter.unusedVariables false
set_option linter.unusedSimpArgs false
set_option maxRecDepth 100000

section
variable {base Q R : Nat} {p : Plt} {u : World}
set_option maxHeartbeats 1600000 in
theorem rheld15_any (h : RPl base Q R p u) (hl : p.f.length ≤ 32) : Calls Tryz.prog 52 #[.pointer (some ⟨R, 0, none⟩)] u fun r u' => r = .returned (.int .i64 (heldF p.f : Int)) ∧ u' = u := by
  obtain ⟨a, c, x0, x1, x2, hf, f0, f1, f2⟩ := h.cells
  have F := Lib.hid hf
  clear h hf x0 x2
  go_enter Tryz.func52, Tryz.ntmps52
  go_wp2_with fail
  go_loopw [3, 4] (fun m i wr => ∃ j : Nat, j ≤ p.f.length ∧ i = .int .i64 j ∧ m = .int .i64 (cntB (heldB p.f) j : Int) ∧ wr = u) (fun _ i _ => p.f.length - (intOf i).toNat)
  case atStart => exact ⟨0, Nat.zero_le _, rfl, rfl, rfl⟩
  case round =>
    obtain ⟨j, hj, rfl, rfl, hw⟩ := hrel
    rw [hw]
    clear hw wr
    have hle := cntB_le (heldB p.f) j
    by_cases hlt : j < p.f.length
    · have hj1 : (j : Int) < (p.f.length : Int) := by omega
      have hj2 : (0 : Int) ≤ (j : Int) := by omega
      have d1 : decide ((j : Int) < (p.f.length : Int)) = true := by simp [hlt]
      obtain ⟨b, ha, y0, y1, y2, y3, y4⟩ := FRow.look F.out hlt
      subst ha
      by_cases hz : 0 < (frA p.f j).held
      · have c3 : (0 : Int) < ((frA p.f j).held : Int) := by omega
        have d4 : decide ((0 : Int) < ((frA p.f j).held : Int)) = true := decide_eq_true c3
        have E : Hid (cntB (heldB p.f) (j + 1) = cntB (heldB p.f) j + 1) := Lib.hid (by simp only [cntB]; rw [if_pos (show heldB p.f j = true from decide_eq_true hz)])
        generalize cntB (heldB p.f) j = m at *
        go_wp2_with fail
        go_roundw
        case rel => exact ⟨j + 1, hlt, by go_num, by rw [E.out]; go_num, trivial⟩
        case measure => simp [intOf]; omega
      · have c3 : (frA p.f j).held = 0 := by omega
        rw [c3] at y2
        have E : Hid (cntB (heldB p.f) (j + 1) = cntB (heldB p.f) j) := Lib.hid (by simp only [cntB]; rw [if_neg (by unfold heldB; simpa using hz)]; rfl)
        clear c3 hz
        generalize cntB (heldB p.f) j = m at *
        go_wp2_with fail
        go_roundw
        case rel => exact ⟨j + 1, hlt, by go_num, by rw [E.out], trivial⟩
        case measure => simp [intOf]; omega
    · have hj9 : j = p.f.length := by omega
      have E : Hid (cntB (heldB p.f) j = heldF p.f) := Lib.hid (by rw [hj9]; rfl)
      have d1 : decide ((j : Int) < (p.f.length : Int)) = false := decide_eq_false (by omega)
      clear hj9
      go_wp2_with fail
      go_ret
      exact ⟨by rw [E.out]; rfl, rfl⟩
set_option maxHeartbeats 3200000 in
theorem rcommit15_any (h : RPl base Q R p u) (ok : OkR p) (hbase : base ≤ u.heap.size) : Calls Tryz.prog 16 #[.pointer (some ⟨R, 0, none⟩)] u fun r u' => r = .returned (.int .i64 (cmtE p)) ∧ RQ base Q R (cmtP p) u u' := by
  have HH := Lib.hid (rheld15_any h ok.len.2)
  have HBASE := Lib.hid hbase
  have OK := Lib.hid ok
  have ST := Lib.hid (h.stays (Below.refl _ _))
  have hlen := ok.len
  clear h ok hbase
  go_enter Tryz.func16, Tryz.ntmps16
  go_wp2_with fail
  refine (HH.out).mono ?_
  rintro r w1 ⟨rfl, e1⟩
  rw [e1]
  clear HH e1 w1
  by_cases hz : 0 < heldF p.f
  · have c3 : (0 : Int) < (heldF p.f : Int) := by omega
    have d4 : decide ((0 : Int) < (heldF p.f : Int)) = true := decide_eq_true c3
    have E1 : Hid (cmtE p = 16) := Lib.hid (if_pos hz)
    have E2 : Hid (cmtP p = p) := Lib.hid (if_pos hz)
    go_wp2_with fail
    go_ret
    exact ⟨by rw [E1.out]; rfl, by rw [E2.out]; exact ST.out⟩
  · have c3 : heldF p.f = 0 := by omega
    have E1 : Hid (cmtE p = if (basP p.f.length 0 p).2 = 0 then comSE (basP p.f.length 0 p).1.x else (basP p.f.length 0 p).2) := Lib.hid (if_neg hz)
    have E2 : Hid (cmtP p = if (basP p.f.length 0 p).2 = 0 then { (basP p.f.length 0 p).1 with x := comSX (basP p.f.length 0 p).1.x } else (basP p.f.length 0 p).1) := Lib.hid (if_neg hz)
    rw [c3]
    clear c3 hz
    go_wp2_with fail
    go_loopw [3] (fun i wr => ∃ (k : Nat) (p2 : Plt), k ≤ p.f.length ∧ i = .int .i64 k ∧ Hid (basP p.f.length 0 p = basP (p.f.length - k) k p2) ∧ p2.f.length = p.f.length ∧ Hid (OkR p2) ∧ Hid (RQ base Q R p2 u wr)) (fun i _ => p.f.length - (intOf i).toNat)
    case atStart => exact ⟨0, p, Nat.zero_le _, rfl, Lib.hid rfl, rfl, OK, ST⟩
    case round =>
      obtain ⟨k, p2, hk, rfl, HB, hfl, OK2, HQ⟩ := hrel
      obtain ⟨a2, c2, x0, x1, x2, hf, f0, f1, f2⟩ := HQ.out.1.cells
      rw [hfl] at x1 hf
      clear x2 f2 hf
      by_cases hlt : k < p.f.length
      · have d1 : decide ((k : Int) < (p.f.length : Int)) = true := decide_eq_true (by omega)
        have HK := Lib.hid (rback15_any HQ.out.1 OK2.out (Nat.le_trans HBASE.out HQ.out.2.1.size) k (by rw [hfl]; exact hlt))
        have ES : Hid (basP p.f.length 0 p = if bakE p2 k = 0 then basP (p.f.length - (k + 1)) (k + 1) (bakP p2 k) else (bakP p2 k, bakE p2 k)) := Lib.hid (by
          rw [HB.out, show p.f.length - k = (p.f.length - (k + 1)) + 1 from by omega]
          rfl)
        go_wp2_with fail
        refine (HK.out).mono ?_
        rintro r w2 ⟨rfl, hq⟩
        have Q2 := Lib.hid (HQ.out.trans hq)
        clear HK hq x0 x1 f0 f1
        by_cases he : bakE p2 k = 0
        · rw [he]
          have HB2 : Hid (basP p.f.length 0 p = basP (p.f.length - (k + 1)) (k + 1) (bakP p2 k)) := Lib.hid (by rw [ES.out, if_pos he])
          have hfl2 : (bakP p2 k).f.length = p.f.length := by rw [bakP_len]; exact hfl
          have OK3 := Lib.hid (OK2.out.bak k)
          clear he ES
          go_wp2_with fail
          go_roundw
          case rel => exact ⟨k + 1, _, hlt, by go_num, HB2, hfl2, OK3, Q2⟩
          case measure => simp [intOf]; omega
        · have d2 : (bakE p2 k != 0) = true := by simpa using he
          have EB : Hid (basP p.f.length 0 p = (bakP p2 k, bakE p2 k)) := Lib.hid (by rw [ES.out, if_neg he])
          have F1 : Hid (cmtE p = bakE p2 k) := Lib.hid (by rw [E1.out, EB.out]; exact if_neg he)
          have F2 : Hid (cmtP p = bakP p2 k) := Lib.hid (by rw [E2.out, EB.out]; exact if_neg he)
          go_wp2_with fail
          go_ret
          exact ⟨by rw [F1.out]; rfl, by rw [F2.out]; exact Q2.out⟩
      · have d1 : decide ((k : Int) < (p.f.length : Int)) = false := decide_eq_false (by omega)
        obtain rfl : k = p.f.length := by omega
        have EB : Hid (basP p.f.length 0 p = (p2, 0)) := Lib.hid (by rw [HB.out, Nat.sub_self]; rfl)
        have F1 : Hid (cmtE p = comSE p2.x) := Lib.hid (by rw [E1.out, EB.out]; rfl)
        have F2 : Hid (cmtP p = { p2 with x := comSX p2.x }) := Lib.hid (by rw [E2.out, EB.out]; rfl)
        have HC := Lib.hid (rcommit14_any HQ.out.1.st OK2.out.now OK2.out.old OK2.out.many (Nat.le_trans HBASE.out HQ.out.2.1.size) ⟨OK2.out.ep.1, by have := OK2.out.ep.2; omega⟩)
        go_wp2_with fail
        refine (HC.out).mono ?_
        rintro r w2 ⟨rfl, hrp⟩
        have FF : Hid (RQ base Q R (cmtP p) u w2) := Lib.hid (by rw [F2.out]; exact HQ.out.trans (HQ.out.1.stored hrp))
        clear hrp HC
        go_wp2_with fail
        go_ret
        exact ⟨by rw [F1.out]; rfl, FF.out⟩
end
end Go.Proofs.YtmflkkkbahghgaaGreat
