/- The contracts of the functions that read a list, at six types of elements. -/
import Derived.Test.YtemhbcjpgapjkaaMioLoop
namespace Go.Proofs.Ytemhbcjpgapjkaa
open Go.RowKit
set_option linter.unusedVariables false
set_option maxRecDepth 100000

/-- an instruction, an event, a program, a process -/
def RIns (s : ByteArray) (st : St) (r : Value) (_ : World) : Prop := r = .agg #[.int .i64 (insV s st).op, .int .i64 (insV s st).a, .int .i64 (insV s st).b, .int .i64 (insV s st).c]
def REv (s : ByteArray) (st : St) (r : Value) (_ : World) : Prop := r = .agg #[.float .f64 (evV s st).t, .int .i64 (evV s st).dst, .int .i64 (evV s st).pay]
abbrev RPr (s : ByteArray) : St → Value → World → Prop := Lst 4 45 clA s (insN s) (RIns s)
abbrev RWd (s : ByteArray) : St → Value → World → Prop := Lst 1 3 cl1 s (stN s) (RI s)
def RLp (s : ByteArray) (st : St) (r : Value) (u : World) : Prop := ∃ v, r = .agg #[.int .i64 (stI s st), v] ∧ RWd s (stN s st) v u
theorem stab_ins (E : TypeId) (s : ByteArray) : Stab E (RIns s) := fun _ _ _ _ h _ => h
theorem stab_ev (E : TypeId) (s : ByteArray) : Stab E (REv s) := fun _ _ _ _ h _ => h
theorem stab_pr {E : TypeId} (hE : 45 ≠ E) (s : ByteArray) : Stab E (RPr s) := stab_lst hE (stab_ins _ s)
theorem stab_wd {E : TypeId} (hE : 3 ≠ E) (s : ByteArray) : Stab E (RWd s) := stab_lst hE (stab_ri _ s)
theorem stab_lp {E : TypeId} (hE : 3 ≠ E) (s : ByteArray) : Stab E (RLp s) := by
  rintro st r u u2 ⟨v, e, h⟩ k
  exact ⟨v, e, stab_wd hE s _ _ _ _ h k⟩

theorem info_lsW : (Try.prog.info? 3).map (fun i => (i.zero, i.size, i.bytes)) = some (some (.int .i64 0), 1, 8) := by kernel_rfl
set_option maxHeartbeats 1600000 in
theorem lsW_reads (tb : Nat) (s : ByteArray) (nx : St → St) (hS : Stab 3 (RI s)) (q1 q2 q3 : Nat) (c el : Value) (u : World) (h1 : Bx q1 c u) (hc : Reads tb s (stN s) (RI s) c u) (h2 : Bx q2 (.pointer (some ⟨tb, 0, none⟩)) u) (h3 : Bx q3 el u) (he : Reads tb s nx (RI s) el u) :
    Reads tb s (lsE s nx) (Lst 1 3 cl1 s nx (RI s)) (.func (.func 103) #[] #[.pointer (some ⟨q1, 0, none⟩), .pointer (some ⟨q2, 0, none⟩), .pointer (some ⟨q3, 0, none⟩)]) u := by
  refine ⟨_, _, rfl, fun w => callFunc_go Try.func103 (by kernel_rfl) (by kernel_rfl) _ w, fun w st k ht => ?_⟩
  obtain ⟨i0, hi, hz0, hz1, hz2⟩ := info_parts info_lsW
  obtain ⟨N1, caps1, rfl, go1⟩ := hc.form
  obtain ⟨N3, caps3, rfl, go3⟩ := he.form
  have B1 := Lib.hid (h1.below k)
  have B2 := Lib.hid (h2.below k)
  have B3 := Lib.hid (h3.below k)
  have n1 : tb ≠ q2 := by obtain ⟨c, t, f, e⟩ := cell_block B2.out; exact (Hd.cells e).1
  have HC := Lib.hid (Reads.call (hc.below k) (Kp.refl tb w) ht)
  have HE := Lib.hid (he.below k)
  have HT0 := Lib.hid ht.lt
  have hc1 := B1.out.now
  clear h1 h2 h3 hc he k ht
  go_enter Try.func103, Try.ntmps103
  go_wp2_with fail
  refine HC.out.mono ?_
  rintro e w1 ⟨r1, rfl, hr1, ht1, hk1⟩
  obtain rfl : r1 = .int .i64 (stI s st) := hr1
  have HT1 := Lib.hid ht1
  have HK1 := Lib.hid hk1
  have c2 := (B2.out.kp hk1).now
  have c3 := (B3.out.kp hk1).now
  by_cases hbad : 0 ≤ stI s st ∧ stI s st ≤ 48
  · have HN : Hid (lsN s st = (stI s st).toNat) := by show _ = _; unfold lsN; rw [if_pos hbad]
    have HL : Hid (LoopAt tb s nx (RI s) 1 3 cl1 w (lsS s st) 0 (.slice none 0 0) w1) := by
      refine loop_start ?_ hk1
      unfold lsS; rw [if_pos hbad]; exact ht1
    obtain ⟨m, hm⟩ := Int.eq_ofNat_of_zero_le hbad.1
    have hm48 : m ≤ 48 := by have := hbad.2; omega
    have HM : Hid (lsN s st = m) := by show _ = _; rw [HN.out, hm]; rfl
    rw [hm]
    clear hbad hm ht1 hk1 HN HT1
    have d1 : decide ((m : Int) < 0) = false := by rw [decide_eq_false_iff_not]; omega
    have d2 : decide ((48 : Int) < (m : Int)) = false := by rw [decide_eq_false_iff_not]; omega
    go_wp2_with fail
    go_loopw [5, 18] (fun v i wr => ∃ j : Nat, j ≤ m ∧ i = .int .i64 j ∧ LoopAt tb s nx (RI s) 1 3 cl1 w (lsS s st) j v wr) (fun _ i _ => m - (intOf i).toNat)
    case atStart => exact ⟨0, Nat.zero_le _, rfl, HL.out⟩
    case round =>
      obtain ⟨j, hj, rfl, hl⟩ := hrel
      rename_i vL _ _
      by_cases hlt : j < m
      · have HL2 := Lib.hid hl
        have c4 := (B3.out.kp hl.kp).now
        have HE2 := Lib.hid (Reads.call HE.out hl.kp hl.text)
        clear hl
        go_wp2_with fail
        refine HE2.out.mono ?_
        rintro e w2 ⟨r, rfl, hr, ht2, hk2⟩
        obtain ⟨g, hg1, hg2⟩ := HL2.out.own
        have HR := Lib.hid hr
        obtain rfl : r = .int .i64 (stI s (it nx j (lsS s st))) := hr
        have hown := (own_kp hg1 HT0.out hk2).alloc (.cells #[.int .i64 (stI s (it nx j (lsS s st)))] 3)
        have hbase : w.heap.size ≤ (w2.alloc (.cells #[.int .i64 (stI s (it nx j (lsS s st)))] 3)).heap.size := by have := HL2.out.kp.size; have := hk2.size; simp; omega
        have HG1 := Lib.hid hg1
        have HG2 := Lib.hid hg2
        have HT2 := Lib.hid ht2
        have HK2 := Lib.hid hk2
        clear hg1 hg2 ht2 hk2
        go_wp2_with (at_builtin; refine wpList_append_own _ rfl _ _ 41 rfl w.heap.size 3 i0 (.int .i64 0) 1 8 Try.underlying41 hi hz0 hz1 hz2 rfl (by decide) _ j _ rfl hown ⟨w2.heap.size, 0, none⟩ 1 1 (#[.int .i64 (stI s (it nx j (lsS s st)))]).toList rfl rfl (news_cells w2 _ _) (by simp [Value.oneCell']) (by unfold maxLen; omega) (by omega) hbase ?_)
        intro v1 w4 hown4 hgr hnn
        have R := Lib.hid (loop_step (by decide) HT0.out hS HG1.out HG2.out HL2.out.kp HR.out HT2.out HK2.out (cs := #[.int .i64 (stI s (it nx j (lsS s st)))]) rfl (by
          intro k hk
          obtain rfl : k = 0 := by omega
          rfl) hown4 hgr)
        clear hown4 hgr hnn hown hbase
        go_wp2_with fail
        go_roundw
        case rel => exact ⟨j + 1, by omega, by go_num, R.out⟩
        case measure => simp [intOf]; omega
      · obtain rfl : j = m := by omega
        have hl := hl
        rw [← HM.out] at hl
        have HF := Lib.hid (loop_end HT0.out hl)
        clear hl
        go_wp2_with fail
        go_ret
        exact ⟨_, rfl, HF.out⟩
  · obtain ⟨e1, e2⟩ := ls_bad hbad
    have HB : Hid (Lst 1 3 cl1 s nx (RI s) st (.slice none 0 0) (Hd tb (w1.setCell ⟨tb, 2, none⟩ (.int .i64 6))) ∧ TextAt tb s (lsE s nx st) (w1.setCell ⟨tb, 2, none⟩ (.int .i64 6)) ∧ Kp tb w (w1.setCell ⟨tb, 2, none⟩ (.int .i64 6))) :=
      ⟨lst_bad e1 _, by rw [e2]; exact text_bad ht1, hk1.trans (Kp.set _ _ _ _)⟩
    obtain ⟨_, _, x, _, z4⟩ := ht1
    obtain ⟨t0, t1, t2, hfz⟩ := TextAt.cells z4
    have f2 := hfz 2
    clear e1 e2 hk1 HT1 HK1 z4 hfz HE
    generalize stI s st = n at *
    by_cases hneg : n < 0
    · have d1 : decide (n < 0) = true := by simp [hneg]
      clear hbad hneg
      go_wp2_with fail
      go_ret
      exact ⟨_, rfl, HB.out⟩
    · have d1 : decide (n < 0) = false := by rw [decide_eq_false_iff_not]; omega
      have d2 : decide (48 < n) = true := by rw [decide_eq_true_eq]; omega
      clear hbad hneg
      go_wp2_with fail
      go_ret
      exact ⟨_, rfl, HB.out⟩

theorem info_lsF : (Try.prog.info? 22).map (fun i => (i.zero, i.size, i.bytes)) = some (some (.float .f64 0), 1, 8) := by kernel_rfl
set_option maxHeartbeats 1600000 in
theorem lsF_reads (tb : Nat) (s : ByteArray) (nx : St → St) (hS : Stab 22 (RF s)) (q1 q2 q3 : Nat) (c el : Value) (u : World) (h1 : Bx q1 c u) (hc : Reads tb s (stN s) (RI s) c u) (h2 : Bx q2 (.pointer (some ⟨tb, 0, none⟩)) u) (h3 : Bx q3 el u) (he : Reads tb s nx (RF s) el u) :
    Reads tb s (lsE s nx) (Lst 1 22 cl1 s nx (RF s)) (.func (.func 87) #[] #[.pointer (some ⟨q1, 0, none⟩), .pointer (some ⟨q2, 0, none⟩), .pointer (some ⟨q3, 0, none⟩)]) u := by
  refine ⟨_, _, rfl, fun w => callFunc_go Try.func87 (by kernel_rfl) (by kernel_rfl) _ w, fun w st k ht => ?_⟩
  obtain ⟨i0, hi, hz0, hz1, hz2⟩ := info_parts info_lsF
  obtain ⟨N1, caps1, rfl, go1⟩ := hc.form
  obtain ⟨N3, caps3, rfl, go3⟩ := he.form
  have B1 := Lib.hid (h1.below k)
  have B2 := Lib.hid (h2.below k)
  have B3 := Lib.hid (h3.below k)
  have n1 : tb ≠ q2 := by obtain ⟨c, t, f, e⟩ := cell_block B2.out; exact (Hd.cells e).1
  have HC := Lib.hid (Reads.call (hc.below k) (Kp.refl tb w) ht)
  have HE := Lib.hid (he.below k)
  have HT0 := Lib.hid ht.lt
  have hc1 := B1.out.now
  clear h1 h2 h3 hc he k ht
  go_enter Try.func87, Try.ntmps87
  go_wp2_with fail
  refine HC.out.mono ?_
  rintro e w1 ⟨r1, rfl, hr1, ht1, hk1⟩
  obtain rfl : r1 = .int .i64 (stI s st) := hr1
  have HT1 := Lib.hid ht1
  have HK1 := Lib.hid hk1
  have c2 := (B2.out.kp hk1).now
  have c3 := (B3.out.kp hk1).now
  by_cases hbad : 0 ≤ stI s st ∧ stI s st ≤ 48
  · have HN : Hid (lsN s st = (stI s st).toNat) := by show _ = _; unfold lsN; rw [if_pos hbad]
    have HL : Hid (LoopAt tb s nx (RF s) 1 22 cl1 w (lsS s st) 0 (.slice none 0 0) w1) := by
      refine loop_start ?_ hk1
      unfold lsS; rw [if_pos hbad]; exact ht1
    obtain ⟨m, hm⟩ := Int.eq_ofNat_of_zero_le hbad.1
    have hm48 : m ≤ 48 := by have := hbad.2; omega
    have HM : Hid (lsN s st = m) := by show _ = _; rw [HN.out, hm]; rfl
    rw [hm]
    clear hbad hm ht1 hk1 HN HT1
    have d1 : decide ((m : Int) < 0) = false := by rw [decide_eq_false_iff_not]; omega
    have d2 : decide ((48 : Int) < (m : Int)) = false := by rw [decide_eq_false_iff_not]; omega
    go_wp2_with fail
    go_loopw [5, 18] (fun v i wr => ∃ j : Nat, j ≤ m ∧ i = .int .i64 j ∧ LoopAt tb s nx (RF s) 1 22 cl1 w (lsS s st) j v wr) (fun _ i _ => m - (intOf i).toNat)
    case atStart => exact ⟨0, Nat.zero_le _, rfl, HL.out⟩
    case round =>
      obtain ⟨j, hj, rfl, hl⟩ := hrel
      rename_i vL _ _
      by_cases hlt : j < m
      · have HL2 := Lib.hid hl
        have c4 := (B3.out.kp hl.kp).now
        have HE2 := Lib.hid (Reads.call HE.out hl.kp hl.text)
        clear hl
        go_wp2_with fail
        refine HE2.out.mono ?_
        rintro e w2 ⟨r, rfl, hr, ht2, hk2⟩
        obtain ⟨g, hg1, hg2⟩ := HL2.out.own
        have HR := Lib.hid hr
        obtain rfl : r = .float .f64 (stF s (it nx j (lsS s st))) := hr
        have hown := (own_kp hg1 HT0.out hk2).alloc (.cells #[.float .f64 (stF s (it nx j (lsS s st)))] 22)
        have hbase : w.heap.size ≤ (w2.alloc (.cells #[.float .f64 (stF s (it nx j (lsS s st)))] 22)).heap.size := by have := HL2.out.kp.size; have := hk2.size; simp; omega
        have HG1 := Lib.hid hg1
        have HG2 := Lib.hid hg2
        have HT2 := Lib.hid ht2
        have HK2 := Lib.hid hk2
        clear hg1 hg2 ht2 hk2
        go_wp2_with (at_builtin; refine wpList_append_own _ rfl _ _ 23 rfl w.heap.size 22 i0 (.float .f64 0) 1 8 Try.underlying23 hi hz0 hz1 hz2 rfl (by decide) _ j _ rfl hown ⟨w2.heap.size, 0, none⟩ 1 1 (#[.float .f64 (stF s (it nx j (lsS s st)))]).toList rfl rfl (news_cells w2 _ _) (by simp [Value.oneCell']) (by unfold maxLen; omega) (by omega) hbase ?_)
        intro v1 w4 hown4 hgr hnn
        have R := Lib.hid (loop_step (by decide) HT0.out hS HG1.out HG2.out HL2.out.kp HR.out HT2.out HK2.out (cs := #[.float .f64 (stF s (it nx j (lsS s st)))]) rfl (by
          intro k hk
          obtain rfl : k = 0 := by omega
          rfl) hown4 hgr)
        clear hown4 hgr hnn hown hbase
        go_wp2_with fail
        go_roundw
        case rel => exact ⟨j + 1, by omega, by go_num, R.out⟩
        case measure => simp [intOf]; omega
      · obtain rfl : j = m := by omega
        have hl := hl
        rw [← HM.out] at hl
        have HF := Lib.hid (loop_end HT0.out hl)
        clear hl
        go_wp2_with fail
        go_ret
        exact ⟨_, rfl, HF.out⟩
  · obtain ⟨e1, e2⟩ := ls_bad hbad
    have HB : Hid (Lst 1 22 cl1 s nx (RF s) st (.slice none 0 0) (Hd tb (w1.setCell ⟨tb, 2, none⟩ (.int .i64 6))) ∧ TextAt tb s (lsE s nx st) (w1.setCell ⟨tb, 2, none⟩ (.int .i64 6)) ∧ Kp tb w (w1.setCell ⟨tb, 2, none⟩ (.int .i64 6))) :=
      ⟨lst_bad e1 _, by rw [e2]; exact text_bad ht1, hk1.trans (Kp.set _ _ _ _)⟩
    obtain ⟨_, _, x, _, z4⟩ := ht1
    obtain ⟨t0, t1, t2, hfz⟩ := TextAt.cells z4
    have f2 := hfz 2
    clear e1 e2 hk1 HT1 HK1 z4 hfz HE
    generalize stI s st = n at *
    by_cases hneg : n < 0
    · have d1 : decide (n < 0) = true := by simp [hneg]
      clear hbad hneg
      go_wp2_with fail
      go_ret
      exact ⟨_, rfl, HB.out⟩
    · have d1 : decide (n < 0) = false := by rw [decide_eq_false_iff_not]; omega
      have d2 : decide (48 < n) = true := by rw [decide_eq_true_eq]; omega
      clear hbad hneg
      go_wp2_with fail
      go_ret
      exact ⟨_, rfl, HB.out⟩

theorem info_lsI : (Try.prog.info? 45).map (fun i => (i.zero, i.size, i.bytes)) = some (some (.agg #[.int .i64 0, .int .i64 0, .int .i64 0, .int .i64 0]), 4, 32) := by kernel_rfl
set_option maxHeartbeats 1600000 in
theorem lsI_reads (tb : Nat) (s : ByteArray) (nx : St → St) (hS : Stab 45 (RIns s)) (q1 q2 q3 : Nat) (c el : Value) (u : World) (h1 : Bx q1 c u) (hc : Reads tb s (stN s) (RI s) c u) (h2 : Bx q2 (.pointer (some ⟨tb, 0, none⟩)) u) (h3 : Bx q3 el u) (he : Reads tb s nx (RIns s) el u) :
    Reads tb s (lsE s nx) (Lst 4 45 clA s nx (RIns s)) (.func (.func 89) #[] #[.pointer (some ⟨q1, 0, none⟩), .pointer (some ⟨q2, 0, none⟩), .pointer (some ⟨q3, 0, none⟩)]) u := by
  refine ⟨_, _, rfl, fun w => callFunc_go Try.func89 (by kernel_rfl) (by kernel_rfl) _ w, fun w st k ht => ?_⟩
  obtain ⟨i0, hi, hz0, hz1, hz2⟩ := info_parts info_lsI
  obtain ⟨N1, caps1, rfl, go1⟩ := hc.form
  obtain ⟨N3, caps3, rfl, go3⟩ := he.form
  have B1 := Lib.hid (h1.below k)
  have B2 := Lib.hid (h2.below k)
  have B3 := Lib.hid (h3.below k)
  have n1 : tb ≠ q2 := by obtain ⟨c, t, f, e⟩ := cell_block B2.out; exact (Hd.cells e).1
  have HC := Lib.hid (Reads.call (hc.below k) (Kp.refl tb w) ht)
  have HE := Lib.hid (he.below k)
  have HT0 := Lib.hid ht.lt
  have hc1 := B1.out.now
  clear h1 h2 h3 hc he k ht
  go_enter Try.func89, Try.ntmps89
  go_wp2_with fail
  refine HC.out.mono ?_
  rintro e w1 ⟨r1, rfl, hr1, ht1, hk1⟩
  obtain rfl : r1 = .int .i64 (stI s st) := hr1
  have HT1 := Lib.hid ht1
  have HK1 := Lib.hid hk1
  have c2 := (B2.out.kp hk1).now
  have c3 := (B3.out.kp hk1).now
  by_cases hbad : 0 ≤ stI s st ∧ stI s st ≤ 48
  · have HN : Hid (lsN s st = (stI s st).toNat) := by show _ = _; unfold lsN; rw [if_pos hbad]
    have HL : Hid (LoopAt tb s nx (RIns s) 4 45 clA w (lsS s st) 0 (.slice none 0 0) w1) := by
      refine loop_start ?_ hk1
      unfold lsS; rw [if_pos hbad]; exact ht1
    obtain ⟨m, hm⟩ := Int.eq_ofNat_of_zero_le hbad.1
    have hm48 : m ≤ 48 := by have := hbad.2; omega
    have HM : Hid (lsN s st = m) := by show _ = _; rw [HN.out, hm]; rfl
    rw [hm]
    clear hbad hm ht1 hk1 HN HT1
    have d1 : decide ((m : Int) < 0) = false := by rw [decide_eq_false_iff_not]; omega
    have d2 : decide ((48 : Int) < (m : Int)) = false := by rw [decide_eq_false_iff_not]; omega
    go_wp2_with fail
    go_loopw [5, 18] (fun v i wr => ∃ j : Nat, j ≤ m ∧ i = .int .i64 j ∧ LoopAt tb s nx (RIns s) 4 45 clA w (lsS s st) j v wr) (fun _ i _ => m - (intOf i).toNat)
    case atStart => exact ⟨0, Nat.zero_le _, rfl, HL.out⟩
    case round =>
      obtain ⟨j, hj, rfl, hl⟩ := hrel
      rename_i vL _ _
      by_cases hlt : j < m
      · have HL2 := Lib.hid hl
        have c4 := (B3.out.kp hl.kp).now
        have HE2 := Lib.hid (Reads.call HE.out hl.kp hl.text)
        clear hl
        go_wp2_with fail
        refine HE2.out.mono ?_
        rintro e w2 ⟨r, rfl, hr, ht2, hk2⟩
        obtain ⟨g, hg1, hg2⟩ := HL2.out.own
        have HR := Lib.hid hr
        obtain rfl : r = .agg #[.int .i64 (insV s (it nx j (lsS s st))).op, .int .i64 (insV s (it nx j (lsS s st))).a, .int .i64 (insV s (it nx j (lsS s st))).b, .int .i64 (insV s (it nx j (lsS s st))).c] := hr
        have hown := (own_kp hg1 HT0.out hk2).alloc (.cells #[.int .i64 (insV s (it nx j (lsS s st))).op, .int .i64 (insV s (it nx j (lsS s st))).a, .int .i64 (insV s (it nx j (lsS s st))).b, .int .i64 (insV s (it nx j (lsS s st))).c] 45)
        have hbase : w.heap.size ≤ (w2.alloc (.cells #[.int .i64 (insV s (it nx j (lsS s st))).op, .int .i64 (insV s (it nx j (lsS s st))).a, .int .i64 (insV s (it nx j (lsS s st))).b, .int .i64 (insV s (it nx j (lsS s st))).c] 45)).heap.size := by have := HL2.out.kp.size; have := hk2.size; simp; omega
        have HG1 := Lib.hid hg1
        have HG2 := Lib.hid hg2
        have HT2 := Lib.hid ht2
        have HK2 := Lib.hid hk2
        clear hg1 hg2 ht2 hk2
        go_wp2_with (at_builtin; refine wpList_append_own _ rfl _ _ 40 rfl w.heap.size 45 i0 (.agg #[.int .i64 0, .int .i64 0, .int .i64 0, .int .i64 0]) 4 32 Try.underlying40 hi hz0 hz1 hz2 rfl (by decide) _ j _ rfl hown ⟨w2.heap.size, 0, none⟩ 1 1 (#[.int .i64 (insV s (it nx j (lsS s st))).op, .int .i64 (insV s (it nx j (lsS s st))).a, .int .i64 (insV s (it nx j (lsS s st))).b, .int .i64 (insV s (it nx j (lsS s st))).c]).toList rfl rfl (news_cells w2 _ _) (by simp [Value.oneCell']) (by unfold maxLen; omega) (by omega) hbase ?_)
        intro v1 w4 hown4 hgr hnn
        have R := Lib.hid (loop_step (by decide) HT0.out hS HG1.out HG2.out HL2.out.kp HR.out HT2.out HK2.out (cs := #[.int .i64 (insV s (it nx j (lsS s st))).op, .int .i64 (insV s (it nx j (lsS s st))).a, .int .i64 (insV s (it nx j (lsS s st))).b, .int .i64 (insV s (it nx j (lsS s st))).c]) rfl (by
          intro k hk
          have : k = 0 ∨ k = 1 ∨ k = 2 ∨ k = 3 := by omega
          rcases this with rfl | rfl | rfl | rfl <;> rfl) hown4 hgr)
        clear hown4 hgr hnn hown hbase
        go_wp2_with fail
        go_roundw
        case rel => exact ⟨j + 1, by omega, by go_num, R.out⟩
        case measure => simp [intOf]; omega
      · obtain rfl : j = m := by omega
        have hl := hl
        rw [← HM.out] at hl
        have HF := Lib.hid (loop_end HT0.out hl)
        clear hl
        go_wp2_with fail
        go_ret
        exact ⟨_, rfl, HF.out⟩
  · obtain ⟨e1, e2⟩ := ls_bad hbad
    have HB : Hid (Lst 4 45 clA s nx (RIns s) st (.slice none 0 0) (Hd tb (w1.setCell ⟨tb, 2, none⟩ (.int .i64 6))) ∧ TextAt tb s (lsE s nx st) (w1.setCell ⟨tb, 2, none⟩ (.int .i64 6)) ∧ Kp tb w (w1.setCell ⟨tb, 2, none⟩ (.int .i64 6))) :=
      ⟨lst_bad e1 _, by rw [e2]; exact text_bad ht1, hk1.trans (Kp.set _ _ _ _)⟩
    obtain ⟨_, _, x, _, z4⟩ := ht1
    obtain ⟨t0, t1, t2, hfz⟩ := TextAt.cells z4
    have f2 := hfz 2
    clear e1 e2 hk1 HT1 HK1 z4 hfz HE
    generalize stI s st = n at *
    by_cases hneg : n < 0
    · have d1 : decide (n < 0) = true := by simp [hneg]
      clear hbad hneg
      go_wp2_with fail
      go_ret
      exact ⟨_, rfl, HB.out⟩
    · have d1 : decide (n < 0) = false := by rw [decide_eq_false_iff_not]; omega
      have d2 : decide (48 < n) = true := by rw [decide_eq_true_eq]; omega
      clear hbad hneg
      go_wp2_with fail
      go_ret
      exact ⟨_, rfl, HB.out⟩

theorem info_lsP : (Try.prog.info? 40).map (fun i => (i.zero, i.size, i.bytes)) = some (some (.slice none 0 0), 1, 24) := by kernel_rfl
set_option maxHeartbeats 1600000 in
theorem lsP_reads (tb : Nat) (s : ByteArray) (nx : St → St) (hS : Stab 40 (RPr s)) (q1 q2 q3 : Nat) (c el : Value) (u : World) (h1 : Bx q1 c u) (hc : Reads tb s (stN s) (RI s) c u) (h2 : Bx q2 (.pointer (some ⟨tb, 0, none⟩)) u) (h3 : Bx q3 el u) (he : Reads tb s nx (RPr s) el u) :
    Reads tb s (lsE s nx) (Lst 1 40 cl1 s nx (RPr s)) (.func (.func 88) #[] #[.pointer (some ⟨q1, 0, none⟩), .pointer (some ⟨q2, 0, none⟩), .pointer (some ⟨q3, 0, none⟩)]) u := by
  refine ⟨_, _, rfl, fun w => callFunc_go Try.func88 (by kernel_rfl) (by kernel_rfl) _ w, fun w st k ht => ?_⟩
  obtain ⟨i0, hi, hz0, hz1, hz2⟩ := info_parts info_lsP
  obtain ⟨N1, caps1, rfl, go1⟩ := hc.form
  obtain ⟨N3, caps3, rfl, go3⟩ := he.form
  have B1 := Lib.hid (h1.below k)
  have B2 := Lib.hid (h2.below k)
  have B3 := Lib.hid (h3.below k)
  have n1 : tb ≠ q2 := by obtain ⟨c, t, f, e⟩ := cell_block B2.out; exact (Hd.cells e).1
  have HC := Lib.hid (Reads.call (hc.below k) (Kp.refl tb w) ht)
  have HE := Lib.hid (he.below k)
  have HT0 := Lib.hid ht.lt
  have hc1 := B1.out.now
  clear h1 h2 h3 hc he k ht
  go_enter Try.func88, Try.ntmps88
  go_wp2_with fail
  refine HC.out.mono ?_
  rintro e w1 ⟨r1, rfl, hr1, ht1, hk1⟩
  obtain rfl : r1 = .int .i64 (stI s st) := hr1
  have HT1 := Lib.hid ht1
  have HK1 := Lib.hid hk1
  have c2 := (B2.out.kp hk1).now
  have c3 := (B3.out.kp hk1).now
  by_cases hbad : 0 ≤ stI s st ∧ stI s st ≤ 48
  · have HN : Hid (lsN s st = (stI s st).toNat) := by show _ = _; unfold lsN; rw [if_pos hbad]
    have HL : Hid (LoopAt tb s nx (RPr s) 1 40 cl1 w (lsS s st) 0 (.slice none 0 0) w1) := by
      refine loop_start ?_ hk1
      unfold lsS; rw [if_pos hbad]; exact ht1
    obtain ⟨m, hm⟩ := Int.eq_ofNat_of_zero_le hbad.1
    have hm48 : m ≤ 48 := by have := hbad.2; omega
    have HM : Hid (lsN s st = m) := by show _ = _; rw [HN.out, hm]; rfl
    rw [hm]
    clear hbad hm ht1 hk1 HN HT1
    have d1 : decide ((m : Int) < 0) = false := by rw [decide_eq_false_iff_not]; omega
    have d2 : decide ((48 : Int) < (m : Int)) = false := by rw [decide_eq_false_iff_not]; omega
    go_wp2_with fail
    go_loopw [5, 18] (fun v i wr => ∃ j : Nat, j ≤ m ∧ i = .int .i64 j ∧ LoopAt tb s nx (RPr s) 1 40 cl1 w (lsS s st) j v wr) (fun _ i _ => m - (intOf i).toNat)
    case atStart => exact ⟨0, Nat.zero_le _, rfl, HL.out⟩
    case round =>
      obtain ⟨j, hj, rfl, hl⟩ := hrel
      rename_i vL _ _
      by_cases hlt : j < m
      · have HL2 := Lib.hid hl
        have c4 := (B3.out.kp hl.kp).now
        have HE2 := Lib.hid (Reads.call HE.out hl.kp hl.text)
        clear hl
        go_wp2_with fail
        refine HE2.out.mono ?_
        rintro e w2 ⟨r, rfl, hr, ht2, hk2⟩
        obtain ⟨g, hg1, hg2⟩ := HL2.out.own
        have HR := Lib.hid hr
        obtain ⟨a5, n5, c5, rfl⟩ := hr.form
        have hown := (own_kp hg1 HT0.out hk2).alloc (.cells #[.slice a5 n5 c5] 40)
        have hbase : w.heap.size ≤ (w2.alloc (.cells #[.slice a5 n5 c5] 40)).heap.size := by have := HL2.out.kp.size; have := hk2.size; simp; omega
        have HG1 := Lib.hid hg1
        have HG2 := Lib.hid hg2
        have HT2 := Lib.hid ht2
        have HK2 := Lib.hid hk2
        clear hg1 hg2 ht2 hk2
        go_wp2_with (at_builtin; refine wpList_append_own _ rfl _ _ 24 rfl w.heap.size 40 i0 (.slice none 0 0) 1 24 Try.underlying24 hi hz0 hz1 hz2 rfl (by decide) _ j _ rfl hown ⟨w2.heap.size, 0, none⟩ 1 1 (#[.slice a5 n5 c5]).toList rfl rfl (news_cells w2 _ _) (by simp [Value.oneCell']) (by unfold maxLen; omega) (by omega) hbase ?_)
        intro v1 w4 hown4 hgr hnn
        have R := Lib.hid (loop_step (by decide) HT0.out hS HG1.out HG2.out HL2.out.kp HR.out HT2.out HK2.out (cs := #[.slice a5 n5 c5]) rfl (by
          intro k hk
          obtain rfl : k = 0 := by omega
          rfl) hown4 hgr)
        clear hown4 hgr hnn hown hbase
        go_wp2_with fail
        go_roundw
        case rel => exact ⟨j + 1, by omega, by go_num, R.out⟩
        case measure => simp [intOf]; omega
      · obtain rfl : j = m := by omega
        have hl := hl
        rw [← HM.out] at hl
        have HF := Lib.hid (loop_end HT0.out hl)
        clear hl
        go_wp2_with fail
        go_ret
        exact ⟨_, rfl, HF.out⟩
  · obtain ⟨e1, e2⟩ := ls_bad hbad
    have HB : Hid (Lst 1 40 cl1 s nx (RPr s) st (.slice none 0 0) (Hd tb (w1.setCell ⟨tb, 2, none⟩ (.int .i64 6))) ∧ TextAt tb s (lsE s nx st) (w1.setCell ⟨tb, 2, none⟩ (.int .i64 6)) ∧ Kp tb w (w1.setCell ⟨tb, 2, none⟩ (.int .i64 6))) :=
      ⟨lst_bad e1 _, by rw [e2]; exact text_bad ht1, hk1.trans (Kp.set _ _ _ _)⟩
    obtain ⟨_, _, x, _, z4⟩ := ht1
    obtain ⟨t0, t1, t2, hfz⟩ := TextAt.cells z4
    have f2 := hfz 2
    clear e1 e2 hk1 HT1 HK1 z4 hfz HE
    generalize stI s st = n at *
    by_cases hneg : n < 0
    · have d1 : decide (n < 0) = true := by simp [hneg]
      clear hbad hneg
      go_wp2_with fail
      go_ret
      exact ⟨_, rfl, HB.out⟩
    · have d1 : decide (n < 0) = false := by rw [decide_eq_false_iff_not]; omega
      have d2 : decide (48 < n) = true := by rw [decide_eq_true_eq]; omega
      clear hbad hneg
      go_wp2_with fail
      go_ret
      exact ⟨_, rfl, HB.out⟩

theorem info_lsL : (Try.prog.info? 43).map (fun i => (i.zero, i.size, i.bytes)) = some (some (.agg #[.int .i64 0, .slice none 0 0]), 2, 32) := by kernel_rfl
set_option maxHeartbeats 1600000 in
theorem lsL_reads (tb : Nat) (s : ByteArray) (nx : St → St) (hS : Stab 43 (RLp s)) (q1 q2 q3 : Nat) (c el : Value) (u : World) (h1 : Bx q1 c u) (hc : Reads tb s (stN s) (RI s) c u) (h2 : Bx q2 (.pointer (some ⟨tb, 0, none⟩)) u) (h3 : Bx q3 el u) (he : Reads tb s nx (RLp s) el u) :
    Reads tb s (lsE s nx) (Lst 2 43 clA s nx (RLp s)) (.func (.func 91) #[] #[.pointer (some ⟨q1, 0, none⟩), .pointer (some ⟨q2, 0, none⟩), .pointer (some ⟨q3, 0, none⟩)]) u := by
  refine ⟨_, _, rfl, fun w => callFunc_go Try.func91 (by kernel_rfl) (by kernel_rfl) _ w, fun w st k ht => ?_⟩
  obtain ⟨i0, hi, hz0, hz1, hz2⟩ := info_parts info_lsL
  obtain ⟨N1, caps1, rfl, go1⟩ := hc.form
  obtain ⟨N3, caps3, rfl, go3⟩ := he.form
  have B1 := Lib.hid (h1.below k)
  have B2 := Lib.hid (h2.below k)
  have B3 := Lib.hid (h3.below k)
  have n1 : tb ≠ q2 := by obtain ⟨c, t, f, e⟩ := cell_block B2.out; exact (Hd.cells e).1
  have HC := Lib.hid (Reads.call (hc.below k) (Kp.refl tb w) ht)
  have HE := Lib.hid (he.below k)
  have HT0 := Lib.hid ht.lt
  have hc1 := B1.out.now
  clear h1 h2 h3 hc he k ht
  go_enter Try.func91, Try.ntmps91
  go_wp2_with fail
  refine HC.out.mono ?_
  rintro e w1 ⟨r1, rfl, hr1, ht1, hk1⟩
  obtain rfl : r1 = .int .i64 (stI s st) := hr1
  have HT1 := Lib.hid ht1
  have HK1 := Lib.hid hk1
  have c2 := (B2.out.kp hk1).now
  have c3 := (B3.out.kp hk1).now
  by_cases hbad : 0 ≤ stI s st ∧ stI s st ≤ 48
  · have HN : Hid (lsN s st = (stI s st).toNat) := by show _ = _; unfold lsN; rw [if_pos hbad]
    have HL : Hid (LoopAt tb s nx (RLp s) 2 43 clA w (lsS s st) 0 (.slice none 0 0) w1) := by
      refine loop_start ?_ hk1
      unfold lsS; rw [if_pos hbad]; exact ht1
    obtain ⟨m, hm⟩ := Int.eq_ofNat_of_zero_le hbad.1
    have hm48 : m ≤ 48 := by have := hbad.2; omega
    have HM : Hid (lsN s st = m) := by show _ = _; rw [HN.out, hm]; rfl
    rw [hm]
    clear hbad hm ht1 hk1 HN HT1
    have d1 : decide ((m : Int) < 0) = false := by rw [decide_eq_false_iff_not]; omega
    have d2 : decide ((48 : Int) < (m : Int)) = false := by rw [decide_eq_false_iff_not]; omega
    go_wp2_with fail
    go_loopw [5, 18] (fun v i wr => ∃ j : Nat, j ≤ m ∧ i = .int .i64 j ∧ LoopAt tb s nx (RLp s) 2 43 clA w (lsS s st) j v wr) (fun _ i _ => m - (intOf i).toNat)
    case atStart => exact ⟨0, Nat.zero_le _, rfl, HL.out⟩
    case round =>
      obtain ⟨j, hj, rfl, hl⟩ := hrel
      rename_i vL _ _
      by_cases hlt : j < m
      · have HL2 := Lib.hid hl
        have c4 := (B3.out.kp hl.kp).now
        have HE2 := Lib.hid (Reads.call HE.out hl.kp hl.text)
        clear hl
        go_wp2_with fail
        refine HE2.out.mono ?_
        rintro e w2 ⟨r, rfl, hr, ht2, hk2⟩
        obtain ⟨g, hg1, hg2⟩ := HL2.out.own
        have HR := Lib.hid hr
        obtain ⟨v5, rfl, hv5⟩ := hr
        obtain ⟨a5, n5, c5, rfl⟩ := hv5.form
        clear hv5
        have hown := (own_kp hg1 HT0.out hk2).alloc (.cells #[.int .i64 (stI s (it nx j (lsS s st))), .slice a5 n5 c5] 43)
        have hbase : w.heap.size ≤ (w2.alloc (.cells #[.int .i64 (stI s (it nx j (lsS s st))), .slice a5 n5 c5] 43)).heap.size := by have := HL2.out.kp.size; have := hk2.size; simp; omega
        have HG1 := Lib.hid hg1
        have HG2 := Lib.hid hg2
        have HT2 := Lib.hid ht2
        have HK2 := Lib.hid hk2
        clear hg1 hg2 ht2 hk2
        go_wp2_with (at_builtin; refine wpList_append_own _ rfl _ _ 25 rfl w.heap.size 43 i0 (.agg #[.int .i64 0, .slice none 0 0]) 2 32 Try.underlying25 hi hz0 hz1 hz2 rfl (by decide) _ j _ rfl hown ⟨w2.heap.size, 0, none⟩ 1 1 (#[.int .i64 (stI s (it nx j (lsS s st))), .slice a5 n5 c5]).toList rfl rfl (news_cells w2 _ _) (by simp [Value.oneCell']) (by unfold maxLen; omega) (by omega) hbase ?_)
        intro v1 w4 hown4 hgr hnn
        have R := Lib.hid (loop_step (by decide) HT0.out hS HG1.out HG2.out HL2.out.kp HR.out HT2.out HK2.out (cs := #[.int .i64 (stI s (it nx j (lsS s st))), .slice a5 n5 c5]) rfl (by
          intro k hk
          have : k = 0 ∨ k = 1 := by omega
          rcases this with rfl | rfl <;> rfl) hown4 hgr)
        clear hown4 hgr hnn hown hbase
        go_wp2_with fail
        go_roundw
        case rel => exact ⟨j + 1, by omega, by go_num, R.out⟩
        case measure => simp [intOf]; omega
      · obtain rfl : j = m := by omega
        have hl := hl
        rw [← HM.out] at hl
        have HF := Lib.hid (loop_end HT0.out hl)
        clear hl
        go_wp2_with fail
        go_ret
        exact ⟨_, rfl, HF.out⟩
  · obtain ⟨e1, e2⟩ := ls_bad hbad
    have HB : Hid (Lst 2 43 clA s nx (RLp s) st (.slice none 0 0) (Hd tb (w1.setCell ⟨tb, 2, none⟩ (.int .i64 6))) ∧ TextAt tb s (lsE s nx st) (w1.setCell ⟨tb, 2, none⟩ (.int .i64 6)) ∧ Kp tb w (w1.setCell ⟨tb, 2, none⟩ (.int .i64 6))) :=
      ⟨lst_bad e1 _, by rw [e2]; exact text_bad ht1, hk1.trans (Kp.set _ _ _ _)⟩
    obtain ⟨_, _, x, _, z4⟩ := ht1
    obtain ⟨t0, t1, t2, hfz⟩ := TextAt.cells z4
    have f2 := hfz 2
    clear e1 e2 hk1 HT1 HK1 z4 hfz HE
    generalize stI s st = n at *
    by_cases hneg : n < 0
    · have d1 : decide (n < 0) = true := by simp [hneg]
      clear hbad hneg
      go_wp2_with fail
      go_ret
      exact ⟨_, rfl, HB.out⟩
    · have d1 : decide (n < 0) = false := by rw [decide_eq_false_iff_not]; omega
      have d2 : decide (48 < n) = true := by rw [decide_eq_true_eq]; omega
      clear hbad hneg
      go_wp2_with fail
      go_ret
      exact ⟨_, rfl, HB.out⟩

theorem info_lsE : (Try.prog.info? 55).map (fun i => (i.zero, i.size, i.bytes)) = some (some (.agg #[.float .f64 0, .int .i64 0, .int .i64 0]), 3, 24) := by kernel_rfl
set_option maxHeartbeats 1600000 in
theorem lsE_reads (tb : Nat) (s : ByteArray) (nx : St → St) (hS : Stab 55 (REv s)) (q1 q2 q3 : Nat) (c el : Value) (u : World) (h1 : Bx q1 c u) (hc : Reads tb s (stN s) (RI s) c u) (h2 : Bx q2 (.pointer (some ⟨tb, 0, none⟩)) u) (h3 : Bx q3 el u) (he : Reads tb s nx (REv s) el u) :
    Reads tb s (lsE s nx) (Lst 3 55 clA s nx (REv s)) (.func (.func 94) #[] #[.pointer (some ⟨q1, 0, none⟩), .pointer (some ⟨q2, 0, none⟩), .pointer (some ⟨q3, 0, none⟩)]) u := by
  refine ⟨_, _, rfl, fun w => callFunc_go Try.func94 (by kernel_rfl) (by kernel_rfl) _ w, fun w st k ht => ?_⟩
  obtain ⟨i0, hi, hz0, hz1, hz2⟩ := info_parts info_lsE
  obtain ⟨N1, caps1, rfl, go1⟩ := hc.form
  obtain ⟨N3, caps3, rfl, go3⟩ := he.form
  have B1 := Lib.hid (h1.below k)
  have B2 := Lib.hid (h2.below k)
  have B3 := Lib.hid (h3.below k)
  have n1 : tb ≠ q2 := by obtain ⟨c, t, f, e⟩ := cell_block B2.out; exact (Hd.cells e).1
  have HC := Lib.hid (Reads.call (hc.below k) (Kp.refl tb w) ht)
  have HE := Lib.hid (he.below k)
  have HT0 := Lib.hid ht.lt
  have hc1 := B1.out.now
  clear h1 h2 h3 hc he k ht
  go_enter Try.func94, Try.ntmps94
  go_wp2_with fail
  refine HC.out.mono ?_
  rintro e w1 ⟨r1, rfl, hr1, ht1, hk1⟩
  obtain rfl : r1 = .int .i64 (stI s st) := hr1
  have HT1 := Lib.hid ht1
  have HK1 := Lib.hid hk1
  have c2 := (B2.out.kp hk1).now
  have c3 := (B3.out.kp hk1).now
  by_cases hbad : 0 ≤ stI s st ∧ stI s st ≤ 48
  · have HN : Hid (lsN s st = (stI s st).toNat) := by show _ = _; unfold lsN; rw [if_pos hbad]
    have HL : Hid (LoopAt tb s nx (REv s) 3 55 clA w (lsS s st) 0 (.slice none 0 0) w1) := by
      refine loop_start ?_ hk1
      unfold lsS; rw [if_pos hbad]; exact ht1
    obtain ⟨m, hm⟩ := Int.eq_ofNat_of_zero_le hbad.1
    have hm48 : m ≤ 48 := by have := hbad.2; omega
    have HM : Hid (lsN s st = m) := by show _ = _; rw [HN.out, hm]; rfl
    rw [hm]
    clear hbad hm ht1 hk1 HN HT1
    have d1 : decide ((m : Int) < 0) = false := by rw [decide_eq_false_iff_not]; omega
    have d2 : decide ((48 : Int) < (m : Int)) = false := by rw [decide_eq_false_iff_not]; omega
    go_wp2_with fail
    go_loopw [5, 18] (fun v i wr => ∃ j : Nat, j ≤ m ∧ i = .int .i64 j ∧ LoopAt tb s nx (REv s) 3 55 clA w (lsS s st) j v wr) (fun _ i _ => m - (intOf i).toNat)
    case atStart => exact ⟨0, Nat.zero_le _, rfl, HL.out⟩
    case round =>
      obtain ⟨j, hj, rfl, hl⟩ := hrel
      rename_i vL _ _
      by_cases hlt : j < m
      · have HL2 := Lib.hid hl
        have c4 := (B3.out.kp hl.kp).now
        have HE2 := Lib.hid (Reads.call HE.out hl.kp hl.text)
        clear hl
        go_wp2_with fail
        refine HE2.out.mono ?_
        rintro e w2 ⟨r, rfl, hr, ht2, hk2⟩
        obtain ⟨g, hg1, hg2⟩ := HL2.out.own
        have HR := Lib.hid hr
        obtain rfl : r = .agg #[.float .f64 (evV s (it nx j (lsS s st))).t, .int .i64 (evV s (it nx j (lsS s st))).dst, .int .i64 (evV s (it nx j (lsS s st))).pay] := hr
        have hown := (own_kp hg1 HT0.out hk2).alloc (.cells #[.float .f64 (evV s (it nx j (lsS s st))).t, .int .i64 (evV s (it nx j (lsS s st))).dst, .int .i64 (evV s (it nx j (lsS s st))).pay] 55)
        have hbase : w.heap.size ≤ (w2.alloc (.cells #[.float .f64 (evV s (it nx j (lsS s st))).t, .int .i64 (evV s (it nx j (lsS s st))).dst, .int .i64 (evV s (it nx j (lsS s st))).pay] 55)).heap.size := by have := HL2.out.kp.size; have := hk2.size; simp; omega
        have HG1 := Lib.hid hg1
        have HG2 := Lib.hid hg2
        have HT2 := Lib.hid ht2
        have HK2 := Lib.hid hk2
        clear hg1 hg2 ht2 hk2
        go_wp2_with (at_builtin; refine wpList_append_own _ rfl _ _ 26 rfl w.heap.size 55 i0 (.agg #[.float .f64 0, .int .i64 0, .int .i64 0]) 3 24 Try.underlying26 hi hz0 hz1 hz2 rfl (by decide) _ j _ rfl hown ⟨w2.heap.size, 0, none⟩ 1 1 (#[.float .f64 (evV s (it nx j (lsS s st))).t, .int .i64 (evV s (it nx j (lsS s st))).dst, .int .i64 (evV s (it nx j (lsS s st))).pay]).toList rfl rfl (news_cells w2 _ _) (by simp [Value.oneCell']) (by unfold maxLen; omega) (by omega) hbase ?_)
        intro v1 w4 hown4 hgr hnn
        have R := Lib.hid (loop_step (by decide) HT0.out hS HG1.out HG2.out HL2.out.kp HR.out HT2.out HK2.out (cs := #[.float .f64 (evV s (it nx j (lsS s st))).t, .int .i64 (evV s (it nx j (lsS s st))).dst, .int .i64 (evV s (it nx j (lsS s st))).pay]) rfl (by
          intro k hk
          have : k = 0 ∨ k = 1 ∨ k = 2 := by omega
          rcases this with rfl | rfl | rfl <;> rfl) hown4 hgr)
        clear hown4 hgr hnn hown hbase
        go_wp2_with fail
        go_roundw
        case rel => exact ⟨j + 1, by omega, by go_num, R.out⟩
        case measure => simp [intOf]; omega
      · obtain rfl : j = m := by omega
        have hl := hl
        rw [← HM.out] at hl
        have HF := Lib.hid (loop_end HT0.out hl)
        clear hl
        go_wp2_with fail
        go_ret
        exact ⟨_, rfl, HF.out⟩
  · obtain ⟨e1, e2⟩ := ls_bad hbad
    have HB : Hid (Lst 3 55 clA s nx (REv s) st (.slice none 0 0) (Hd tb (w1.setCell ⟨tb, 2, none⟩ (.int .i64 6))) ∧ TextAt tb s (lsE s nx st) (w1.setCell ⟨tb, 2, none⟩ (.int .i64 6)) ∧ Kp tb w (w1.setCell ⟨tb, 2, none⟩ (.int .i64 6))) :=
      ⟨lst_bad e1 _, by rw [e2]; exact text_bad ht1, hk1.trans (Kp.set _ _ _ _)⟩
    obtain ⟨_, _, x, _, z4⟩ := ht1
    obtain ⟨t0, t1, t2, hfz⟩ := TextAt.cells z4
    have f2 := hfz 2
    clear e1 e2 hk1 HT1 HK1 z4 hfz HE
    generalize stI s st = n at *
    by_cases hneg : n < 0
    · have d1 : decide (n < 0) = true := by simp [hneg]
      clear hbad hneg
      go_wp2_with fail
      go_ret
      exact ⟨_, rfl, HB.out⟩
    · have d1 : decide (n < 0) = false := by rw [decide_eq_false_iff_not]; omega
      have d2 : decide (48 < n) = true := by rw [decide_eq_true_eq]; omega
      clear hbad hneg
      go_wp2_with fail
      go_ret
      exact ⟨_, rfl, HB.out⟩

end Go.Proofs.Ytemhbcjpgapjkaa
