/- The contract of the program's Crash. What any crash may leave of a disk's sectors. Plain mathematics. The contracts of the program's of, New, Of. The contracts of the document's Now, count, Read, Loose. -/
import Derived.OwnWalk
import Derived.Test.YtdmlmjmdpmmcgaaYZ3
import Derived.Test.YtdmlmjmdpmmcgaaYZ0
import Derived.Test.YtdmlmjmdpmmcgaaYZ2
namespace Go.Proofs.Ytdmlmjmdpmmcgaa
open Go.RowKit Go.Deep Go.Maps
set_option linter.unusedVariables false
set_option linter.unusedSimpArgs false
set_option maxRecDepth 100000

variable {base P bS bm cS : Nat} {d : Dk} {u : World}
/-- the first j sectors have crashed -/
def crsD (d : Dk) (keep : List Bool) (t b : Int) (j : Nat) : Dk := { d with nw := fun i => if i < j then crashF d keep t b i else d.nw i }
theorem crs_now (d : Dk) (keep : List Bool) (t b : Int) (j k : Nat) (h : j ≤ k) : nowD (crsD d keep t b j) k = nowD d k := by
  have e : ¬ k < j := by omega
  simp [nowD, crsD, e]
theorem crs_new (d : Dk) (keep : List Bool) (t b : Int) (j k : Nat) (h : k < j) : nowD (crsD d keep t b j) k = crashF d keep t b k := by
  unfold nowD crsD
  simp only [if_pos h]
  split
  · rfl
  · rename_i e; unfold crashF; rw [if_neg e]
theorem crs_else (d : Dk) (keep : List Bool) (t b : Int) (j k : Nat) (h : k ≠ j) : nowD (crsD d keep t b (j + 1)) k = nowD (crsD d keep t b j) k := by
  by_cases e : k < j
  · rw [crs_new _ _ _ _ _ _ e, crs_new _ _ _ _ _ _ (by omega)]
  · rw [crs_now _ _ _ _ _ _ (by omega), crs_now _ _ _ _ _ _ (by omega)]
theorem PDk.crs0 (h : PDk base P bS bm cS d u) (keep : List Bool) (t b : Int) : PDk base P bS bm cS (crsD d keep t b 0) u := h
/-- a sector that is not loose -/
theorem PDk.crs_skip {keep : List Bool} {t b : Int} {j : Nat} (h : PDk base P bS bm cS (crsD d keep t b j) u) (hs : d.is j = false) : PDk base P bS bm cS (crsD d keep t b (j + 1)) u := by
  refine h.congr rfl rfl rfl rfl (fun _ _ => rfl) (fun _ _ _ _ _ => rfl) (fun i hi q hq => ?_)
  by_cases e : i = j
  · subst e
    rw [crs_new _ _ _ _ _ _ (Nat.lt_succ_self _), crs_now _ _ _ _ _ _ (Nat.le_refl _)]
    unfold crashF nowD; rw [hs]; rfl
  · rw [crs_else _ _ _ _ _ _ e]
/-- a loose one: the rest of its old bytes is laid -/
theorem PDk.crs_lay {keep : List Bool} {t b : Int} {j k : Nat} (h : PDk base P bS bm cS (crsD d keep t b j) u) (hj : j < d.n) (hs : d.is j = true) (hk : k = keepN keep t b (looseN d.is j)) : PDk base P bS bm cS (crsD d keep t b (j + 1)) (u.setCells bS (j * 64 + k) ((secV (d.sf j)).drop k)) := by
  obtain ⟨n1, n2, n3⟩ := h.ne
  have hk64 : k ≤ 64 := by rw [hk]; exact keepN_le _ _ _ _
  have hl : ((secV (d.sf j)).drop k).length = 64 - k := by rw [List.length_drop, secV_len]
  have key : ∀ q, nowD (crsD d keep t b (j + 1)) j q = if q < k then d.nw j q else d.sf j q := by
    intro q
    rw [crs_new _ _ _ _ _ _ (Nat.lt_succ_self _)]
    unfold crashF tornF
    rw [if_pos hs, hk]
  have old : nowD (crsD d keep t b j) j = d.nw j := by
    rw [crs_now _ _ _ _ _ _ (Nat.le_refl _)]
    unfold nowD; rw [hs]; rfl
  refine ⟨(setCells_else n1 _ _ _).trans h.box, ?_, (h.mp.kept (setCells_else n3.symm _ _ _)).congr (fun _ _ => rfl) (fun _ _ _ _ _ => rfl), h.lo⟩
  refine RowB.sets (G2 := gB (nowD (crsD d keep t b (j + 1)))) h.row hj _ (by rw [hl]; omega) (fun q hq => ?_) (fun i2 hi2 q hq hne => ?_)
  · rw [hl] at hq
    unfold gB
    rw [key, if_neg (by omega), List.getElem_drop, secV_at _ (by omega)]
  · unfold gB
    by_cases e : i2 = j
    · subst e
      rw [key, old]
      rw [hl] at hne
      have : q < k := by
        rcases Nat.lt_or_ge q k with c | c
        · exact c
        · exact absurd ⟨rfl, c, by omega⟩ hne
      rw [if_pos this]
    · rw [crs_else _ _ _ _ _ _ e]
theorem PDk.crs_end {keep : List Bool} {t b : Int} (h : PDk base P bS bm cS (safeD (crsD d keep t b d.n)) u) (u2 : World) (hP : ∀ q, q ≠ P → u2.heap[q]? = u.heap[q]?) (hb : u2.heap[P]? = some (.cells (pbx bS cS bm (crashD d keep t b)) 82 (0, 0))) : PDk base P bS bm cS (crashD d keep t b) u2 := by
  have h2 : PDk base P bS bm cS { safeD (crsD d keep t b d.n) with arm := 0, down := false } u2 := h.rebox hP hb rfl rfl rfl rfl
  refine h2.congr rfl rfl rfl rfl (fun _ _ => rfl) (fun i hi hs => by cases hs) (fun i hi q hq => ?_)
  show crashF d keep t b i q = nowD (crsD d keep t b d.n) i q
  rw [crs_new _ _ _ _ _ _ (show i < d.n from hi)]
/-- copy(sectors[j][k:], old[k:]) -/
theorem copy_rest {keep : List Bool} {t b : Int} {j k B : Nat} {c : Array Value} {fz : Nat × Nat} {E : TypeId} (h : PDk base P bS bm cS (crsD d keep t b j) u) (hj : j < d.n) (hk : k ≤ 64) (hB : u.heap[B]? = some (.cells c E fz)) (hc : c = (secV (d.sf j)).toArray) :
    (Builtin.copy_ #[69, 69] 3 #[.slice (some (if 64 = k then ⟨bS, j * 64, none⟩ else ⟨bS, j * 64 + k, none⟩)) (64 - k) (64 - k), .slice (some (if 64 = k then ⟨B, 0, none⟩ else ⟨B, k, none⟩)) (64 - k) (64 - k)]).run Try.prog u = .ok (.int .i64 (64 - k : Nat)) (u.setCells bS (j * 64 + k) ((secV (d.sf j)).drop k)) := by
  have hl : ((secV (d.sf j)).drop k).length = 64 - k := by rw [List.length_drop, secV_len]
  by_cases e : 64 = k
  · subst e
    have : (secV (d.sf j)).drop 64 = [] := List.eq_nil_of_length_eq_zero (by rw [hl])
    rw [this]
    exact run_copy_none (P := Try.prog) u 69 69 3 5 _ _ 0 0 0 0 Try.underlying69 (by kernel_rfl) rfl
  · rw [if_neg e, if_neg e]
    have ht := h.row.there hj k (64 - k) (by omega)
    have := run_copy_cells (P := Try.prog) u 69 69 3 5 bS (j * 64 + k) (64 - k) (64 - k) ⟨B, k, none⟩ (64 - k) (64 - k) ((secV (d.sf j)).drop k) Try.underlying69 (by kernel_rfl) (by rw [hl]; exact (Nat.min_self _).symm)
      (fun q v hq => by
        rw [add_plain, Lib.cell_of_heap hB, hc]
        rw [List.getElem?_drop] at hq
        simpa using hq)
      (fun q hq => (ht q (by rw [hl] at hq; exact hq)).1) (fun q hq => (ht q (by rw [hl] at hq; exact hq)).2) (fun v hv => secV_one _ v (List.mem_of_mem_drop hv))
    rw [hl] at this
    exact this

theorem pcrash_nil (c : Value) (v : Value) (t b : Int) (u : World) : Calls Try.prog 24 #[.pointer none, .agg #[v, .int .i64 t, .int .i64 b]] u fun r u' => r = .returned (.int .i64 1) ∧ Below u.heap.size u u' := by
  have B1 := Lib.hid (balloc u (.cells #[v, .int .i64 t, .int .i64 b] 44))
  go_enter Try.func24, Try.ntmps24
  go_wp2_with fail
  go_ret
  exact ⟨rfl, B1.out⟩

set_option maxHeartbeats 6400000 in
theorem pcrash_any (h : PDk base P bS bm cS d u) (hn : d.n ≤ 4096) (hbase : base ≤ u.heap.size) {keep : List Bool} {t b : Int} {v : Value} (hc : CrA base keep t b v u) : Calls Try.prog 24 #[.pointer (some ⟨P, 0, none⟩), .agg #[v, .int .i64 t, .int .i64 b]] u fun r u' => r = .returned (.int .i64 0) ∧ (∃ bm2, bm2 < u'.heap.size ∧ PDk base P bS bm2 cS (crashD d keep t b) u') ∧ KpS (P3 P bS bm) u u' := by
  have R := Lib.hid h
  have HC := Lib.hid hc
  have HBASE := Lib.hid hbase
  have X1 := Lib.hid (heap_alloc_new u (.cells #[v, .int .i64 t, .int .i64 b] 44))
  have B1 := Lib.hid (balloc u (.cells #[v, .int .i64 t, .int .i64 b] 44))
  have CH := Lib.hid (chooser_any (hc.below (B1.out.mono hbase)) (Nat.le_trans hbase B1.out.size))
  clear h hc hbase
  go_enter Try.func24, Try.ntmps24
  go_wp2_with fail
  refine (CH.out).mono ?_
  rintro e w1 ⟨C1, C2, rfl, hC1, hC2, hch, hb1⟩
  have R1 := Lib.hid (R.out.below (B1.out.trans (hb1.mono B1.out.size)))
  have K1 := Lib.hid (KpS.of (B1.out.trans (hb1.mono B1.out.size)) : KpS (P3 P bS bm) u w1)
  have HCH := Lib.hid hch
  have LT := Lib.hid R.out.lt
  have N1 : Hid (P3 P bS bm C1 = false ∧ P3 P bS bm C2 = false) := by
    have h1 := B1.out.size
    have h2 := LT.out
    exact Lib.hid ⟨P3.no (by omega) (by omega) (by omega), P3.no (by omega) (by omega) (by omega)⟩
  have HC1 := Lib.hid (show C1 < w1.heap.size ∧ C2 < w1.heap.size from ⟨lt_of_block hch.x, lt_of_block hch.y⟩)
  have HB1 := Lib.hid (Nat.le_trans HBASE.out K1.out.size)
  clear hC1 hC2 hch hb1 CH X1 B1
  unfold fvC
  have c0 := R1.out.cells.1
  obtain ⟨n, hq⟩ : ∃ n, n = d.n := ⟨_, rfl⟩
  rw [← hq] at hn c0
  have HQ := Lib.hid hq
  clear hq
  go_wp2_with fail
  go_loopw [6, 20] (fun c i wr => ∃ j : Nat, j ≤ n ∧ i = .int .i64 j ∧ c = .int .i64 (looseN d.is j : Int) ∧ PDk base P bS bm cS (crsD d keep t b j) wr ∧ ChA base keep t b v C1 C2 wr ∧ KpS (P3 P bS bm) u wr ∧ KpS (P3 P bS bm) w1 wr) (fun _ i _ => n - (intOf i).toNat)
  case atStart => exact ⟨0, Nat.zero_le _, rfl, rfl, R1.out.crs0 keep t b, HCH.out, K1.out, KpS.refl _ _⟩
  case round =>
    clear c0
    obtain ⟨j, hj, rfl, rfl, hr, hch, hk, hk1⟩ := hrel
    have RJ := Lib.hid hr
    have KJ := Lib.hid hk
    have K1J := Lib.hid hk1
    have CJ := Lib.hid hch
    obtain ⟨c0, c1, c2, c3, c4, cf⟩ := hr.cells
    change wr.cell? ⟨P, 0, none⟩ = some (.slice (some ⟨bS, 0, none⟩) d.n cS) at c0
    rw [← HQ.out] at c0
    have hj0 : (0 : Int) ≤ (j : Int) := by omega
    have hle := looseN_le d.is j
    clear hch hk hk1 c2 c3 c4 cf
    by_cases hlt : j < n
    · have hj2 : (j : Int) < (n : Int) := by omega
      have hjd : j < d.n := by rw [← HQ.out]; exact hlt
      obtain ⟨c, r1, r2, r3, r4⟩ := hr.mp.look (i := j) (zero_val wr) rfl hjd (by rw [HQ.out] at hn; exact hn)
      change _ = Result.ok (Value.tuple #[.agg c, .bool (d.is j)]) wr at r1
      change d.is j = true → c = (secV (d.sf j)).toArray at r3
      have hcs : c.size = 64 := by
        rw [r2]; split
        · rfl
        · exact secV_size _
      have hc1 : c.all (·.oneCell') = true := by
        cases hq : d.is j with
        | true => rw [r3 hq]; exact all_oneCell_toArray (secV_one _)
        | false => rw [r4 hq]; exact all_oneCell_toArray (secV_one _)
      have hst : ∀ Z : Array Value, Z.size = 64 → (storeCells ⟨wr.heap.size, 0, none⟩ c.toList 0).run Try.prog (wr.alloc (.cells Z 85)) = .ok () (wr.alloc (.cells c 85)) := fun Z hz =>
        run_storeCells_new (P := Try.prog) wr 85 Z c (by rw [size_sec, hcs]) (by rw [hz, hcs]) hc1
      have B2 := Lib.hid (balloc wr (.cells c 85))
      have X2 := Lib.hid (heap_alloc_new wr (.cells c 85))
      have HJ := Lib.hid hlt
      have HJD := Lib.hid hjd
      have HR3 := Lib.hid r3
      clear hr r2 r3 r4 hc1 hlt hjd
      go_upto_region 8 with fail
      generalize wr.alloc (.cells c 85) = w2 at *
      clear hst hcs r1
      have R2 := Lib.hid (RJ.out.below B2.out)
      have HB2 := Lib.hid (Nat.le_trans HB1.out K1J.out.size)
      have C2' : Hid (ChA base keep t b v C1 C2 w2) := Lib.hid (CJ.out.kept (B2.out.mono HB2.out) (B2.out.block _ (lt_of_block CJ.out.x)) (B2.out.block _ (lt_of_block CJ.out.y)))
      have K2 := Lib.hid (KJ.out.on B2.out)
      have K12 := Lib.hid (K1J.out.on B2.out)
      cases hs : d.is j with
      | false =>
        have E : looseN d.is (j + 1) = looseN d.is j := by simp [looseN, hs]
        have F : Hid (PDk base P bS bm cS (crsD d keep t b (j + 1)) w2) := Lib.hid (R2.out.crs_skip hs)
        have HE := Lib.hid E
        clear E hle
        go_wp2_with fail
        go_roundw
        case rel => exact ⟨j + 1, HJ.out, by go_num, by rw [HE.out], F.out, C2'.out, K2.out, K12.out⟩
        case measure => have := HJ.out; simp [intOf]; omega
      | true =>
        have E : looseN d.is (j + 1) = looseN d.is j + 1 := by simp [looseN, hs]
        have HE := Lib.hid E
        have CHO := Lib.hid (chose_any C2'.out (looseN d.is j) (by omega))
        obtain ⟨k, hkk⟩ : ∃ k, k = keepN keep t b (looseN d.is j) := ⟨_, rfl⟩
        have hk64 : k ≤ 64 := by rw [hkk]; exact keepN_le _ _ _ _
        rw [← hkk] at CHO
        have hcp := copy_rest R2.out HJD.out hk64 X2.out (HR3.out hs)
        have F : Hid (PDk base P bS bm cS (crsD d keep t b (j + 1)) (w2.setCells bS (j * 64 + k) ((secV (d.sf j)).drop k))) := Lib.hid (R2.out.crs_lay HJD.out hs hkk)
        have KK := Lib.hid (kps_setCells (P3.b P bS bm) ((secV (d.sf j)).drop k) (j * 64 + k) w2)
        have q0 : w2.cell? ⟨P, 0, none⟩ = some (.slice (some ⟨bS, 0, none⟩) n cS) := by rw [HQ.out]; exact R2.out.cells.1
        have hk0 : (0 : Int) ≤ (k : Int) ∧ (k : Int) ≤ 64 := by omega
        have HKK := Lib.hid hkk
        generalize hqq : looseN d.is j = q at *
        have HQQ := Lib.hid hqq
        clear hqq
        have Q0 := Lib.hid q0
        have HCP := Lib.hid hcp
        clear E hkk c0 c1 q0 hcp
        go_wp2_with fail
        refine (CHO.out).mono ?_
        rintro e w3 ⟨rfl, rfl⟩
        go_upto_region 10 with fail
        refine wp_region_held_drew (S := (fun w' => w'.cell? ⟨P, 0, none⟩ = some (.slice (some ⟨bS, 0, none⟩) n cS))) (by kernel_rfl) ?_ (fun hHeld => ?_)
        · rw [HQ.out]; exact (R2.out.below (bdrew w3)).cells.1
        change wpAnyH _ _ _ _ _ _ _ _ (World.drew w3)
        have L1 := Lib.hid (bdrew w3)
        have X3 := Lib.hid (show (World.drew w3).heap[wr.heap.size]? = some (.cells c 85) from X2.out)
        have R3 := Lib.hid (R2.out.below L1.out)
        have C3 : Hid (ChA base keep t b v C1 C2 (World.drew w3)) := Lib.hid (C2'.out.kept (L1.out.mono (Nat.le_trans HB2.out B2.out.size)) rfl rfl)
        have K3 := Lib.hid (K2.out.on L1.out)
        have K13 := Lib.hid (K12.out.on L1.out)
        clear HCP F KK Q0
        generalize World.drew w3 = w4 at *
        have hcp := copy_rest R3.out HJD.out hk64 X3.out (HR3.out hs)
        have F : Hid (PDk base P bS bm cS (crsD d keep t b (j + 1)) (w4.setCells bS (j * 64 + k) ((secV (d.sf j)).drop k))) := Lib.hid (R3.out.crs_lay HJD.out hs (by rw [HQQ.out]; exact HKK.out))
        have KK := Lib.hid (kps_setCells (P3.b P bS bm) ((secV (d.sf j)).drop k) (j * 64 + k) w4)
        first | refine tq0 0 rfl ?_ | refine tq1 0 rfl ?_
        try go_frame
        first | refine tq0 1 rfl ?_ | refine tq1 1 rfl ?_
        try go_frame
        first | refine tq0 2 rfl ?_ | refine tq1 2 rfl ?_
        try go_frame
        first | refine tq0 3 rfl ?_ | refine tq1 3 rfl ?_
        try go_frame
        first | refine tq0 4 rfl ?_ | refine tq1 4 rfl ?_
        try go_frame
        first | refine tq0 5 rfl ?_ | refine tq1 5 rfl ?_
        try go_frame
        first | refine tq0 6 rfl ?_ | refine tq1 6 rfl ?_
        try go_frame
        first | refine tq0 7 rfl ?_ | refine tq1 7 rfl ?_
        try go_frame
        first | refine tq0 8 rfl ?_ | refine tq1 8 rfl ?_
        try go_frame
        first | refine tq0 9 rfl ?_ | refine tq1 9 rfl ?_
        try go_frame
        refine wpAnyH_ready (rs := [10]) (by kernel_rfl) (by simp) ?_
        refine AllReadyH.cons (o := ⟨_, _, _, _, _, _⟩) rfl (fun K hK => ?_) AllReadyH.nil
        go_simp
        refine hK.out _ _ ?_ (fun hHeld => ?_)
        · rw [HQ.out]; exact F.out.cells.1
        clear hK K
        try go_frame
        refine wpAnyH_done (by kernel_rfl) ?_ _
        have K5 := Lib.hid (K3.out.trans KK.out)
        have K15 := Lib.hid (K13.out.trans KK.out)
        have C5 : Hid (ChA base keep t b v C1 C2 (w4.setCells bS (j * 64 + k) ((secV (d.sf j)).drop k))) := Lib.hid (C3.out.kept (R3.out.bot KK.out (Nat.le_trans HB2.out (Nat.le_trans B2.out.size L1.out.size))) (KK.out.blk (lt_of_block C3.out.x) N1.out.1) (KK.out.blk (lt_of_block C3.out.y) N1.out.2))
        clear hcp hHeld
        generalize w4.setCells bS (j * 64 + k) ((secV (d.sf j)).drop k) = w5 at *
        go_wp2_with fail
        go_roundw
        case rel => exact ⟨j + 1, HJ.out, by go_num, by rw [HE.out]; go_num, F.out, C5.out, K5.out, K15.out⟩
        case measure => have := HJ.out; simp [intOf]; omega
    · obtain rfl : j = n := by omega
      have H3 := Lib.hid (psettle_any RJ.out)
      have d1 : decide ((j : Int) < (j : Int)) = false := by simp
      clear hr c1
      go_wp2_with fail
      refine (H3.out).mono ?_
      rintro e w6 ⟨rfl, ⟨bm2, hlt2, r6⟩, k6⟩
      have R6 := Lib.hid r6
      have K6 := Lib.hid (KJ.out.trans k6)
      have HLT := Lib.hid hlt2
      obtain ⟨c0, c1, c2, c3, c4, cf⟩ := r6.cells
      have cf3 := cf 3
      have cf4 := cf 4
      change w6.cell? ⟨P, 3, none⟩ = some (.int .i64 (d.arm : Int)) at c3
      change w6.cell? ⟨P, 4, none⟩ = some (.bool d.down) at c4
      have HB6 := Lib.hid r6.box
      have BX := Lib.hid (show ((w6.setCell ⟨P, 3, none⟩ (.int .i64 0)).setCell ⟨P, 4, none⟩ (.bool false)).heap[P]? = some (.cells (pbx bS cS bm2 (crashD d keep t b)) 82 (0, 0)) from Joins.block_setCell (i := 4) (Joins.block_setCell (i := 3) HB6.out _) _)
      have F9 : Hid (PDk base P bS bm2 cS (crashD d keep t b) ((w6.setCell ⟨P, 3, none⟩ (.int .i64 0)).setCell ⟨P, 4, none⟩ (.bool false))) := Lib.hid (PDk.crs_end (by rw [← HQ.out]; exact R6.out) _ (fun q hq => (set_else _ hq).trans (set_else _ hq)) BX.out)
      have K9 := Lib.hid ((K6.out.trans (KpS.set (P3.a P bS bm) 3 (.int .i64 0) w6)).trans (KpS.set (P3.a P bS bm) 4 (.bool false) _))
      have SZ := Lib.hid (show bm2 < ((w6.setCell ⟨P, 3, none⟩ (.int .i64 0)).setCell ⟨P, 4, none⟩ (.bool false)).heap.size by rw [World.size_setCell, World.size_setCell]; exact HLT.out)
      clear r6 k6 hlt2 c0 c1 c2 cf
      go_wp2_with fail
      go_ret
      exact ⟨rfl, ⟨_, SZ.out, F9.out⟩, K9.out⟩

end Go.Proofs.Ytdmlmjmdpmmcgaa
namespace Go.Proofs.Ytdmlmjmdpmmcgaa
open Go.RowKit
set_option maxRecDepth 100000

theorem looseN_mono (is : Nat → Bool) {i j : Nat} (h : i ≤ j) : looseN is i ≤ looseN is j := by
  induction j with
  | zero => obtain rfl : i = 0 := by omega
            exact Nat.le_refl _
  | succ j ih =>
    by_cases e : i = j + 1
    · rw [e]; exact Nat.le_refl _
    · exact Nat.le_trans (ih (by omega)) (by simp only [looseN]; omega)
theorem looseN_lt {is : Nat → Bool} {i j : Nat} (h : i < j) (hi : is i = true) : looseN is i < looseN is j := by
  have := looseN_mono is (show i + 1 ≤ j by omega)
  simp only [looseN, hi, if_true] at this
  omega
/-- loose sectors have unlike numbers -/
theorem looseN_inj {is : Nat → Bool} {i j : Nat} (hi : is i = true) (hj : is j = true) (h : looseN is i = looseN is j) : i = j := by
  rcases Nat.lt_trichotomy i j with a | a | a
  · have := looseN_lt a hi; omega
  · exact a
  · have := looseN_lt a hj; omega
/-- a sector that was safe is as it was -/
theorem crash_safe {d : Dk} {keep : List Bool} {t b : Int} {i : Nat} (h : d.is i = false) : crashF d keep t b i = d.sf i := by simp [crashF, h]
/-- a loose one is new, or old, or it is the one that is torn -/
theorem crash_loose {d : Dk} {keep : List Bool} {t b : Int} {i : Nat} (h : d.is i = true) : sec (crashF d keep t b i) = sec (d.nw i) ∨ sec (crashF d keep t b i) = sec (d.sf i) ∨ (looseN d.is i : Int) = t := by
  unfold crashF
  rw [if_pos h]
  by_cases e : (looseN d.is i : Int) = t
  · exact Or.inr (Or.inr e)
  · unfold keepN
    rw [if_neg e]
    split
    · refine Or.inl (sec_ext fun j hj => ?_)
      unfold tornF; rw [if_pos hj]
    · refine Or.inr (Or.inl (sec_ext fun j hj => ?_))
      unfold tornF; rw [if_neg (by omega)]
theorem crash_some {d : Dk} {keep : List Bool} {t b : Int} {i : Nat} (h : d.is i = true) : ∃ k, k ≤ 64 ∧ crashF d keep t b i = tornF k (d.nw i) (d.sf i) := by
  unfold crashF; rw [if_pos h]
  exact ⟨_, keepN_le keep t b _, rfl⟩
/-- behind the first byte that is not new all bytes are old -/
theorem torn_rest {k m : Nat} {f g : Nat → Int} (h : tornF k f g m ≠ f m) : ∀ j, m ≤ j → tornF k f g j = g j := by
  intro j hj
  have : ¬ m < k := by
    intro hm
    apply h
    unfold tornF; rw [if_pos hm]
  unfold tornF; rw [if_neg (by omega)]
/-- how many of the first n are neither new nor old -/
def tornN (p : Nat → Bool) : Nat → Nat
  | 0 => 0
  | n + 1 => tornN p n + (if p n then 1 else 0)
theorem tornN_none {p : Nat → Bool} {n : Nat} (h : ∀ i, i < n → p i = false) : tornN p n = 0 := by
  induction n with
  | zero => rfl
  | succ n ih => simp only [tornN]; rw [ih fun i hi => h i (by omega), h n (by omega)]; rfl
theorem tornN_one {p : Nat → Bool} (h : ∀ i j, p i = true → p j = true → i = j) (n : Nat) : tornN p n ≤ 1 := by
  induction n with
  | zero => exact Nat.zero_le _
  | succ n ih =>
    simp only [tornN]
    by_cases e : p n = true
    · rw [tornN_none (p := p) (n := n), if_pos e]
      · omega
      · intro i hi
        cases c : p i with
        | false => rfl
        | true => have := h i n c e; omega
    · rw [if_neg e]; omega
def tornP (d : Dk) (keep : List Bool) (t b : Int) (i : Nat) : Bool := d.is i && !(decide (sec (crashF d keep t b i) = sec (d.sf i)) || decide (sec (crashF d keep t b i) = sec (d.nw i)))
theorem torn_one (d : Dk) (keep : List Bool) (t b : Int) (n : Nat) : tornN (tornP d keep t b) n ≤ 1 := by
  refine tornN_one (fun i j hi hj => ?_) n
  have key : ∀ k, tornP d keep t b k = true → d.is k = true ∧ (looseN d.is k : Int) = t := by
    intro k hk
    simp only [tornP, Bool.and_eq_true, Bool.not_eq_true', Bool.or_eq_false_iff, decide_eq_false_iff_not] at hk
    refine ⟨hk.1, ?_⟩
    rcases crash_loose (keep := keep) (t := t) (b := b) hk.1 with h | h | h
    · exact absurd h hk.2.2
    · exact absurd h hk.2.1
    · exact h
  obtain ⟨a1, a2⟩ := key i hi
  obtain ⟨b1, b2⟩ := key j hj
  exact looseN_inj a1 b1 (by omega)
/-- the bytes from the first one on that is not new are old -/
theorem torn_tail {k m : Nat} {f g : Nat → Int} (hf : SecF f) (hg : SecF g) (hm : m < 64) (h : tornF k f g m ≠ f m) : (sec (tornF k f g)).extract m 64 = (sec g).extract m 64 := by
  have s1 : ∀ u : Nat → Int, ((sec u).extract m 64).size = 64 - m := fun u => by rw [ByteArray.size_extract, sec_size]; omega
  apply byD_ext (by rw [s1, s1])
  intro j hj
  rw [s1] at hj
  rw [byD_cut _ _ _ _ (by omega), byD_cut _ _ _ _ (by omega), byD_sec (torn_sec hf hg) (by omega), byD_sec hg (by omega)]
  exact torn_rest h _ (by omega)
/-- an image's bytes as sectors -/
def imgF (s : ByteArray) (i : Nat) : Nat → Int := fun j => byD s (64 * i + j)
theorem img_sec (s : ByteArray) (i : Nat) : SecF (imgF s i) := fun _ _ => byD_bd s _
/-- the first k sectors, one behind the other -/
def allF (f : Nat → Nat → Int) : Nat → ByteArray
  | 0 => ByteArray.empty
  | k + 1 => allF f k ++ sec (f k)
theorem allF_size (f : Nat → Nat → Int) (k : Nat) : (allF f k).size = 64 * k := by
  induction k with
  | zero => rfl
  | succ k ih => simp only [allF]; rw [ByteArray.size_append, ih, sec_size]; omega
theorem byD_all {f : Nat → Nat → Int} (h : ∀ i, SecF (f i)) : ∀ (k j : Nat), j < 64 * k → byD (allF f k) j = f (j / 64) (j % 64)
  | 0, j, hj => by omega
  | k + 1, j, hj => by
    simp only [allF]
    rw [byD_app, allF_size]
    split
    · rename_i c; exact byD_all h k j c
    · rename_i c
      rw [byD_sec (h k) (by omega), show j / 64 = k by omega, show j % 64 = j - 64 * k by omega]
theorem all_img (s : ByteArray) (k : Nat) (h : s.size ≤ 64 * k) : (allF (imgF s) k).extract 0 s.size = s := by
  have e : ((allF (imgF s) k).extract 0 s.size).size = s.size := by rw [ByteArray.size_extract, allF_size]; omega
  apply byD_ext e
  intro j hj
  rw [e] at hj
  rw [byD_cut _ _ _ _ (by omega), Nat.zero_add, byD_all (img_sec s) k j (by omega)]
  unfold imgF
  congr 1; omega
theorem all_zero (s : ByteArray) (k j : Nat) (h : s.size ≤ j) (hj : j < 64 * k) : byD (allF (imgF s) k) j = 0 := by
  rw [byD_all (img_sec s) k j hj]
  unfold imgF
  exact byD_out (by omega)

end Go.Proofs.Ytdmlmjmdpmmcgaa
namespace Go.Proofs.Ytdmlmjmdpmmcgaa
open Go.RowKit Go.Deep Go.Maps
set_option linter.unusedVariables false
set_option linter.unusedSimpArgs false
set_option maxRecDepth 100000

theorem info_sec : (Try.prog.info? 85).map (fun i => (i.zero, i.size, i.bytes)) = some (some (.agg (secV fun _ => 0).toArray), 64, 64) := by kernel_rfl
theorem made_rows (n : Nat) : (madeCells (secV fun _ => 0).toArray (n * 64)).toList = rowCells 64 (gB fun _ _ => 0) n := by
  unfold madeCells rowCells
  rw [Array.toList_map, Array.toList_range]
  apply List.map_congr_left
  intro k hk
  rw [secV_size]
  have h := secV_at? (fun _ => 0) (j := k % 64) (Nat.mod_lt _ (by omega))
  simp only [gB]
  rw [getElem!_def]
  simp only [List.getElem?_toArray, h]
theorem not_empty9 (s : ByteArray) (h : 0 < s.size) : s.toList.isEmpty = false := by
  have : ∀ (k i : Nat) (r : List UInt8), s.size - i = k → (i < s.size ∨ r ≠ []) → ByteArray.toList.loop s i r ≠ [] := by
    intro k
    induction k with
    | zero =>
      intro i r hk hr
      unfold ByteArray.toList.loop
      rw [if_neg (by omega)]
      rcases hr with hr | hr
      · omega
      · simpa using hr
    | succ k ih =>
      intro i r hk hr
      unfold ByteArray.toList.loop
      rw [if_pos (by omega)]
      exact ih (i + 1) _ (by omega) (.inr (by simp))
  cases e : s.toList with
  | nil => exact absurd e (this _ 0 [] rfl (.inl h))
  | cons a l => rfl
variable {base P bS bm cS : Nat} {d : Dk} {u : World}
theorem nowD_new (n : Nat) : nowD (newD n) = fun _ _ => 0 := by funext i j; simp [nowD, newD]
set_option maxHeartbeats 1600000 in
theorem pof_any (n : Nat) (hn : 1 ≤ n) (hn2 : n ≤ 4096) (u : World) : Calls Try.prog 41 #[.int .i64 (n : Int)] u fun r u' => ∃ P bS bm cS, r = .returned (.pointer (some ⟨P, 0, none⟩)) ∧ PDk u.heap.size P bS bm cS (newD n) u' ∧ Below u.heap.size u u' := by
  obtain ⟨i0, hi, hz0, hz1, hz2⟩ := info_parts info_sec
  have hmm := @run_makeMap Try.prog
  go_enter Try.func41, Try.ntmps41
  go_wp2_with (at_make; refine wpList_make_full _ rfl _ _ _ rfl u.heap.size 85 i0 (.agg (secV fun _ => 0).toArray) 64 Try.underlying79 hi hz0 hz1 .i64 .i64 _ _ n rfl rfl (by omega) (by omega) (by rw [hz2]; omega) (by unfold maxLen; omega) (Nat.le_refl _) ?_)
  intro w2 hown hgr
  rw [made_rows] at hown
  obtain ⟨b, q1, q2, q3⟩ := RowB.of hown (by omega)
  simp only [Value.ownBlock, Option.some.injEq] at q2
  subst q2
  have HB := Lib.hid ((Below.refl u.heap.size u).grown hgr (Nat.le_refl _) (by simp))
  have HR := Lib.hid q3
  have X1 := Lib.hid (heap_alloc_new w2 (.map #[] 0))
  have B1 := Lib.hid (balloc w2 (.map #[] 0))
  have S1 := Lib.hid (show (w2.alloc (.map #[] 0)).heap.size = w2.heap.size + 1 from World.size_alloc _ _)
  have X2 := Lib.hid (heap_alloc_new (w2.alloc (.map #[] 0)) (.cells #[.slice (some ⟨u.heap.size, 0, none⟩) n n, .map (some w2.heap.size), .int .i64 0, .int .i64 0, .bool false] 82))
  have B2 := Lib.hid (balloc (w2.alloc (.map #[] 0)) (.cells #[.slice (some ⟨u.heap.size, 0, none⟩) n n, .map (some w2.heap.size), .int .i64 0, .int .i64 0, .bool false] 82))
  clear hown hgr q1 q3
  go_wp2_with fail
  go_ret
  refine ⟨w2.heap.size + 1, u.heap.size, w2.heap.size, n, rfl, ?_, HB.out.trans ((B1.out.mono HB.out.size).trans (B2.out.mono (Nat.le_trans HB.out.size B1.out.size)))⟩
  have X2' := X2.out
  have B2' := B2.out
  rw [S1.out] at X2' B2'
  refine ⟨X2', ?_, MpD.none ((B2'.block _ (by omega)).trans X1.out) fun _ => rfl, by have := HB.out.size; omega, Nat.le_refl _, HB.out.size⟩
  rw [nowD_new]
  have hl := HR.out.lt
  exact (HR.out.kept (B1.out.block _ hl)).kept (B2'.block _ (by omega))
theorem pnew_bad (n : Int) (h : n < 1 ∨ 4096 < n) (u : World) : Calls Try.prog 15 #[.int .i64 n] u fun r u' => r = .returned (.tuple #[.pointer none, .int .i64 2]) ∧ u' = u := by
  go_enter Try.func15, Try.ntmps15
  by_cases h1 : n < 1
  · have d1 : decide (n < 1) = true := by simp [h1]
    go_wp2_with fail
    go_ret2
    exact ⟨rfl, rfl⟩
  · have d1 : decide (n < 1) = false := by simp; omega
    have d2 : decide (4096 < n) = true := by simp; omega
    go_wp2_with fail
    go_ret2
    exact ⟨rfl, rfl⟩
theorem pnew_any (n : Nat) (hn : 1 ≤ n) (hn2 : n ≤ 4096) (u : World) : Calls Try.prog 15 #[.int .i64 (n : Int)] u fun r u' => ∃ P bS bm cS, r = .returned (.tuple #[.pointer (some ⟨P, 0, none⟩), .int .i64 0]) ∧ PDk u.heap.size P bS bm cS (newD n) u' ∧ Below u.heap.size u u' := by
  have H := Lib.hid (pof_any n hn hn2 u)
  have d1 : decide ((n : Int) < 1) = false := by simp; omega
  have d2 : decide (4096 < (n : Int)) = false := by simp; omega
  go_enter Try.func15, Try.ntmps15
  go_wp2_with fail
  refine (H.out).mono ?_
  rintro e w1 ⟨P, bS, bm, cS, rfl, r1, k1⟩
  have R1 := Lib.hid r1
  have K1 := Lib.hid k1
  clear r1 k1
  go_wp2_with fail
  go_ret2
  exact ⟨P, bS, bm, cS, rfl, R1.out, K1.out⟩

/-- a disk of an image, of which the first j sectors are laid -/
def imgD (s : ByteArray) (n j : Nat) : Dk := { newD n with sf := fun i => if i < j then imgF s i else fun _ => 0 }
theorem img_now (s : ByteArray) (n j i : Nat) : nowD (imgD s n j) i = if i < j then imgF s i else fun _ => 0 := rfl
theorem img_step {s : ByteArray} {n j : Nat} (h : PDk base P bS bm cS (imgD s n j) u) (hj : j < n) : PDk base P bS bm cS (imgD s n (j + 1)) (u.setCells bS (j * 64) ((Lib.byteCells (s.extract (j * 64) s.size).data.toList).take (Nat.min (s.extract (j * 64) s.size).size 64))) := by
  obtain ⟨n1, n2, n3⟩ := h.ne
  have r0 : RowB 85 64 bS (gB (fillG (imgD s n j) j fun _ => 0)) n (.slice (some ⟨bS, 0, none⟩) n cS) u := h.row.congr fun i hi q hq => by
    unfold gB fillG
    by_cases e : i = j
    · subst e; rw [if_pos rfl, img_now, if_neg (Nat.lt_irrefl _)]
    · rw [if_neg e]
  have r1 := text_at (s.extract (j * 64) s.size) r0 hj
  refine ⟨(setCells_else n1 _ _ _).trans h.box, ?_, (h.mp.kept (setCells_else n3.symm _ _ _)).congr (fun _ _ => rfl) (fun i hi hs => by cases hs), h.lo⟩
  refine r1.congr fun i hi q hq => ?_
  unfold gB fillG
  rw [img_now]
  by_cases e : i = j
  · subst e
    rw [if_pos (Nat.lt_succ_self _), if_pos rfl]
    congr 1
    unfold imgF
    by_cases c : i * 64 + q < s.size
    · rw [byD_cut _ _ _ _ c, Nat.mul_comm]
    · rw [byD_out (s := s) (by omega), byD_out (by rw [ByteArray.size_extract]; omega)]
  · rw [if_neg e, img_now]
    by_cases e2 : i < j
    · rw [if_pos e2, if_pos (by omega)]
    · rw [if_neg e2, if_neg (by omega)]

end Go.Proofs.Ytdmlmjmdpmmcgaa
namespace Go.Proofs.Ytdmlmjmdpmmcgaa
open Go.RowKit Go.Deep Go.Maps
set_option linter.unusedVariables false
set_option linter.unusedSimpArgs false
set_option maxRecDepth 100000

variable {base Q b1 b2 b3 c1 c2 c3 : Nat} {d : Dk} {u : World}
theorem rnow_any (h : RDk base Q b1 b2 b3 c1 c2 c3 d u) (i : Nat) (hi : i < d.n) (hn : d.n ≤ 4096) : Calls Try.prog 51 #[.pointer (some ⟨Q, 0, none⟩), .int .i64 (i : Int)] u fun r u' => r = .returned (.string (sec (nowD d i))) ∧ u' = u := by
  obtain ⟨k0, k1, k2, k3, k4, k5, kf⟩ := h.cells
  have hlt : (i : Int) < (d.n : Int) := by omega
  have hi0 : (0 : Int) ≤ (i : Int) := by omega
  have e0 := h.r3.c i hi 0 (by omega)
  have e1 := h.r1.c i hi 0 (by omega)
  obtain ⟨t, r, ht⟩ := h.r2
  have e2 := r.c i hi 0 (by omega)
  have E : nowD d i = if d.is i then d.nw i else d.sf i := rfl
  unfold gO at e0
  unfold gT at e1 e2
  simp only [Nat.mul_one, Nat.add_zero] at e0 e1 e2
  clear r kf
  go_enter Try.func51, Try.ntmps51
  cases hs : d.is i with
  | true =>
    rw [ht i hi hs] at e2
    rw [hs] at e0
    rw [hs, if_pos rfl] at E
    clear h ht
    go_wp2_with fail
    go_ret
    rw [E]
    exact ⟨rfl, rfl⟩
  | false =>
    rw [hs] at e0
    rw [hs, if_neg (by decide)] at E
    clear h ht
    go_wp2_with fail
    go_ret
    rw [E]
    exact ⟨rfl, rfl⟩
theorem RDk.rebox (h : RDk base Q b1 b2 b3 c1 c2 c3 d u) {d2 : Dk} {u2 : World} (hP : ∀ q, q ≠ Q → u2.heap[q]? = u.heap[q]?) (hb : u2.heap[Q]? = some (.cells (rbx b1 b2 b3 c1 c2 c3 d2) 53 (0, 0)))
    (hn : d2.n = d.n) (hi : d2.is = d.is) (hs : d2.sf = d.sf) (hw : d2.nw = d.nw) : RDk base Q b1 b2 b3 c1 c2 c3 d2 u2 := by
  obtain ⟨n1, n2, n3, _⟩ := h.nes
  obtain ⟨t, r, ht⟩ := h.r2
  refine ⟨hb, ?_, ⟨t, ?_, ?_⟩, ?_, h.ne, h.lo⟩
  · rw [hn, hs]; exact h.r1.kept (hP _ n1.symm)
  · rw [hn]; exact r.kept (hP _ n2.symm)
  · rw [hn, hi, hw]; exact ht
  · rw [hn, hi]; exact h.r3.kept (hP _ n3.symm)
set_option maxHeartbeats 1600000 in
theorem rcount_any (h : RDk base Q b1 b2 b3 c1 c2 c3 d u) (hb : BdD d) (hdn : d.down = false) : Calls Try.prog 50 #[.pointer (some ⟨Q, 0, none⟩)] u fun r u' => r = .returned (.int .i64 (countE d)) ∧ RDk base Q b1 b2 b3 c1 c2 c3 (countD d) u' ∧ KpS (R4 Q b1 b2 b3) u u' := by
  obtain ⟨n, sf, nw, is, arm, calls, down⟩ := d
  have hc : calls < 1000000 := hb.calls
  have ha : arm ≤ 9223372036854775807 := hb.arm
  obtain rfl : down = false := hdn
  have R := Lib.hid h
  have HB := Lib.hid h.box
  obtain ⟨k0, k1, k2, k3, k4, k5, kf⟩ := h.cells
  have hf3 := kf 3
  have hf4 := kf 4
  have hf5 := kf 5
  clear h kf hb k0 k1 k2
  dsimp only at k3 k4 k5
  go_enter Try.func50, Try.ntmps50
  rcases arm with _ | _ | arm
  · have B1 := Lib.hid (show (u.setCell ⟨Q, 4, none⟩ (.int .i64 ((calls : Int) + 1))).heap[Q]? = some (.cells (rbx b1 b2 b3 c1 c2 c3 ⟨n, sf, nw, is, 0, calls + 1, false⟩) 53 (0, 0)) from Joins.block_setCell (i := 4) HB.out _)
    have R1 := Lib.hid (R.out.rebox (fun q hq => set_else _ hq) B1.out rfl rfl rfl rfl)
    have K1 := Lib.hid (KpS.set (R4.a Q b1 b2 b3) 4 (.int .i64 ((calls : Int) + 1)) u)
    go_wp2_with fail
    go_ret
    exact ⟨rfl, R1.out, K1.out⟩
  · have B1 := Lib.hid (show (((u.setCell ⟨Q, 4, none⟩ (.int .i64 ((calls : Int) + 1))).setCell ⟨Q, 5, none⟩ (.bool true)).setCell ⟨Q, 3, none⟩ (.int .i64 0)).heap[Q]? = some (.cells (rbx b1 b2 b3 c1 c2 c3 ⟨n, sf, nw, is, 0, calls + 1, true⟩) 53 (0, 0)) from Joins.block_setCell (i := 3) (Joins.block_setCell (i := 5) (Joins.block_setCell (i := 4) HB.out _) _) _)
    have R1 := Lib.hid (R.out.rebox (fun q hq => ((set_else _ hq).trans (set_else _ hq)).trans (set_else _ hq)) B1.out rfl rfl rfl rfl)
    have K1 := Lib.hid (((KpS.set (R4.a Q b1 b2 b3) 4 (.int .i64 ((calls : Int) + 1)) u).trans (KpS.set (R4.a Q b1 b2 b3) 5 (.bool true) _)).trans (KpS.set (R4.a Q b1 b2 b3) 3 (.int .i64 0) _))
    go_wp2_with fail
    go_ret
    exact ⟨rfl, R1.out, K1.out⟩
  · have e1 : ((arm + 1 + 1 : Nat) : Int) - 1 = ((arm + 1 : Nat) : Int) := by omega
    have B1 := Lib.hid (show ((u.setCell ⟨Q, 4, none⟩ (.int .i64 ((calls : Int) + 1))).setCell ⟨Q, 3, none⟩ (.int .i64 ((arm + 1 : Nat) : Int))).heap[Q]? = some (.cells (rbx b1 b2 b3 c1 c2 c3 ⟨n, sf, nw, is, arm + 1, calls + 1, false⟩) 53 (0, 0)) from Joins.block_setCell (i := 3) (Joins.block_setCell (i := 4) HB.out _) _)
    have R1 := Lib.hid (R.out.rebox (fun q hq => (set_else _ hq).trans (set_else _ hq)) B1.out rfl rfl rfl rfl)
    have K1 := Lib.hid ((KpS.set (R4.a Q b1 b2 b3) 4 (.int .i64 ((calls : Int) + 1)) u).trans (KpS.set (R4.a Q b1 b2 b3) 3 (.int .i64 ((arm + 1 : Nat) : Int)) _))
    have d1 : decide ((1 : Int) < ((arm + 1 + 1 : Nat) : Int)) = true := by simp; omega
    have d2 : (((arm + 1 + 1 : Nat) : Int) == 1) = false := by simp; omega
    generalize hq1 : ((arm + 1 + 1 : Nat) : Int) = q1 at *
    generalize hq2 : ((arm + 1 : Nat) : Int) = q2 at *
    have hq3 : q1 ≤ 9223372036854775807 ∧ 0 < q1 := by omega
    go_wp2_with fail
    go_ret
    exact ⟨rfl, R1.out, K1.out⟩

end Go.Proofs.Ytdmlmjmdpmmcgaa
