/- The contract of the program's Crash. The contract of strings.Clone at this program. The contracts of strings.Clone and of strings.Builder (a builder in a block of the call's own) at this program. The contracts of strings.Builder's grow and Grow at a builder that nothing was written to. (Moved out of StrJoin.) -/
import Derived.WalkKit
import Derived.WalkSpells
import Derived.WalkLawsBesides
import Derived.Lib.Hide
import Derived.Shelf.LaysM
import Derived.Shelf.Strconv.Clone
import Derived.Shelf.Strings.Builder1
import Derived.Lib.MakeNoZero
import Derived.Lib.Builder
import Derived.Test.YtdpmpmaepjgndaaGreatYZ17
import Derived.Test.YtdpmpmaepjgndaaGreatRows
namespace Go.Proofs.YtdpmpmaepjgndaaGreat
open Go.RowKit Go.Deep Go.Maps
set_option linter.unusedVariables false
set_option linter.unusedSimpArgs false
set_option maxRecDepth 100000

variable {base P bS bm cS : Nat} {d : Dk} {u : World}
/-- the first j sectors have crashed -/
def crsD (d : Dk) (keep : List Bool) (t b : Int) (j : Nat) : Dk := { d with nw := fun i => if i < j then crashF d keep t b i else d.nw i }
theorem crs_now (d : Dk) (keep : List Bool) (t b : Int) (j k : Nat) (h : j ≤ k) : nowD (crsD d keep t b j) k = nowD d k := by
  have e : ¬ k < j := by omega
  simp [nowD, crsD, e]
theorem crs_new (d : Dk) (keep : List Bool) (t b : Int) (j k : Nat) (h : k < j) : nowD (crsD d keep t b j) k = crashF d keep t b k := by
  unfold nowD crsD
  simp only [if_pos h]
  split
  · rfl
  · rename_i e; unfold crashF; rw [if_neg e]
theorem crs_else (d : Dk) (keep : List Bool) (t b : Int) (j k : Nat) (h : k ≠ j) : nowD (crsD d keep t b (j + 1)) k = nowD (crsD d keep t b j) k := by
  by_cases e : k < j
  · rw [crs_new _ _ _ _ _ _ e, crs_new _ _ _ _ _ _ (by omega)]
  · rw [crs_now _ _ _ _ _ _ (by omega), crs_now _ _ _ _ _ _ (by omega)]
theorem PDk.crs0 (h : PDk base P bS bm cS d u) (keep : List Bool) (t b : Int) : PDk base P bS bm cS (crsD d keep t b 0) u := h
/-- a sector that is not loose -/
theorem PDk.crs_skip {keep : List Bool} {t b : Int} {j : Nat} (h : PDk base P bS bm cS (crsD d keep t b j) u) (hs : d.is j = false) : PDk base P bS bm cS (crsD d keep t b (j + 1)) u := by
  refine h.congr rfl rfl rfl rfl (fun _ _ => rfl) (fun _ _ _ _ _ => rfl) (fun i hi q hq => ?_)
  by_cases e : i = j
  · subst e
    rw [crs_new _ _ _ _ _ _ (Nat.lt_succ_self _), crs_now _ _ _ _ _ _ (Nat.le_refl _)]
    unfold crashF nowD; rw [hs]; rfl
  · rw [crs_else _ _ _ _ _ _ e]
/-- a loose one: the rest of its old bytes is laid -/
theorem PDk.crs_lay {keep : List Bool} {t b : Int} {j k : Nat} (h : PDk base P bS bm cS (crsD d keep t b j) u) (hj : j < d.n) (hs : d.is j = true) (hk : k = keepN keep t b (looseN d.is j)) : PDk base P bS bm cS (crsD d keep t b (j + 1)) (u.setCells bS (j * 64 + k) ((secV (d.sf j)).drop k)) := by
  obtain ⟨n1, n2, n3⟩ := h.ne
  have hk64 : k ≤ 64 := by rw [hk]; exact keepN_le _ _ _ _
  have hl : ((secV (d.sf j)).drop k).length = 64 - k := by rw [List.length_drop, secV_len]
  have key : ∀ q, nowD (crsD d keep t b (j + 1)) j q = if q < k then d.nw j q else d.sf j q := by
    intro q
    rw [crs_new _ _ _ _ _ _ (Nat.lt_succ_self _)]
    unfold crashF tornF
    rw [if_pos hs, hk]
  have old : nowD (crsD d keep t b j) j = d.nw j := by
    rw [crs_now _ _ _ _ _ _ (Nat.le_refl _)]
    unfold nowD; rw [hs]; rfl
  refine ⟨(setCells_else n1 _ _ _).trans h.box, ?_, (h.mp.kept (setCells_else n3.symm _ _ _)).congr (fun _ _ => rfl) (fun _ _ _ _ _ => rfl), h.lo⟩
  refine RowB.sets (G2 := gB (nowD (crsD d keep t b (j + 1)))) h.row hj _ (by rw [hl]; omega) (fun q hq => ?_) (fun i2 hi2 q hq hne => ?_)
  · rw [hl] at hq
    unfold gB
    rw [key, if_neg (by omega), List.getElem_drop, secV_at _ (by omega)]
  · unfold gB
    by_cases e : i2 = j
    · subst e
      rw [key, old]
      rw [hl] at hne
      have : q < k := by
        rcases Nat.lt_or_ge q k with c | c
        · exact c
        · exact absurd ⟨rfl, c, by omega⟩ hne
      rw [if_pos this]
    · rw [crs_else _ _ _ _ _ _ e]
theorem PDk.crs_end {keep : List Bool} {t b : Int} (h : PDk base P bS bm cS (safeD (crsD d keep t b d.n)) u) (u2 : World) (hP : ∀ q, q ≠ P → u2.heap[q]? = u.heap[q]?) (hb : u2.heap[P]? = some (.cells (pbx bS cS bm (crashD d keep t b)) 90 (0, 0))) : PDk base P bS bm cS (crashD d keep t b) u2 := by
  have h2 : PDk base P bS bm cS { safeD (crsD d keep t b d.n) with arm := 0, down := false } u2 := h.rebox hP hb rfl rfl rfl rfl
  refine h2.congr rfl rfl rfl rfl (fun _ _ => rfl) (fun i hi hs => by cases hs) (fun i hi q hq => ?_)
  show crashF d keep t b i q = nowD (crsD d keep t b d.n) i q
  rw [crs_new _ _ _ _ _ _ (show i < d.n from hi)]
/-- copy(sectors[j][k:], old[k:]) -/
theorem copy_rest {keep : List Bool} {t b : Int} {j k B : Nat} {c : Array Value} {fz : Nat × Nat} {E : TypeId} (h : PDk base P bS bm cS (crsD d keep t b j) u) (hj : j < d.n) (hk : k ≤ 64) (hB : u.heap[B]? = some (.cells c E fz)) (hc : c = (secV (d.sf j)).toArray) :
    (Builtin.copy_ #[97, 97] 3 #[.slice (some (if 64 = k then ⟨bS, j * 64, none⟩ else ⟨bS, j * 64 + k, none⟩)) (64 - k) (64 - k), .slice (some (if 64 = k then ⟨B, 0, none⟩ else ⟨B, k, none⟩)) (64 - k) (64 - k)]).run Tryz.prog u = .ok (.int .i64 (64 - k : Nat)) (u.setCells bS (j * 64 + k) ((secV (d.sf j)).drop k)) := by
  have hl : ((secV (d.sf j)).drop k).length = 64 - k := by rw [List.length_drop, secV_len]
  by_cases e : 64 = k
  · subst e
    have : (secV (d.sf j)).drop 64 = [] := List.eq_nil_of_length_eq_zero (by rw [hl])
    rw [this]
    exact run_copy_none (P := Tryz.prog) u 97 97 3 5 _ _ 0 0 0 0 Tryz.underlying97 (by kernel_rfl) rfl
  · rw [if_neg e, if_neg e]
    have ht := h.row.there hj k (64 - k) (by omega)
    have := run_copy_cells (P := Tryz.prog) u 97 97 3 5 bS (j * 64 + k) (64 - k) (64 - k) ⟨B, k, none⟩ (64 - k) (64 - k) ((secV (d.sf j)).drop k) Tryz.underlying97 (by kernel_rfl) (by rw [hl]; exact (Nat.min_self _).symm)
      (fun q v hq => by
        rw [add_plain, Lib.cell_of_heap hB, hc]
        rw [List.getElem?_drop] at hq
        simpa using hq)
      (fun q hq => (ht q (by rw [hl] at hq; exact hq)).1) (fun q hq => (ht q (by rw [hl] at hq; exact hq)).2) (fun v hv => secV_one _ v (List.mem_of_mem_drop hv))
    rw [hl] at this
    exact this

set_option maxHeartbeats 6400000 in
theorem pcrashB_any (h : PDk base P bS bm cS d u) (hn : d.n ≤ 4096) (hbase : base ≤ u.heap.size) {keep : List Bool} {t b : Int} {v : Value} (hc : CrA base keep t b v u) : Calls Tryz.prog 56 #[.pointer (some ⟨P, 0, none⟩), .agg #[v, .int .i64 t, .int .i64 b]] u fun r u' => r = .returned (.int .i64 0) ∧ (∃ bm2, NewOr bm u bm2 ∧ bm2 < u'.heap.size ∧ PDk base P bS bm2 cS (crashD d keep t b) u') ∧ KpS (P3 P bS bm) u u' := by
  have R := Lib.hid h
  have HC := Lib.hid hc
  have HBASE := Lib.hid hbase
  have X1 := Lib.hid (heap_alloc_new u (.cells #[v, .int .i64 t, .int .i64 b] 50))
  have B1 := Lib.hid (balloc u (.cells #[v, .int .i64 t, .int .i64 b] 50))
  have CH := Lib.hid (chooser_any (hc.below (B1.out.mono hbase)) (Nat.le_trans hbase B1.out.size))
  clear h hc hbase
  go_enter Tryz.func56, Tryz.ntmps56
  go_wp2_with fail
  refine (CH.out).mono ?_
  rintro e w1 ⟨C1, C2, rfl, hC1, hC2, hch, hb1⟩
  have R1 := Lib.hid (R.out.below (B1.out.trans (hb1.mono B1.out.size)))
  have K1 := Lib.hid (KpS.of (B1.out.trans (hb1.mono B1.out.size)) : KpS (P3 P bS bm) u w1)
  have HCH := Lib.hid hch
  have LT := Lib.hid R.out.lt
  have N1 : Hid (P3 P bS bm C1 = false ∧ P3 P bS bm C2 = false) := by
    have h1 := B1.out.size
    have h2 := LT.out
    exact Lib.hid ⟨P3.no (by omega) (by omega) (by omega), P3.no (by omega) (by omega) (by omega)⟩
  have HC1 := Lib.hid (show C1 < w1.heap.size ∧ C2 < w1.heap.size from ⟨lt_of_block hch.x, lt_of_block hch.y⟩)
  have HB1 := Lib.hid (Nat.le_trans HBASE.out K1.out.size)
  clear hC1 hC2 hch hb1 CH X1 B1
  unfold fvC
  have c0 := R1.out.cells.1
  obtain ⟨n, hq⟩ : ∃ n, n = d.n := ⟨_, rfl⟩
  rw [← hq] at hn c0
  have HQ := Lib.hid hq
  clear hq
  go_wp2_with fail
  go_loopw [6, 20] (fun c i wr => ∃ j : Nat, j ≤ n ∧ i = .int .i64 j ∧ c = .int .i64 (looseN d.is j : Int) ∧ PDk base P bS bm cS (crsD d keep t b j) wr ∧ ChA base keep t b v C1 C2 wr ∧ KpS (P3 P bS bm) u wr ∧ KpS (P3 P bS bm) w1 wr) (fun _ i _ => n - (intOf i).toNat)
  case atStart => exact ⟨0, Nat.zero_le _, rfl, rfl, R1.out.crs0 keep t b, HCH.out, K1.out, KpS.refl _ _⟩
  case round =>
    clear c0
    obtain ⟨j, hj, rfl, rfl, hr, hch, hk, hk1⟩ := hrel
    have RJ := Lib.hid hr
    have KJ := Lib.hid hk
    have K1J := Lib.hid hk1
    have CJ := Lib.hid hch
    obtain ⟨c0, c1, c2, c3, c4, cf⟩ := hr.cells
    change wr.cell? ⟨P, 0, none⟩ = some (.slice (some ⟨bS, 0, none⟩) d.n cS) at c0
    rw [← HQ.out] at c0
    have hj0 : (0 : Int) ≤ (j : Int) := by omega
    have hle := looseN_le d.is j
    clear hch hk hk1 c2 c3 c4 cf
    by_cases hlt : j < n
    · have hj2 : (j : Int) < (n : Int) := by omega
      have hjd : j < d.n := by rw [← HQ.out]; exact hlt
      obtain ⟨c, r1, r2, r3, r4⟩ := hr.mp.look (i := j) (zero_val wr) rfl hjd (by rw [HQ.out] at hn; exact hn)
      change _ = Result.ok (Value.tuple #[.agg c, .bool (d.is j)]) wr at r1
      change d.is j = true → c = (secV (d.sf j)).toArray at r3
      have hcs : c.size = 64 := by
        rw [r2]; split
        · rfl
        · exact secV_size _
      have hc1 : c.all (·.oneCell') = true := by
        cases hq : d.is j with
        | true => rw [r3 hq]; exact all_oneCell_toArray (secV_one _)
        | false => rw [r4 hq]; exact all_oneCell_toArray (secV_one _)
      have hst : ∀ Z : Array Value, Z.size = 64 → (storeCells ⟨wr.heap.size, 0, none⟩ c.toList 0).run Tryz.prog (wr.alloc (.cells Z 96)) = .ok () (wr.alloc (.cells c 96)) := fun Z hz =>
        run_storeCells_new (P := Tryz.prog) wr 96 Z c (by rw [size_sec, hcs]) (by rw [hz, hcs]) hc1
      have B2 := Lib.hid (balloc wr (.cells c 96))
      have X2 := Lib.hid (heap_alloc_new wr (.cells c 96))
      have HJ := Lib.hid hlt
      have HJD := Lib.hid hjd
      have HR3 := Lib.hid r3
      clear hr r2 r3 r4 hc1 hlt hjd
      go_upto_region 8 with fail
      generalize wr.alloc (.cells c 96) = w2 at *
      clear hst hcs r1
      have R2 := Lib.hid (RJ.out.below B2.out)
      have HB2 := Lib.hid (Nat.le_trans HB1.out K1J.out.size)
      have C2' : Hid (ChA base keep t b v C1 C2 w2) := Lib.hid (CJ.out.kept (B2.out.mono HB2.out) (B2.out.block _ (lt_of_block CJ.out.x)) (B2.out.block _ (lt_of_block CJ.out.y)))
      have K2 := Lib.hid (KJ.out.on B2.out)
      have K12 := Lib.hid (K1J.out.on B2.out)
      cases hs : d.is j with
      | false =>
        have E : looseN d.is (j + 1) = looseN d.is j := by simp [looseN, hs]
        have F : Hid (PDk base P bS bm cS (crsD d keep t b (j + 1)) w2) := Lib.hid (R2.out.crs_skip hs)
        have HE := Lib.hid E
        clear E hle
        go_wp2_with fail
        go_roundw
        case rel => exact ⟨j + 1, HJ.out, by go_num, by rw [HE.out], F.out, C2'.out, K2.out, K12.out⟩
        case measure => have := HJ.out; simp [intOf]; omega
      | true =>
        have E : looseN d.is (j + 1) = looseN d.is j + 1 := by simp [looseN, hs]
        have HE := Lib.hid E
        have CHO := Lib.hid (chose_any C2'.out (looseN d.is j) (by omega))
        obtain ⟨k, hkk⟩ : ∃ k, k = keepN keep t b (looseN d.is j) := ⟨_, rfl⟩
        have hk64 : k ≤ 64 := by rw [hkk]; exact keepN_le _ _ _ _
        rw [← hkk] at CHO
        have hcp := copy_rest R2.out HJD.out hk64 X2.out (HR3.out hs)
        have F : Hid (PDk base P bS bm cS (crsD d keep t b (j + 1)) (w2.setCells bS (j * 64 + k) ((secV (d.sf j)).drop k))) := Lib.hid (R2.out.crs_lay HJD.out hs hkk)
        have KK := Lib.hid (kps_setCells (P3.b P bS bm) ((secV (d.sf j)).drop k) (j * 64 + k) w2)
        have q0 : w2.cell? ⟨P, 0, none⟩ = some (.slice (some ⟨bS, 0, none⟩) n cS) := by rw [HQ.out]; exact R2.out.cells.1
        have hk0 : (0 : Int) ≤ (k : Int) ∧ (k : Int) ≤ 64 := by omega
        have HKK := Lib.hid hkk
        generalize hqq : looseN d.is j = q at *
        have HQQ := Lib.hid hqq
        clear hqq
        have Q0 := Lib.hid q0
        have HCP := Lib.hid hcp
        clear E hkk c0 c1 q0 hcp
        go_wp2_with fail
        refine (CHO.out).mono ?_
        rintro e w3 ⟨rfl, rfl⟩
        go_upto_region 10 with fail
        refine wp_region_held_drew (S := (fun w' => w'.cell? ⟨P, 0, none⟩ = some (.slice (some ⟨bS, 0, none⟩) n cS))) (by kernel_rfl) ?_ (fun hHeld => ?_)
        · rw [HQ.out]; exact (R2.out.below (bdrew w3)).cells.1
        change wpAnyH _ _ _ _ _ _ _ _ (World.drew w3)
        have L1 := Lib.hid (bdrew w3)
        have X3 := Lib.hid (show (World.drew w3).heap[wr.heap.size]? = some (.cells c 96) from X2.out)
        have R3 := Lib.hid (R2.out.below L1.out)
        have C3 : Hid (ChA base keep t b v C1 C2 (World.drew w3)) := Lib.hid (C2'.out.kept (L1.out.mono (Nat.le_trans HB2.out B2.out.size)) rfl rfl)
        have K3 := Lib.hid (K2.out.on L1.out)
        have K13 := Lib.hid (K12.out.on L1.out)
        clear HCP F KK Q0
        generalize World.drew w3 = w4 at *
        have hcp := copy_rest R3.out HJD.out hk64 X3.out (HR3.out hs)
        have F : Hid (PDk base P bS bm cS (crsD d keep t b (j + 1)) (w4.setCells bS (j * 64 + k) ((secV (d.sf j)).drop k))) := Lib.hid (R3.out.crs_lay HJD.out hs (by rw [HQQ.out]; exact HKK.out))
        have KK := Lib.hid (kps_setCells (P3.b P bS bm) ((secV (d.sf j)).drop k) (j * 64 + k) w4)
        first | refine tq0 0 rfl ?_ | refine tq1 0 rfl ?_
        try go_frame
        first | refine tq0 1 rfl ?_ | refine tq1 1 rfl ?_
        try go_frame
        first | refine tq0 2 rfl ?_ | refine tq1 2 rfl ?_
        try go_frame
        first | refine tq0 3 rfl ?_ | refine tq1 3 rfl ?_
        try go_frame
        first | refine tq0 4 rfl ?_ | refine tq1 4 rfl ?_
        try go_frame
        first | refine tq0 5 rfl ?_ | refine tq1 5 rfl ?_
        try go_frame
        first | refine tq0 6 rfl ?_ | refine tq1 6 rfl ?_
        try go_frame
        first | refine tq0 7 rfl ?_ | refine tq1 7 rfl ?_
        try go_frame
        first | refine tq0 8 rfl ?_ | refine tq1 8 rfl ?_
        try go_frame
        first | refine tq0 9 rfl ?_ | refine tq1 9 rfl ?_
        try go_frame
        refine wpAnyH_ready (rs := [10]) (by kernel_rfl) (by simp) ?_
        refine AllReadyH.cons (o := ⟨_, _, _, _, _, _⟩) rfl (fun K hK => ?_) AllReadyH.nil
        go_simp
        refine hK.out _ _ ?_ (fun hHeld => ?_)
        · rw [HQ.out]; exact F.out.cells.1
        clear hK K
        try simp only [Act.put, List.setIfInBounds_toArray, List.set_cons_zero, List.set_cons_succ]
        refine wpAnyH_done (by kernel_rfl) ?_ _
        have K5 := Lib.hid (K3.out.trans KK.out)
        have K15 := Lib.hid (K13.out.trans KK.out)
        have C5 : Hid (ChA base keep t b v C1 C2 (w4.setCells bS (j * 64 + k) ((secV (d.sf j)).drop k))) := Lib.hid (C3.out.kept (R3.out.bot KK.out (Nat.le_trans HB2.out (Nat.le_trans B2.out.size L1.out.size))) (KK.out.blk (lt_of_block C3.out.x) N1.out.1) (KK.out.blk (lt_of_block C3.out.y) N1.out.2))
        clear hcp hHeld
        generalize w4.setCells bS (j * 64 + k) ((secV (d.sf j)).drop k) = w5 at *
        go_wp2_with fail
        go_roundw
        case rel => exact ⟨j + 1, HJ.out, by go_num, by rw [HE.out]; go_num, F.out, C5.out, K5.out, K15.out⟩
        case measure => have := HJ.out; simp [intOf]; omega
    · obtain rfl : j = n := by omega
      have H3 := Lib.hid (psettleB_any RJ.out)
      have d1 : decide ((j : Int) < (j : Int)) = false := by simp
      clear hr c1
      go_wp2_with fail
      refine (H3.out).mono ?_
      rintro e w6 ⟨rfl, ⟨bm2, hno2, hlt2, r6⟩, k6⟩
      have R6 := Lib.hid r6
      have K6 := Lib.hid (KJ.out.trans k6)
      have HLT := Lib.hid hlt2
      have HNO := Lib.hid (show NewOr bm u bm2 from Or.imp id (fun h => Nat.le_trans KJ.out.size h) hno2)
      obtain ⟨c0, c1, c2, c3, c4, cf⟩ := r6.cells
      have cf3 := cf 3
      have cf4 := cf 4
      change w6.cell? ⟨P, 3, none⟩ = some (.int .i64 (d.arm : Int)) at c3
      change w6.cell? ⟨P, 4, none⟩ = some (.bool d.down) at c4
      have HB6 := Lib.hid r6.box
      have BX := Lib.hid (show ((w6.setCell ⟨P, 3, none⟩ (.int .i64 0)).setCell ⟨P, 4, none⟩ (.bool false)).heap[P]? = some (.cells (pbx bS cS bm2 (crashD d keep t b)) 90 (0, 0)) from Joins.block_setCell (i := 4) (Joins.block_setCell (i := 3) HB6.out _) _)
      have F9 : Hid (PDk base P bS bm2 cS (crashD d keep t b) ((w6.setCell ⟨P, 3, none⟩ (.int .i64 0)).setCell ⟨P, 4, none⟩ (.bool false))) := Lib.hid (PDk.crs_end (by rw [← HQ.out]; exact R6.out) _ (fun q hq => (set_else _ hq).trans (set_else _ hq)) BX.out)
      have K9 := Lib.hid ((K6.out.trans (KpS.set (P3.a P bS bm) 3 (.int .i64 0) w6)).trans (KpS.set (P3.a P bS bm) 4 (.bool false) _))
      have SZ := Lib.hid (show bm2 < ((w6.setCell ⟨P, 3, none⟩ (.int .i64 0)).setCell ⟨P, 4, none⟩ (.bool false)).heap.size by rw [World.size_setCell, World.size_setCell]; exact HLT.out)
      clear r6 k6 hlt2 hno2 c0 c1 c2 cf
      go_wp2_with fail
      go_ret
      exact ⟨rfl, ⟨_, HNO.out, SZ.out, F9.out⟩, K9.out⟩

end Go.Proofs.YtdpmpmaepjgndaaGreat
namespace Go.Proofs.YtdpmpmaepjgndaaGreat
open Go.Shelf Go.RowKit

def renClone : Go.Shelf.Ren := ⟨fun | 316 => 185 | n => n, fun | 9 => 9 | 3 => 3 | 4 => 4 | 37 => 97 | 0 => 0 | 127 => 204 | 5 => 5 | n => n, fun | n => n⟩
theorem laysClone : Go.Proofs.LaysM.n316 Tryz.prog renClone := {
  mixed := by kernel_rfl
  f316 := Tryz.func185.trans (congrArg some (by kernel_rfl))
  t0 := Tryz.underlying0
  a0 := Tryz.isAgg0
  z0 := Tryz.sizeOf0
  v0 := Tryz.zeroValue0
  t3 := Tryz.underlying3
  a3 := Tryz.isAgg3
  z3 := Tryz.sizeOf3
  v3 := Tryz.zeroValue3
  t4 := Tryz.underlying4
  a4 := Tryz.isAgg4
  z4 := Tryz.sizeOf4
  v4 := Tryz.zeroValue4
  t9 := Tryz.underlying9
  a9 := Tryz.isAgg9
  z9 := Tryz.sizeOf9
  v9 := Tryz.zeroValue9
  t37 := Tryz.underlying97
  a37 := Tryz.isAgg97
  z37 := Tryz.sizeOf97
  v37 := Tryz.zeroValue97
  t127 := Tryz.underlying204
  a127 := Tryz.isAgg204
  z127 := Tryz.sizeOf204
  v127 := Tryz.zeroValue204
  t5 := Tryz.underlying5
  a5 := Tryz.isAgg5
  z5 := Tryz.sizeOf5
  v5 := Tryz.zeroValue5
  i0 := by kernel_rfl
  i3 := by kernel_rfl
  i4 := by kernel_rfl
  i5 := by kernel_rfl
  i9 := by kernel_rfl
  i37 := by kernel_rfl
  i127 := by kernel_rfl }
theorem liteClone (s : ByteArray) (w : World) (hlim : s.size ≤ 281474976710656) :
    Calls Tryz.prog 185 #[.string s] w fun e w' => e = .returned (.string s) ∧ Below w.heap.size w w' := Any.stringslite_Clone laysClone s w hlim
theorem strClone (s : ByteArray) (w : World) (hlim : s.size ≤ 281474976710656) :
    Calls Tryz.prog 172 #[.string s] w fun e w' => e = .returned (.string s) ∧ Below w.heap.size w w' := by
  go_enter Tryz.func172, Tryz.ntmps172
  go_wp2_with (go_at_call 185; refine (liteClone _ _ hlim).mono ?_; rintro e w' ⟨rfl, hb⟩)
  go_ret
  exact ⟨rfl, hb⟩

end Go.Proofs.YtdpmpmaepjgndaaGreat
namespace Go.Proofs.YtdpmpmaepjgndaaGreat
open Go.Shelf Go.RowKit

def renString : Go.Shelf.Ren := ⟨fun | 169 => 157 | n => n, fun | 70 => 182 | 9 => 9 | 0 => 0 | 72 => 184 | 37 => 97 | 127 => 204 | 3 => 3 | 5 => 5 | n => n, fun | n => n⟩
theorem laysString : Go.Proofs.Lays.n169 Tryz.prog renString := {
  mixed := by kernel_rfl
  f169 := Tryz.func157.trans (congrArg some (by kernel_rfl))
  t0 := Tryz.underlying0
  a0 := Tryz.isAgg0
  z0 := Tryz.sizeOf0
  v0 := Tryz.zeroValue0
  t3 := Tryz.underlying3
  a3 := Tryz.isAgg3
  z3 := Tryz.sizeOf3
  v3 := Tryz.zeroValue3
  t9 := Tryz.underlying9
  a9 := Tryz.isAgg9
  z9 := Tryz.sizeOf9
  v9 := Tryz.zeroValue9
  t37 := Tryz.underlying97
  a37 := Tryz.isAgg97
  z37 := Tryz.sizeOf97
  v37 := Tryz.zeroValue97
  t70 := Tryz.underlying182
  a70 := Tryz.isAgg182
  z70 := Tryz.sizeOf182
  v70 := Tryz.zeroValue182
  t72 := Tryz.underlying184
  a72 := Tryz.isAgg184
  z72 := Tryz.sizeOf184
  v72 := Tryz.zeroValue184
  t127 := Tryz.underlying204
  a127 := Tryz.isAgg204
  z127 := Tryz.sizeOf204
  v127 := Tryz.zeroValue204 }
theorem extraString : Builder.Extra Tryz.prog renString := {
  sizeBuilder := by kernel_rfl
  liesBuilder := by kernel_rfl
  t5 := Tryz.underlying5
  a5 := Tryz.isAgg5
  z5 := Tryz.sizeOf5
  v5 := Tryz.zeroValue5
  infoByte := by kernel_rfl
  cellsByte := by kernel_rfl
  sizeByte := by kernel_rfl
  neB5 := by decide }
theorem builderString (B b : Nat) (l : List UInt8) (w : World) (h : Lib.IsBuilder 184 5 B b (Lib.byteCells l) w) (hBw : B ≤ w.heap.size) :
    Calls Tryz.prog 157 #[.pointer (some ⟨b, 0, none⟩)] w fun e w' => e = .returned (.string ⟨l.toArray⟩) ∧ Below B w w' := Any.Builder_String_any laysString extraString B b l w h hBw

theorem sizeBuilder : (Tryz.prog.info? 184).map (·.size) = some 2 := by kernel_rfl
theorem liesBuilder : liesAt Tryz.prog Tryz.prog.depth 184 (2 / Tryz.prog.cellsOf 184) 0 184 1 = true := by kernel_rfl
theorem infoByte : (Tryz.prog.info? 5).map (fun i => (i.zero, i.size, i.bytes)) = some (some (.int .u8 0), 1, 1) := by kernel_rfl

set_option maxHeartbeats 1000000 in
set_option maxRecDepth 100000 in
theorem copyCheck_used (b : Nat) (w : World) (h0 : w.cell? ⟨b, 0, none⟩ = some (.pointer (some ⟨b, 0, none⟩))) :
    Calls Tryz.prog 177 #[.pointer (some ⟨b, 0, none⟩)] w fun e w' => e = .returned (.tuple #[]) ∧ w' = w := by
  obtain ⟨j, hj, _⟩ := Option.map_eq_some_iff.1 sizeBuilder
  go_enter Tryz.func177, Tryz.ntmps177
  go_wp2
  rw [Lib.run_neq_ptr_same w _ Tryz.underlying182 hj]
  go_wp2
  go_end0
  exact ⟨rfl, rfl⟩

set_option maxHeartbeats 1000000 in
set_option maxRecDepth 100000 in
theorem copyCheck_fresh (b : Nat) (w : World) (h0 : w.cell? ⟨b, 0, none⟩ = some (.pointer none)) (hsh : w.shape? b = some (184, 2)) (hfz : w.frozen? ⟨b, 0, none⟩ = false) :
    Calls Tryz.prog 177 #[.pointer (some ⟨b, 0, none⟩)] w fun e w' => e = .returned (.tuple #[]) ∧ w' = w.setCell ⟨b, 0, none⟩ (.pointer (some ⟨b, 0, none⟩)) := by
  obtain ⟨j, hj, hjs⟩ := Option.map_eq_some_iff.1 sizeBuilder
  go_enter Tryz.func177, Tryz.ntmps177
  go_wp2
  rw [Lib.run_to_unsafe w ⟨b, 0, none⟩ Tryz.underlying182 Tryz.underlying218 hj (by rw [hjs]; decide) hsh (Nat.zero_lt_succ 1)]
  simp only [Result.andThen]
  rw [Oper.upon_value]
  go_wp2
  rw [run_callFunc_extern Tryz.func188 (by kernel_rfl) (by kernel_rfl) (by kernel_rfl) (e := Extern.AbiNoEscape.same) (by kernel_rfl)]
  rw [Lib.run_noEscape]
  simp only [Result.andThen]
  rw [Oper.upon_value]
  go_wp2
  rw [Lib.run_from_unsafe w ⟨b, 0, none⟩ Tryz.underlying218 Tryz.underlying182 hj hsh liesBuilder]
  simp only [Result.andThen]
  rw [Oper.upon_value]
  go_wp2
  go_end0
  exact ⟨rfl, rfl⟩

theorem copyCheck_any (B b : Nat) (bs : List Value) (w : World) (h : Lib.IsBuilder 184 5 B b bs w) :
    Calls Tryz.prog 177 #[.pointer (some ⟨b, 0, none⟩)] w fun e w' => e = .returned (.tuple #[]) ∧ (Lib.BuilderAt 184 5 B b (.pointer (some ⟨b, 0, none⟩)) bs w' ∧ Below B w w') := by
  rcases h with h | h
  · refine (copyCheck_fresh b w h.cell0 h.shape h.frozen0).mono ?_
    rintro e w' ⟨rfl, rfl⟩
    exact ⟨rfl, h.used _, (Below.refl B w).setCell (p := ⟨b, 0, none⟩) h.1 _⟩
  · refine (copyCheck_used b w h.cell0).mono ?_
    rintro e w' ⟨rfl, rfl⟩
    exact ⟨rfl, h, Below.refl B _⟩

set_option maxHeartbeats 2000000 in
set_option maxRecDepth 100000 in
theorem writeString (B b : Nat) (bs : List Value) (s : ByteArray) (w : World) (h : Lib.IsBuilder 184 5 B b bs w) (hlen : bs.length + s.size ≤ 140737488355328) (hBw : B ≤ w.heap.size) :
    Calls Tryz.prog 153 #[.pointer (some ⟨b, 0, none⟩), .string s] w fun e w' => e = .returned (.tuple #[.int .i64 s.size, .nilIface]) ∧ (Lib.BuilderAt 184 5 B b (.pointer (some ⟨b, 0, none⟩)) (bs ++ Lib.strCells s) w' ∧ Below B w w') := by
  obtain ⟨i0, hi, hz0, hz1, hz2⟩ := info_parts infoByte
  go_enter Tryz.func153, Tryz.ntmps153
  go_wp2_with (go_at_call 177; refine (copyCheck_any B b bs _ h).mono ?_)
  rintro e w1 ⟨rfl, h1, hb1⟩
  obtain ⟨hB, v, hbk, hown, hne⟩ := h1
  have c0 : w1.cell? ⟨b, 0, none⟩ = some (.pointer (some ⟨b, 0, none⟩)) := by rw [Lib.cell_of_heap hbk]; rfl
  have c1 : w1.cell? ⟨b, 1, none⟩ = some v := by rw [Lib.cell_of_heap hbk]; rfl
  go_wp2_with (at_builtin; refine Lib.wpList_append_own_string _ rfl _ _ 97 9 rfl B 5 i0 Tryz.underlying97 Tryz.underlying9 hi hz0 hz1 hz2 _ _ _ rfl hown s rfl ?c3 ?c4 ?c5 ?_)
  case c3 => unfold maxLen; omega
  case c4 => omega
  case c5 => have := hb1.size; omega
  intro v' w2 hown' hgrow _
  have hlt : b < w1.heap.size := by
    rcases Nat.lt_or_ge b w1.heap.size with h' | h'
    · exact h'
    · simp [Array.getElem?_eq_none h'] at hbk
  have hb2 : w2.heap[b]? = some (.cells #[.pointer (some ⟨b, 0, none⟩), v] 184 (0, 0)) := by
    rw [hgrow.block b hlt (fun e => hne e.symm)]
    exact hbk
  have d0 : w2.cell? ⟨b, 0, none⟩ = some (.pointer (some ⟨b, 0, none⟩)) := by rw [Lib.cell_of_heap hb2]; rfl
  have d1 : w2.cell? ⟨b, 1, none⟩ = some v := by rw [Lib.cell_of_heap hb2]; rfl
  have f1 : w2.frozen? ⟨b, 1, none⟩ = false := Lib.frozen_of_heap hb2 1
  obtain ⟨ao, n', cap, rfl⟩ : ∃ ao n' cap, v' = .slice ao n' cap := by
    rcases hown'.2 with ⟨hv, _⟩ | ⟨g, cap, cur, hv, _⟩
    · exact ⟨_, _, _, hv⟩
    · exact ⟨_, _, _, hv⟩
  go_wp2
  go_ret2
  refine ⟨rfl, ?_, ?_⟩
  · exact Lib.BuilderAt.put (T := 184) (e := 5) hB hb2 (bs' := bs ++ Lib.strCells s) (by simpa [Lib.strCells_length] using hown') (by decide)
  · exact (hb1.grown hgrow (by have := hb1.size; omega) (fun k hk => (hown.lt k hk).1)).setCell (p := ⟨b, 1, none⟩) hB _

end Go.Proofs.YtdpmpmaepjgndaaGreat
namespace Go.Proofs.YtdpmpmaepjgndaaGreat
open Go.Shelf Go.RowKit
set_option linter.unusedVariables false

set_option maxHeartbeats 2000000 in
set_option maxRecDepth 1000000 in
theorem growFresh (B b n : Nat) (w : World) (hB : B ≤ b) (hbk : w.heap[b]? = some (.cells #[.pointer (some ⟨b, 0, none⟩), .slice none 0 0] 184 (0, 0))) (hBw : B ≤ w.heap.size) (hn : n ≤ 281474976710656) :
    Calls Tryz.prog 184 #[.pointer (some ⟨b, 0, none⟩), .int .i64 n] w fun e w' => e = .returned (.tuple #[]) ∧ (Lib.BuilderAt 184 5 B b (.pointer (some ⟨b, 0, none⟩)) [] w' ∧ Below B w w') := by
  obtain ⟨cs, hrun, hle, hmax⟩ := Lib.run_makeNoZero (P := Tryz.prog) w.drew #[3] 97 5 Tryz.underlying97 n hn
  have hw : IntKind.i64.wrap (IntKind.i64.wrap 0 + (n : Int)) = n := by
    rw [IntKind.wrap_i64, IntKind.wrap_i64]
    omega
  have hcall : (callFunc 191 #[.int .i64 (IntKind.i64.wrap (IntKind.i64.wrap 0 + (n : Int)))]).run Tryz.prog w.drew = .ok (.value (.slice (some ⟨w.drew.heap.size, 0, none⟩) n cs.size)) (w.drew.drew.drew.alloc (.cells cs 5)) := by
    rw [hw, run_callFunc_extern Tryz.func191 (by kernel_rfl) (by kernel_rfl) (by kernel_rfl) (e := Extern.BytealgMakeNoZero.makeNoZero #[3] #[97]) (by kernel_rfl), hrun]
    rfl
  have c1 : w.drew.cell? ⟨b, 1, none⟩ = some (.slice none 0 0) := by
    have : w.drew.heap[b]? = _ := hbk
    rw [Lib.cell_of_heap this]; rfl
  have hlt : b < w.heap.size := by
    rcases Nat.lt_or_ge b w.heap.size with h' | h'
    · exact h'
    · simp [Array.getElem?_eq_none h'] at hbk
  have c2 : (w.alloc (.cells cs 5)).cell? ⟨b, 1, none⟩ = some (.slice none 0 0) := by
    have : (w.alloc (.cells cs 5)).heap[b]? = _ := (Lib.alloc_old w _ b hlt).trans hbk
    rw [Lib.cell_of_heap this]; rfl
  have f2 : (w.alloc (.cells cs 5)).frozen? ⟨b, 1, none⟩ = false := Lib.frozen_of_heap ((Lib.alloc_old w _ b hlt).trans hbk) 1
  have hcopy : ∀ W : World, (Builtin.copy_ #[97, 97] 3 #[.slice (some ⟨w.heap.size, 0, none⟩) 0 cs.size, .slice none 0 0]).run Tryz.prog W = .ok (goInt 0) W :=
    fun W => run_copy_none W 97 97 3 5 _ _ 0 cs.size 0 0 Tryz.underlying97 (by kernel_rfl) rfl
  clear hw hlt
  go_enter Tryz.func184, Tryz.ntmps184
  go_wp2
  have hfin := Lib.grown_fresh (T := 184) (e := 5) (cs := cs) hB hbk hBw (hmax (by unfold maxLen; omega)) (by decide)
  go_region
  all_goals (go_wp2; go_end0; exact ⟨rfl, hfin⟩)

set_option maxHeartbeats 2000000 in
set_option maxRecDepth 1000000 in
theorem GrowFresh (B b n : Nat) (w : World) (hB : B ≤ b) (hbk : w.heap[b]? = some (.cells #[.pointer none, .slice none 0 0] 184 (0, 0))) (hBw : B ≤ w.heap.size) (hn : n ≤ 281474976710656) :
    Calls Tryz.prog 171 #[.pointer (some ⟨b, 0, none⟩), .int .i64 n] w fun e w' => e = .returned (.tuple #[]) ∧ (Lib.BuilderAt 184 5 B b (.pointer (some ⟨b, 0, none⟩)) [] w' ∧ Below B w w') := by
  have hbk1 : (w.setCell ⟨b, 0, none⟩ (.pointer (some ⟨b, 0, none⟩))).heap[b]? = some (.cells #[.pointer (some ⟨b, 0, none⟩), .slice none 0 0] 184 (0, 0)) := by
    simp [World.setCell, Array.getElem?_modify, hbk]
  have c1 : (w.setCell ⟨b, 0, none⟩ (.pointer (some ⟨b, 0, none⟩))).cell? ⟨b, 1, none⟩ = some (.slice none 0 0) := by rw [Lib.cell_of_heap hbk1]; rfl
  have hb1 : Below B w (w.setCell ⟨b, 0, none⟩ (.pointer (some ⟨b, 0, none⟩))) := (Below.refl B w).setCell (p := ⟨b, 0, none⟩) hB _
  have hU : Lib.BuilderAt 184 5 B b (.pointer (some ⟨b, 0, none⟩)) [] (w.setCell ⟨b, 0, none⟩ (.pointer (some ⟨b, 0, none⟩))) := ⟨hB, .slice none 0 0, hbk1, World.ownsRow_nil _ _ _ _, by simp [Value.ownBlock]⟩
  have c1' : (w.setCell ⟨b, 0, none⟩ (.pointer (some ⟨b, 0, none⟩))).drew.cell? ⟨b, 1, none⟩ = some (.slice none 0 0) := c1
  go_enter Tryz.func171, Tryz.ntmps171
  go_wp2_with (go_at_call 177; refine (copyCheck_fresh b w (by rw [Lib.cell_of_heap hbk]; rfl) (by simp [World.shape?, hbk]) (Lib.frozen_of_heap hbk 0)).mono ?_; rintro e w' ⟨rfl, rfl⟩)
  go_region
  all_goals go_wp2_with (go_at_call 184; refine (growFresh B b n (w.setCell ⟨b, 0, none⟩ (.pointer (some ⟨b, 0, none⟩))).drew hB hbk1 (by simpa [World.setCell, World.drew, -World.drew_eq] using hBw) hn).mono ?_; rintro e w' ⟨rfl, h1, h2⟩)
  all_goals first
    | (go_end0; exact ⟨rfl, h1, hb1.drew.trans h2⟩)
    | (go_end0; exact ⟨rfl, hU.drew, hb1.drew⟩)

end Go.Proofs.YtdpmpmaepjgndaaGreat
