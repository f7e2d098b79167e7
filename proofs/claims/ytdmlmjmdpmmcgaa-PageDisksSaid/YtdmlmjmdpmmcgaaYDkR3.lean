/- The contract of the document's Crash. -/
import Derived.Deep.DeepCutAuto
import Derived.Test.YtdmlmjmdpmmcgaaYZ5
import Derived.Test.YtdmlmjmdpmmcgaaYZ0
import Derived.Test.YtdmlmjmdpmmcgaaYZ3
namespace Go.Proofs.Ytdmlmjmdpmmcgaa
open Go.RowKit Go.Deep Go.Maps
set_option linter.unusedVariables false
set_option linter.unusedSimpArgs false
set_option maxRecDepth 100000

variable {base Q b1 b2 b3 c1 c2 c3 : Nat} {d : Dk} {u : World}
/-- the first j sectors have crashed -/
def crsR (d : Dk) (keep : List Bool) (t b : Int) (j : Nat) : Dk := { d with sf := fun i => if i < j then crashF d keep t b i else d.sf i, is := fun i => if i < j then false else d.is i }
theorem crsR_at (d : Dk) (keep : List Bool) (t b : Int) (j : Nat) : (crsR d keep t b j).is j = d.is j ∧ (crsR d keep t b j).sf j = d.sf j := by
  simp [crsR]
theorem RDk.crs0 (h : RDk base Q b1 b2 b3 c1 c2 c3 d u) (keep : List Bool) (t b : Int) : RDk base Q b1 b2 b3 c1 c2 c3 (crsR d keep t b 0) u := h
theorem RDk.crs_skip {keep : List Bool} {t b : Int} {j : Nat} (h : RDk base Q b1 b2 b3 c1 c2 c3 (crsR d keep t b j) u) (hs : d.is j = false) : RDk base Q b1 b2 b3 c1 c2 c3 (crsR d keep t b (j + 1)) u := by
  refine h.congr rfl rfl rfl rfl (fun i hi => ?_) (fun i hi q hq => ?_) (fun _ _ _ _ _ => rfl)
  · show (if i < j + 1 then false else d.is i) = (if i < j then false else d.is i)
    by_cases e : i = j
    · subst e; simp [hs]
    · by_cases e2 : i < j
      · rw [if_pos e2, if_pos (by omega)]
      · rw [if_neg e2, if_neg (by omega)]
  · show (if i < j + 1 then crashF d keep t b i else d.sf i) q = (if i < j then crashF d keep t b i else d.sf i) q
    by_cases e : i = j
    · subst e; simp [crashF, hs]
    · by_cases e2 : i < j
      · rw [if_pos e2, if_pos (by omega)]
      · rw [if_neg e2, if_neg (by omega)]
theorem RDk.crs_fix {keep : List Bool} {t b : Int} {j k : Nat} (h : RDk base Q b1 b2 b3 c1 c2 c3 (fixD (crsR d keep t b j) j (tornF k (d.nw j) (d.sf j))) u) (hs : d.is j = true) (hk : k = keepN keep t b (looseN d.is j)) : RDk base Q b1 b2 b3 c1 c2 c3 (crsR d keep t b (j + 1)) u := by
  refine h.congr rfl rfl rfl rfl (fun i hi => ?_) (fun i hi q hq => ?_) (fun _ _ _ _ _ => rfl)
  · show (if i < j + 1 then false else d.is i) = upd (fun i => if i < j then false else d.is i) j false i
    unfold upd
    by_cases e : i = j
    · subst e; simp
    · rw [if_neg e]
      by_cases e2 : i < j
      · simp only [if_pos e2, if_pos (show i < j + 1 by omega)]
      · simp only [if_neg e2, if_neg (show ¬ i < j + 1 by omega)]
  · show (if i < j + 1 then crashF d keep t b i else d.sf i) q = upd (fun i => if i < j then crashF d keep t b i else d.sf i) j (tornF k (d.nw j) (d.sf j)) i q
    unfold upd
    by_cases e : i = j
    · subst e
      rw [if_pos (Nat.lt_succ_self _), if_pos rfl]
      unfold crashF
      rw [if_pos hs, hk]
    · rw [if_neg e]
      by_cases e2 : i < j
      · simp only [if_pos e2, if_pos (show i < j + 1 by omega)]
      · simp only [if_neg e2, if_neg (show ¬ i < j + 1 by omega)]
theorem RDk.crs_end {keep : List Bool} {t b : Int} (h : RDk base Q b1 b2 b3 c1 c2 c3 (crsR d keep t b d.n) u) (u2 : World) (hP : ∀ q, q ≠ Q → u2.heap[q]? = u.heap[q]?) (hb : u2.heap[Q]? = some (.cells (rbx b1 b2 b3 c1 c2 c3 (crashD d keep t b)) 53 (0, 0))) : RDk base Q b1 b2 b3 c1 c2 c3 (crashD d keep t b) u2 := by
  have h2 : RDk base Q b1 b2 b3 c1 c2 c3 { crsR d keep t b d.n with arm := 0, down := false } u2 := h.rebox hP hb rfl rfl rfl rfl
  refine h2.congr rfl rfl rfl rfl (fun i hi => ?_) (fun i hi q hq => ?_) (fun i hi hs => ?_)
  · show false = (if i < d.n then false else d.is i)
    rw [if_pos (show i < d.n from hi)]
  · show crashF d keep t b i q = (if i < d.n then crashF d keep t b i else d.sf i) q
    rw [if_pos (show i < d.n from hi)]
  · change (if i < d.n then false else d.is i) = true at hs
    rw [if_pos (show i < d.n from hi)] at hs; cases hs
theorem KpS.below {S : Nat → Bool} {B : Nat} {a b : World} (h : KpS S a b) (hB : B ≤ a.heap.size) (hS : ∀ k, k < B → S k = false) : Below B a b := h.bot hB hS

set_option maxHeartbeats 6400000 in
theorem rcrash_any (h : RDk base Q b1 b2 b3 c1 c2 c3 d u) (hok : OkD d) (hn : d.n ≤ 4096) (hbase : base ≤ u.heap.size) {keep : List Bool} {t b : Int} {v : Value} (hc : CrA base keep t b v u) : Calls Try.prog 25 #[.pointer (some ⟨Q, 0, none⟩), .agg #[v, .int .i64 t, .int .i64 b]] u fun r u' => r = .returned (.tuple #[]) ∧ RDk base Q b1 b2 b3 c1 c2 c3 (crashD d keep t b) u' ∧ KpS (R4 Q b1 b2 b3) u u' := by
  have HOK := Lib.hid hok
  have HBASE := Lib.hid hbase
  have X1 := Lib.hid (heap_alloc_new u (.cells #[v, .int .i64 t, .int .i64 b] 44))
  have B1 := Lib.hid (balloc u (.cells #[v, .int .i64 t, .int .i64 b] 44))
  have R0 := Lib.hid (h.below B1.out)
  have K0 := Lib.hid (KpS.of B1.out : KpS (R4 Q b1 b2 b3) u _)
  have LT := Lib.hid h.lt
  have A0 := Lib.hid (hc.below (B1.out.mono hbase))
  have LC := Lib.hid (show R4 Q b1 b2 b3 u.heap.size = false from R4.no (by have := h.lt; omega) (by have := h.lt; omega) (by have := h.lt; omega) (by have := h.lt; omega))
  obtain ⟨C, hC⟩ : ∃ C, C = u.heap.size := ⟨_, rfl⟩
  rw [← hC] at X1 LC
  have ht := hc.t
  have hbb := hc.b
  obtain ⟨n, hq⟩ : ∃ n, n = d.n := ⟨_, rfl⟩
  rw [← hq] at hn
  have HQ := Lib.hid hq
  clear h hc hok hq hbase
  go_enter Try.func25, Try.ntmps25
  go_upto_region 1 with fail
  rw [← hC]
  have SZ := Lib.hid (show base ≤ (u.alloc (.cells #[v, .int .i64 t, .int .i64 b] 44)).heap.size from Nat.le_trans HBASE.out B1.out.size)
  generalize u.alloc (.cells #[v, .int .i64 t, .int .i64 b] 44) = w1 at *
  clear hC B1
  go_wp2_with fail
  go_loopw [4, 5] (fun c i wr => ∃ j : Nat, j ≤ n ∧ i = .int .i64 j ∧ c = .int .i64 (looseN d.is j : Int) ∧ RDk base Q b1 b2 b3 c1 c2 c3 (crsR d keep t b j) wr ∧ KpS (R4 Q b1 b2 b3) u wr ∧ KpS (R4 Q b1 b2 b3) w1 wr) (fun _ i _ => n - (intOf i).toNat)
  case atStart => exact ⟨0, Nat.zero_le _, rfl, rfl, R0.out.crs0 keep t b, K0.out, KpS.refl _ _⟩
  case round =>
    obtain ⟨j, hj, rfl, rfl, hr, hk, hk1⟩ := hrel
    have RJ := Lib.hid hr
    have KJ := Lib.hid hk
    have K1J := Lib.hid hk1
    obtain ⟨k0, k1, k2, k3, k4, k5, kf⟩ := hr.cells
    change wr.cell? ⟨Q, 0, none⟩ = some (.slice (some ⟨b1, 0, none⟩) d.n c1) at k0
    change wr.cell? ⟨Q, 1, none⟩ = some (.slice (some ⟨b2, 0, none⟩) d.n c2) at k1
    change wr.cell? ⟨Q, 2, none⟩ = some (.slice (some ⟨b3, 0, none⟩) d.n c3) at k2
    rw [← HQ.out] at k0 k1 k2
    have hj0 : (0 : Int) ≤ (j : Int) := by omega
    have hle := looseN_le d.is j
    have AJ : Hid (CrA base keep t b v wr) := Lib.hid (A0.out.below (R0.out.bot K1J.out SZ.out))
    have XJ : Hid (wr.heap[C]? = some (.cells #[v, .int .i64 t, .int .i64 b] 44 (0, 0))) := Lib.hid ((K1J.out.blk (lt_of_block X1.out) LC.out).trans X1.out)
    clear hk hk1 k3 k4 k5 kf
    by_cases hlt : j < n
    · have hj2 : (j : Int) < (n : Int) := by omega
      have hjd : j < d.n := by rw [← HQ.out]; exact hlt
      have d1 : decide ((j : Int) < (n : Int)) = true := by simp [hlt]
      have e3 := hr.r3.cell1 hjd
      unfold gO at e3
      rw [(crsR_at d keep t b j).1] at e3
      have HJ := Lib.hid hlt
      have HJD := Lib.hid hjd
      clear hr hlt hjd
      cases hs : d.is j with
      | false =>
        rw [hs] at e3
        have E : looseN d.is (j + 1) = looseN d.is j := by simp [looseN, hs]
        have F : Hid (RDk base Q b1 b2 b3 c1 c2 c3 (crsR d keep t b (j + 1)) wr) := Lib.hid (RJ.out.crs_skip hs)
        have HE := Lib.hid E
        generalize looseN d.is j = q at *
        clear E hle
        go_wp2_with fail
        go_roundw
        case rel => exact ⟨j + 1, HJ.out, by go_num, by rw [HE.out], F.out, KJ.out, K1J.out⟩
        case measure => have := HJ.out; simp [intOf]; omega
      | true =>
        rw [hs] at e3
        have E : looseN d.is (j + 1) = looseN d.is j + 1 := by simp [looseN, hs]
        have HE := Lib.hid E
        obtain ⟨k, hkk⟩ : ∃ k, k = keepN keep t b (looseN d.is j) := ⟨_, rfl⟩
        have hk64 : k ≤ 64 := by rw [hkk]; exact keepN_le _ _ _ _
        have HKK := Lib.hid hkk
        generalize hqq : looseN d.is j = q at *
        have HQQ := Lib.hid hqq
        clear hqq E hkk
        have x0 : wr.cell? ⟨C, 0, none⟩ = some v := by rw [Lib.cell_of_heap XJ.out]; rfl
        have x1 : wr.cell? ⟨C, 1, none⟩ = some (.int .i64 t) := by rw [Lib.cell_of_heap XJ.out]; rfl
        have x2 : wr.cell? ⟨C, 2, none⟩ = some (.int .i64 b) := by rw [Lib.cell_of_heap XJ.out]; rfl
        obtain ⟨ao, cap, rfl, h1, h2, h3⟩ := AJ.out.k
        have hq0 : (0 : Int) ≤ (q : Int) := by omega
        go_upto_region 7 with fail
        go_cut [53] from 42 to 54 (fun c wx => c = .bool (keep.getD q false) ∧ wx = wr)
        case first =>
          by_cases hl : q < keep.length
          · have d2 : decide ((q : Int) < (keep.length : Int)) = true := by simp [hl]
            have hl2 : (q : Int) < (keep.length : Int) := by omega
            obtain ⟨B, o, rfl, hB, hcc⟩ := h3 (by omega)
            have c := hcc q hl
            clear h3 hcc
            generalize keep.getD q false = kb at *
            generalize keep.length = kn at *
            go_wp2_with fail
            go_meet
            exact ⟨rfl, rfl⟩
          · have d2 : decide ((q : Int) < (keep.length : Int)) = false := by simp; omega
            have E : keep.getD q false = false := by rw [List.getD_eq_getElem?_getD, List.getElem?_eq_none (by omega)]; rfl
            have E := Lib.hid E
            clear h3
            generalize keep.length = kn at *
            go_wp2_with fail
            go_meet
            exact ⟨by rw [E.out], rfl⟩
        case rest =>
        obtain ⟨rfl, hw⟩ := hcut
        rw [hw]
        clear hw
        go_upto_if 53 with fail
        obtain ⟨kv, hkv⟩ : ∃ kv : Int, kv = if keep.getD q false = true then 64 else 0 := ⟨_, rfl⟩
        have HKV := Lib.hid hkv
        clear hkv
        go_cut [6] from 42 to 54 (fun c wx => c = .int .i64 kv ∧ wx = wr)
        case first =>
          cases hkb : keep.getD q false with
          | true =>
            have HKB := Lib.hid hkb
            go_wp2_with fail
            go_meet
            exact ⟨by rw [HKV.out, HKB.out]; rfl, rfl⟩
          | false =>
            have HKB := Lib.hid hkb
            go_wp2_with fail
            go_meet
            exact ⟨by rw [HKV.out, HKB.out]; rfl, rfl⟩
        case rest =>
        obtain ⟨rfl, hw⟩ := hcut
        rw [hw]
        clear hw
        have KE : Hid (k = if (q : Int) = t then (if 0 < b then (b % 65).toNat else 0) else (if keep.getD q false then 64 else 0)) := Lib.hid HKK.out
        go_upto_region 9 with fail
        go_upto_if 57 with fail
        go_cut [6] from 42 to 64 (fun c wx => c = .int .i64 (k : Int) ∧ wx = wr)
        case first =>
          by_cases e : (q : Int) = t
          · have d3 : ((q : Int) == t) = true := by simp [e]
            have E := Lib.hid e
            by_cases hb : 0 < b
            · have d4 : decide (0 < b) = true := by simp [hb]
              have E2 := Lib.hid (show (b % 65 : Int) = (k : Int) by rw [KE.out, if_pos e, if_pos hb]; omega)
              clear e
              go_wp2_with fail
              go_meet
              exact ⟨by rw [E2.out], rfl⟩
            · have d4 : decide (0 < b) = false := by simp; omega
              have E2 := Lib.hid (show (0 : Int) = (k : Int) by rw [KE.out, if_pos e, if_neg hb]; rfl)
              clear e
              go_wp2_with fail
              go_meet
              exact ⟨by rw [← E2.out], rfl⟩
          · have d3 : ((q : Int) == t) = false := by simp [e]
            have E2 := Lib.hid (show kv = (k : Int) by rw [HKV.out, KE.out, if_neg e]; split <;> rfl)
            clear e
            go_wp2_with fail
            go_meet
            exact ⟨by rw [← E2.out], rfl⟩
        case rest =>
        obtain ⟨rfl, hw⟩ := hcut
        rw [hw]
        clear hw x0 x1 x2 h3 h1 h2 e3 k0 k1 k2
        obtain ⟨sF, hsF⟩ : ∃ s, s = sec (d.sf j) := ⟨_, rfl⟩
        obtain ⟨sN, hsN⟩ : ∃ s, s = sec (d.nw j) := ⟨_, rfl⟩
        have zF : sF.size = 64 := by rw [hsF, sec_size]
        have zN : sN.size = 64 := by rw [hsN, sec_size]
        have TS : Hid (sN.extract 0 k ++ sF.extract k 64 = sec (tornF k (d.nw j) (d.sf j))) := Lib.hid (by rw [hsN, hsF]; exact sec_torn (HOK.out.nw j) (HOK.out.sf j) hk64)
        have CL : Hid (∀ w, w = wr.drew → w.cell? ⟨Q, 0, none⟩ = some (.slice (some ⟨b1, 0, none⟩) n c1) ∧ w.cell? ⟨Q, 1, none⟩ = some (.slice (some ⟨b2, 0, none⟩) n c2) ∧ w.cell? ⟨b1, j, none⟩ = some (.string sF) ∧ w.cell? ⟨b2, j, none⟩ = some (.string sN)) := Lib.hid (by
          rintro w rfl
          have R2 := RJ.out.below (bdrew wr)
          obtain ⟨t2, r2, ht2⟩ := R2.r2
          have q1 := R2.r1.cell1 HJD.out
          have q2 := r2.cell1 HJD.out
          unfold gT at q1 q2
          change _ = some (Value.string (sec ((crsR d keep t b j).sf j))) at q1
          rw [(crsR_at d keep t b j).2, ← hsF] at q1
          rw [ht2 j HJD.out (by rw [(crsR_at d keep t b j).1]; exact hs)] at q2
          change _ = some (Value.string (sec (d.nw j))) at q2
          rw [← hsN] at q2
          rw [HQ.out]
          exact ⟨R2.cells.1, R2.cells.2.1, q1, q2⟩)
        clear hsF hsN
        have hj3 : (j : Int) < (n : Int) := by have := HJ.out; omega
        have hk0 : (0 : Int) ≤ (k : Int) ∧ (k : Int) ≤ 64 := by omega
        have zA : (sN.extract 0 k).size = k := by rw [ByteArray.size_extract, zN]; omega
        have zB : (sF.extract k 64).size = 64 - k := by rw [ByteArray.size_extract, zF]; omega
        have zC : ¬ 9223372036854775807 < (sN.extract 0 k).size + (sF.extract k 64).size := by rw [zA, zB]; omega
        go_upto_region 13 with fail
        refine wp_region_x_drew (S := (fun w => w.cell? ⟨Q, 0, none⟩ = some (.slice (some ⟨b1, 0, none⟩) n c1) ∧ w.cell? ⟨Q, 1, none⟩ = some (.slice (some ⟨b2, 0, none⟩) n c2) ∧ w.cell? ⟨b1, j, none⟩ = some (.string sF) ∧ w.cell? ⟨b2, j, none⟩ = some (.string sN))) 25 (by kernel_rfl) (CL.out _ rfl) (fun hHeld => ?_)
        have R2 := Lib.hid (RJ.out.below (bdrew wr))
        have K2 := Lib.hid (KJ.out.on (bdrew wr))
        have K12 := Lib.hid (K1J.out.on (bdrew wr))
        change wpAnyX _ _ _ _ _ _ _ _ _ (World.drew wr)
        clear CL
        generalize World.drew wr = w4 at *
        first
          | refine tx0 0 (oi := ⟨_, _, _, _, _, _⟩) rfl ?_
          | refine tx1 0 (oi := ⟨_, _, _, _, _, _⟩) (v := ?_) rfl ?_ ?_; rotate_left; · (intro w5 hSw; (try dsimp only at hSw); go_simp; (try with_reducible rfl))
        try go_frame
        first
          | refine tx0 1 (oi := ⟨_, _, _, _, _, _⟩) rfl ?_
          | refine tx1 1 (oi := ⟨_, _, _, _, _, _⟩) (v := ?_) rfl ?_ ?_; rotate_left; · (intro w5 hSw; (try dsimp only at hSw); go_simp; (try with_reducible rfl))
        try go_frame
        first
          | refine tx0 2 (oi := ⟨_, _, _, _, _, _⟩) rfl ?_
          | refine tx1 2 (oi := ⟨_, _, _, _, _, _⟩) (v := ?_) rfl ?_ ?_; rotate_left; · (intro w5 hSw; (try dsimp only at hSw); go_simp; (try with_reducible rfl))
        try go_frame
        first
          | refine tx0 3 (oi := ⟨_, _, _, _, _, _⟩) rfl ?_
          | refine tx1 3 (oi := ⟨_, _, _, _, _, _⟩) (v := ?_) rfl ?_ ?_; rotate_left; · (intro w5 hSw; (try dsimp only at hSw); go_simp; (try with_reducible rfl))
        try go_frame
        first
          | refine tx0 4 (oi := ⟨_, _, _, _, _, _⟩) rfl ?_
          | refine tx1 4 (oi := ⟨_, _, _, _, _, _⟩) (v := ?_) rfl ?_ ?_; rotate_left; · (intro w5 hSw; (try dsimp only at hSw); go_simp; (try with_reducible rfl))
        try go_frame
        first
          | refine tx0 5 (oi := ⟨_, _, _, _, _, _⟩) rfl ?_
          | refine tx1 5 (oi := ⟨_, _, _, _, _, _⟩) (v := ?_) rfl ?_ ?_; rotate_left; · (intro w5 hSw; (try dsimp only at hSw); go_simp; (try with_reducible rfl))
        try go_frame
        first
          | refine tx0 6 (oi := ⟨_, _, _, _, _, _⟩) rfl ?_
          | refine tx1 6 (oi := ⟨_, _, _, _, _, _⟩) (v := ?_) rfl ?_ ?_; rotate_left; · (intro w5 hSw; (try dsimp only at hSw); go_simp; (try with_reducible rfl))
        try go_frame
        first
          | refine tx0 7 (oi := ⟨_, _, _, _, _, _⟩) rfl ?_
          | refine tx1 7 (oi := ⟨_, _, _, _, _, _⟩) (v := ?_) rfl ?_ ?_; rotate_left; · (intro w5 hSw; (try dsimp only at hSw); go_simp; (try with_reducible rfl))
        try go_frame
        first
          | refine tx0 8 (oi := ⟨_, _, _, _, _, _⟩) rfl ?_
          | refine tx1 8 (oi := ⟨_, _, _, _, _, _⟩) (v := ?_) rfl ?_ ?_; rotate_left; · (intro w5 hSw; (try dsimp only at hSw); go_simp; (try with_reducible rfl))
        try go_frame
        first
          | refine tx0 9 (oi := ⟨_, _, _, _, _, _⟩) rfl ?_
          | refine tx1 9 (oi := ⟨_, _, _, _, _, _⟩) (v := ?_) rfl ?_ ?_; rotate_left; · (intro w5 hSw; (try dsimp only at hSw); go_simp; (try with_reducible rfl))
        try go_frame
        first
          | refine tx0 10 (oi := ⟨_, _, _, _, _, _⟩) rfl ?_
          | refine tx1 10 (oi := ⟨_, _, _, _, _, _⟩) (v := ?_) rfl ?_ ?_; rotate_left; · (intro w5 hSw; (try dsimp only at hSw); go_simp; (try with_reducible rfl))
        try go_frame
        first
          | refine tx0 11 (oi := ⟨_, _, _, _, _, _⟩) rfl ?_
          | refine tx1 11 (oi := ⟨_, _, _, _, _, _⟩) (v := ?_) rfl ?_ ?_; rotate_left; · (intro w5 hSw; (try dsimp only at hSw); go_simp; (try with_reducible rfl))
        try go_frame
        first
          | refine tx0 12 (oi := ⟨_, _, _, _, _, _⟩) rfl ?_
          | refine tx1 12 (oi := ⟨_, _, _, _, _, _⟩) (v := ?_) rfl ?_ ?_; rotate_left; · (intro w5 hSw; (try dsimp only at hSw); go_simp; (try with_reducible rfl))
        try go_frame
        first
          | refine tx0 13 (oi := ⟨_, _, _, _, _, _⟩) rfl ?_
          | refine tx1 13 (oi := ⟨_, _, _, _, _, _⟩) (v := ?_) rfl ?_ ?_; rotate_left; · (intro w5 hSw; (try dsimp only at hSw); go_simp; (try with_reducible rfl))
        try go_frame
        first
          | refine tx0 14 (oi := ⟨_, _, _, _, _, _⟩) rfl ?_
          | refine tx1 14 (oi := ⟨_, _, _, _, _, _⟩) (v := ?_) rfl ?_ ?_; rotate_left; · (intro w5 hSw; (try dsimp only at hSw); go_simp; (try with_reducible rfl))
        try go_frame
        first
          | refine tx0 15 (oi := ⟨_, _, _, _, _, _⟩) rfl ?_
          | refine tx1 15 (oi := ⟨_, _, _, _, _, _⟩) (v := ?_) rfl ?_ ?_; rotate_left; · (intro w5 hSw; (try dsimp only at hSw); go_simp; (try with_reducible rfl))
        try go_frame
        first
          | refine tx0 16 (oi := ⟨_, _, _, _, _, _⟩) rfl ?_
          | refine tx1 16 (oi := ⟨_, _, _, _, _, _⟩) (v := ?_) rfl ?_ ?_; rotate_left; · (intro w5 hSw; (try dsimp only at hSw); go_simp; (try with_reducible rfl))
        try go_frame
        first
          | refine tx0 17 (oi := ⟨_, _, _, _, _, _⟩) rfl ?_
          | refine tx1 17 (oi := ⟨_, _, _, _, _, _⟩) (v := ?_) rfl ?_ ?_; rotate_left; · (intro w5 hSw; (try dsimp only at hSw); go_simp; (try with_reducible rfl))
        try go_frame
        first
          | refine tx0 18 (oi := ⟨_, _, _, _, _, _⟩) rfl ?_
          | refine tx1 18 (oi := ⟨_, _, _, _, _, _⟩) (v := ?_) rfl ?_ ?_; rotate_left; · (intro w5 hSw; (try dsimp only at hSw); go_simp; (try with_reducible rfl))
        try go_frame
        first
          | refine tx0 19 (oi := ⟨_, _, _, _, _, _⟩) rfl ?_
          | refine tx1 19 (oi := ⟨_, _, _, _, _, _⟩) (v := ?_) rfl ?_ ?_; rotate_left; · (intro w5 hSw; (try dsimp only at hSw); go_simp; (try with_reducible rfl))
        try go_frame
        first
          | refine tx0 20 (oi := ⟨_, _, _, _, _, _⟩) rfl ?_
          | refine tx1 20 (oi := ⟨_, _, _, _, _, _⟩) (v := ?_) rfl ?_ ?_; rotate_left; · (intro w5 hSw; (try dsimp only at hSw); go_simp; (try with_reducible rfl))
        try go_frame
        first
          | refine tx0 21 (oi := ⟨_, _, _, _, _, _⟩) rfl ?_
          | refine tx1 21 (oi := ⟨_, _, _, _, _, _⟩) (v := ?_) rfl ?_ ?_; rotate_left; · (intro w5 hSw; (try dsimp only at hSw); go_simp; (try with_reducible rfl))
        try go_frame
        first
          | refine tx0 22 (oi := ⟨_, _, _, _, _, _⟩) rfl ?_
          | refine tx1 22 (oi := ⟨_, _, _, _, _, _⟩) (v := ?_) rfl ?_ ?_; rotate_left; · (intro w5 hSw; (try dsimp only at hSw); go_simp; (try with_reducible rfl))
        try go_frame
        first
          | refine tx0 23 (oi := ⟨_, _, _, _, _, _⟩) rfl ?_
          | refine tx1 23 (oi := ⟨_, _, _, _, _, _⟩) (v := ?_) rfl ?_ ?_; rotate_left; · (intro w5 hSw; (try dsimp only at hSw); go_simp; (try with_reducible rfl))
        try go_frame
        first
          | refine tx0 24 (oi := ⟨_, _, _, _, _, _⟩) rfl ?_
          | refine tx1 24 (oi := ⟨_, _, _, _, _, _⟩) (v := ?_) rfl ?_ ?_; rotate_left; · (intro w5 hSw; (try dsimp only at hSw); go_simp; (try with_reducible rfl))
        try go_frame
        have f1 := R2.out.r1.frozen j
        have c1x := hHeld.2.2.1
        refine wpAnyX_last (o := ⟨_, _, _, _, _, _⟩) (by kernel_rfl) rfl (fun K hK => ?_) (by kernel_rfl)
        go_simp
        rw [TS.out]
        have W4 := Lib.hid (R2.out.fix HJD.out (tornF k (d.nw j) (d.sf j)))
        have F : Hid (RDk base Q b1 b2 b3 c1 c2 c3 (crsR d keep t b (j + 1)) ((w4.setCell ⟨b1, j, none⟩ (.string (sec (tornF k (d.nw j) (d.sf j))))).setCell ⟨b3, j, none⟩ (.bool false))) := Lib.hid (W4.out.crs_fix hs (by rw [HQQ.out]; exact HKK.out))
        have NE := Lib.hid R2.out.nes
        have k9 : (w4.setCell ⟨b1, j, none⟩ (.string (sec (tornF k (d.nw j) (d.sf j))))).cell? ⟨Q, 2, none⟩ = some (.slice (some ⟨b3, 0, none⟩) n c3) := by
          rw [HQ.out]
          exact (World.cell?_of_block (set_else _ NE.out.1)).trans R2.out.cells.2.2.1
        have q3 : (w4.setCell ⟨b1, j, none⟩ (.string (sec (tornF k (d.nw j) (d.sf j))))).cell? ⟨b3, j, none⟩ = some (gO (crsR d keep t b j).is j 0) := (World.cell?_of_block (set_else _ NE.out.2.2.2.2.1.symm)).trans (R2.out.r3.cell1 HJD.out)
        have f3 : (w4.setCell ⟨b1, j, none⟩ (.string (sec (tornF k (d.nw j) (d.sf j))))).frozen? ⟨b3, j, none⟩ = false := (R2.out.r3.kept (set_else _ NE.out.2.2.2.2.1.symm)).frozen j
        have K4 := Lib.hid ((K2.out.trans (KpS.set (R4.b Q b1 b2 b3) j (.string (sec (tornF k (d.nw j) (d.sf j)))) w4)).trans (KpS.set (R4.d Q b1 b2 b3) j (.bool false) _))
        have K14 := Lib.hid ((K12.out.trans (KpS.set (R4.b Q b1 b2 b3) j (.string (sec (tornF k (d.nw j) (d.sf j)))) w4)).trans (KpS.set (R4.d Q b1 b2 b3) j (.bool false) _))
        refine hK.out _ _ ?_
        clear hK K hHeld c1x f1 zA zB zC zF zN TS
        try go_frame
        generalize w4.setCell ⟨b1, j, none⟩ (.string (sec (tornF k (d.nw j) (d.sf j)))) = w5 at *
        go_wp2_with fail
        go_roundw
        case rel => exact ⟨j + 1, HJ.out, by go_num, by rw [HE.out]; go_num, F.out, K4.out, K14.out⟩
        case measure => have := HJ.out; simp [intOf]; omega
    · obtain rfl : j = n := by omega
      have d1 : decide ((j : Int) < (j : Int)) = false := by simp
      have HB6 := Lib.hid RJ.out.box
      obtain ⟨k0, k1, k2, k3, k4, k5, kf⟩ := RJ.out.cells
      change wr.cell? ⟨Q, 0, none⟩ = some (.slice (some ⟨b1, 0, none⟩) d.n c1) at k0
      change wr.cell? ⟨Q, 1, none⟩ = some (.slice (some ⟨b2, 0, none⟩) d.n c2) at k1
      change wr.cell? ⟨Q, 2, none⟩ = some (.slice (some ⟨b3, 0, none⟩) d.n c3) at k2
      rw [← HQ.out] at k0 k1 k2
      have f3 := kf 3
      have f5 := kf 5
      have BX := Lib.hid (show ((wr.setCell ⟨Q, 5, none⟩ (.bool false)).setCell ⟨Q, 3, none⟩ (.int .i64 0)).heap[Q]? = some (.cells (rbx b1 b2 b3 c1 c2 c3 (crashD d keep t b)) 53 (0, 0)) from Joins.block_setCell (i := 3) (Joins.block_setCell (i := 5) HB6.out _) _)
      have F9 : Hid (RDk base Q b1 b2 b3 c1 c2 c3 (crashD d keep t b) ((wr.setCell ⟨Q, 5, none⟩ (.bool false)).setCell ⟨Q, 3, none⟩ (.int .i64 0))) := Lib.hid (RDk.crs_end (by rw [← HQ.out]; exact RJ.out) _ (fun q hq => (set_else _ hq).trans (set_else _ hq)) BX.out)
      have K9 := Lib.hid ((KJ.out.trans (KpS.set (R4.a Q b1 b2 b3) 5 (.bool false) wr)).trans (KpS.set (R4.a Q b1 b2 b3) 3 (.int .i64 0) _))
      clear hr kf
      go_wp2_with fail
      exact bodyPost_end (v := .tuple #[]) (by simp [results, Try.results25, go_sem]) rfl ⟨rfl, F9.out, K9.out⟩

end Go.Proofs.Ytdmlmjmdpmmcgaa
