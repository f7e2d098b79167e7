/- The program's newer: which of a disk's two roots counts. The program's Open, of whatever disk. -/
import Derived.Test.YtdpmpmaepjgndaaGreatYZ31
import Derived.Test.YtdpmpmaepjgndaaGreatYZ41
import Derived.Test.YtdpmpmaepjgndaaGreatYZ37
import Derived.Test.YtdpmpmaepjgndaaGreatYZ40
import Derived.Test.YtdpmpmaepjgndaaGreatYZ34
namespace Go.Proofs.YtdpmpmaepjgndaaGreat
open Go.RowKit Go.Deep
set_option linter.unusedVariables false
set_option linter.unusedSimpArgs false
set_option maxRecDepth 100000

section
variable {base D bS bm cS : Nat} {d : Dk} {u : World}
def NwO (d : Dk) (r : Ending) (u u' : World) : Prop := Below u.heap.size u u' ∧
  ((d.n < 2 ∧ r = .returned (.tuple #[rtV 0 0 (.slice none 0 0), .int .i64 0, .int .i64 3])) ∨
   (2 ≤ d.n ∧ ∃ x v slot, LaterR (sec (nowD d 0)) (sec (nowD d 1)) x slot ∧ r = .returned (.tuple #[rtV x.ep x.lg v, .int .i64 slot, .int .i64 0]) ∧ LstI x.parts v u' ∧ ∀ g, v.ownBlock = some g → u.heap.size ≤ g ∧ g < u'.heap.size) ∨
   (2 ≤ d.n ∧ (∀ x, ¬ SaysR (sec (nowD d 0)) x) ∧ (∀ x, ¬ SaysR (sec (nowD d 1)) x) ∧ r = .returned (.tuple #[rtV 0 0 (.slice none 0 0), .int .i64 0, .int .i64 14])))
def txtV (t : Nat → ByteArray) (j : Nat) : List Value := (List.range 2).map fun i => .string (if i < j then t i else ⟨#[]⟩)
theorem txtV_set (t : Nat → ByteArray) {j : Nat} (h : j < 2) : (txtV t j).toArray.setIfInBounds j (.string (t j)) = (txtV t (j + 1)).toArray := by
  rcases (by omega : j = 0 ∨ j = 1) with rfl | rfl <;> rfl
theorem put_three {w : World} {C : Nat} {a0 b0 c0 : Value} {t : TypeId} (h : w.heap[C]? = some (.cells #[a0, b0, c0] t (0, 0))) (a b c : Value) : (((w.setCell ⟨C, 0, none⟩ a).setCell ⟨C, 1, none⟩ b).setCell ⟨C, 2, none⟩ c).heap[C]? = some (.cells #[a, b, c] t (0, 0)) :=
  Joins.block_setCell (i := 2) (Joins.block_setCell (i := 1) (Joins.block_setCell (i := 0) h a) b) c
theorem below_three {w : World} {B C : Nat} (hB : B ≤ C) (a b c : Value) : Below B w (((w.setCell ⟨C, 0, none⟩ a).setCell ⟨C, 1, none⟩ b).setCell ⟨C, 2, none⟩ c) :=
  (((Below.refl _ _).setCell (p := ⟨C, 0, none⟩) hB a).setCell (p := ⟨C, 1, none⟩) hB b).setCell (p := ⟨C, 2, none⟩) hB c
set_option maxHeartbeats 1600000 in
theorem newer_any (h : PDk base D bS bm cS d u) (hd : d.down = false) (h1 : 1 ≤ d.n) (hn : d.n ≤ 4096) : Calls Tryz.prog 61 #[.pointer (some ⟨D, 0, none⟩)] u fun r u' => NwO d r u u' := by
  have HR : Hid (∀ (w : World) (i : Nat), PDk base D bS bm cS d w → i < d.n → Calls Tryz.prog 54 #[.pointer (some ⟨D, 0, none⟩), .int .i64 (i : Int)] w fun r u' => r = .returned (.tuple #[.string (sec (nowD d i)), .int .i64 0]) ∧ u' = w) := Lib.hid (fun w i hw hi => by
    have := pread_any hw hn (i : Int)
    have e1 : readE d (i : Int) = 0 := by unfold readE; rw [hd, if_neg (by decide), if_neg (by omega)]
    have e2 : readS d (i : Int) = sec (nowD d i) := by
      unfold readS
      rw [hd, if_neg (by decide), if_neg (by omega), Int.toNat_natCast]
    rw [e1, e2] at this
    exact this)
  have HR3 : Hid (∀ (w : World), PDk base D bS bm cS d w → d.n < 2 → Calls Tryz.prog 54 #[.pointer (some ⟨D, 0, none⟩), .int .i64 1] w fun r u' => r = .returned (.tuple #[.string ⟨#[]⟩, .int .i64 3]) ∧ u' = w) := Lib.hid (fun w hw h2 => by
    have := pread_any hw hn 1
    have e1 : readE d 1 = 3 := by unfold readE; rw [hd, if_neg (by decide), if_pos (by omega)]
    have e2 : readS d 1 = ⟨#[]⟩ := by
      unfold readS
      rw [hd, if_neg (by decide), if_pos (by omega)]
      rfl
    rw [e1, e2] at this
    exact this)
  have HN := Lib.hid (fun w => pnewerZ_any (sec (nowD d 0)) (sec (nowD d 1)) w (by rw [sec_size]; omega) (by rw [sec_size]; omega))
  have H := Lib.hid h
  have H1 := Lib.hid h1
  have X1 := heap_alloc_new u (.cells #[.int .i64 0, .int .i64 0, .slice none 0 0] 100)
  have B1 := balloc u (.cells #[.int .i64 0, .int .i64 0, .slice none 0 0] 100)
  have X2 := heap_alloc_new (u.alloc (.cells #[.int .i64 0, .int .i64 0, .slice none 0 0] 100)) (.cells #[.string ⟨#[]⟩, .string ⟨#[]⟩] 132)
  have B2 := balloc (u.alloc (.cells #[.int .i64 0, .int .i64 0, .slice none 0 0] 100)) (.cells #[.string ⟨#[]⟩, .string ⟨#[]⟩] 132)
  have B3 := Lib.hid (bthen B1 B2)
  have Y1 := heap_stays X1 B2
  rw [World.size_alloc] at X2
  obtain ⟨C, hC⟩ : ∃ C, C = u.heap.size := ⟨_, rfl⟩
  obtain ⟨T, hT⟩ : ∃ T, T = u.heap.size + 1 := ⟨_, rfl⟩
  have HC : Hid (u.heap.size ≤ C) := Lib.hid (by omega)
  have HT : Hid (u.heap.size ≤ T) := Lib.hid (by omega)
  have CT : Hid (C ≠ T) := Lib.hid (by omega)
  rw [← hC] at Y1
  rw [← hT] at X2
  have Y2 := Lib.hid Y1
  have T2 : Hid (((u.alloc (.cells #[.int .i64 0, .int .i64 0, .slice none 0 0] 100)).alloc (.cells #[.string ⟨#[]⟩, .string ⟨#[]⟩] 132)).heap[T]? = some (.cells (txtV (fun i => sec (nowD d i)) 0).toArray 132 (0, 0))) := Lib.hid X2
  clear h X1 X2 B1 B2 Y1 h1
  go_enter Tryz.func61, Tryz.ntmps61
  go_upto_region 2 with fail
  rw [← hT, ← hC]
  generalize (u.alloc (.cells #[.int .i64 0, .int .i64 0, .slice none 0 0] 100)).alloc (.cells #[.string ⟨#[]⟩, .string ⟨#[]⟩] 132) = w2 at *
  clear hC hT
  go_wp2_with fail
  go_loopw [12] (fun i wr => ∃ j : Nat, j ≤ 2 ∧ i = .int .i64 j ∧ Hid (j ≤ d.n) ∧ Hid (wr.heap[T]? = some (.cells (txtV (fun i => sec (nowD d i)) j).toArray 132 (0, 0))) ∧ Hid (wr.heap[C]? = some (.cells #[.int .i64 0, .int .i64 0, .slice none 0 0] 100 (0, 0))) ∧ Hid (Below u.heap.size u wr)) (fun i _ => 2 - (intOf i).toNat)
  case atStart => exact ⟨0, Nat.zero_le _, rfl, Lib.hid (Nat.zero_le _), T2, Y2, B3⟩
  case round =>
    obtain ⟨j, hj, rfl, HJN, HT2, HY, HB⟩ := hrel
    by_cases hlt : j < 2
    · have d1 : decide ((j : Int) < 2) = true := by rw [decide_eq_true_eq]; omega
      have g0 : (0 : Int) ≤ (j : Int) := by omega
      have g1 : (j : Int) < 2 := by omega
      have HLT := Lib.hid hlt
      by_cases hin : j < d.n
      · have HRJ := Lib.hid (HR.out wr j (H.out.below HB.out) hin)
        have hc : wr.cell? ⟨T, j, none⟩ = some (.string ⟨#[]⟩) := by
          rw [Lib.cell_of_heap HT2.out]
          rcases (by omega : j = 0 ∨ j = 1) with rfl | rfl <;> rfl
        have hf : wr.frozen? ⟨T, j, none⟩ = false := Lib.frozen_of_heap HT2.out j
        have F1 : Hid ((wr.setCell ⟨T, j, none⟩ (.string (sec (nowD d j)))).heap[T]? = some (.cells (txtV (fun i => sec (nowD d i)) (j + 1)).toArray 132 (0, 0))) := Lib.hid (by
          rw [← txtV_set _ hlt]
          exact Joins.block_setCell (i := j) HT2.out _)
        have F2 := Lib.hid ((set_else (P := T) (o := j) (w := wr) (.string (sec (nowD d j))) CT.out).trans HY.out)
        have F3 := Lib.hid (HB.out.trans ((Below.refl _ _).setCell (p := ⟨T, j, none⟩) HT.out (.string (sec (nowD d j)))))
        have HIN := Lib.hid hin
        clear hlt hin
        generalize sec (nowD d j) = sj at *
        go_wp2_with fail
        refine (HRJ.out).mono ?_
        rintro e w9 ⟨rfl, hw⟩
        rw [hw]
        clear hw w9
        go_wp2_with fail
        go_roundw
        case rel => have := HLT.out; exact ⟨j + 1, by omega, by go_num, HIN, F1, F2, F3⟩
        case measure => have := HLT.out; simp [intOf]; omega
      · have hj1 : j = 1 := by have := H1.out; omega
        subst hj1
        have hn2 : d.n < 2 := by omega
        have HRJ := Lib.hid (HR3.out wr (H.out.below HB.out) hn2)
        have HN2 := Lib.hid hn2
        obtain ⟨r0, r1, r2⟩ := three_of HY.out
        have rf : ∀ q, wr.frozen? ⟨C, q, none⟩ = false := fun q => Lib.frozen_of_heap HY.out q
        clear hlt hin hn2
        go_wp2_with fail
        refine (HRJ.out).mono ?_
        rintro e w9 ⟨rfl, hw⟩
        rw [hw]
        clear hw w9
        go_wp2_with fail
        have LZ := Lib.hid (HB.out.trans (below_three HC.out (.int .i64 0) (.int .i64 0) (.slice none 0 0)))
        obtain ⟨t0, t1, t2⟩ := three_of (put_three HY.out (.int .i64 0) (.int .i64 0) (.slice none 0 0))
        clear r0 r1 r2 rf
        generalize ((wr.setCell ⟨C, 0, none⟩ (.int .i64 0)).setCell ⟨C, 1, none⟩ (.int .i64 0)).setCell ⟨C, 2, none⟩ (.slice none 0 0) = w9 at *
        exact bodyPost_ret (v := .tuple #[.agg #[.int .i64 0, .int .i64 0, .slice none 0 0], .int .i64 0, .int .i64 3]) (by simp [results, Tryz.results61, go_sem, t0, t1, t2]) rfl ⟨LZ.out, .inl ⟨HN2.out, rfl⟩⟩
    · have ej : j = 2 := by omega
      have d1 : decide ((j : Int) < 2) = false := by rw [decide_eq_false_iff_not]; omega
      subst ej
      have t0 : wr.cell? ⟨T, 0, none⟩ = some (.string (sec (nowD d 0))) := by rw [Lib.cell_of_heap HT2.out]; rfl
      have t1 : wr.cell? ⟨T, 1, none⟩ = some (.string (sec (nowD d 1))) := by rw [Lib.cell_of_heap HT2.out]; rfl
      have tf : ∀ q, wr.frozen? ⟨T, q, none⟩ = false := fun q => Lib.frozen_of_heap HT2.out q
      have HNW := Lib.hid (HN.out wr)
      have HDN : Hid (2 ≤ d.n) := Lib.hid HJN.out
      generalize hs0 : sec (nowD d 0) = s0 at *
      generalize hs1 : sec (nowD d 1) = s1 at *
      have HS0 := Lib.hid hs0
      have HS1 := Lib.hid hs1
      clear hlt hj HN HR HR3 hs0 hs1
      go_wp2_with fail
      refine (HNW.out).mono ?_
      rintro r w3 ⟨hb3, hcase⟩
      have B3' := Lib.hid (HB.out.trans (hb3.mono HB.out.size))
      have Y3 := Lib.hid (heap_stays HY.out hb3)
      have HS3 := Lib.hid (Nat.le_trans HB.out.size hb3.size)
      clear hb3 HNW t0 t1 tf
      rcases hcase with ⟨x, v, slot, hL, rfl, hl, hlo⟩ | ⟨hn0, hn1, rfl⟩
      · have HL := Lib.hid hL
        have HLI := Lib.hid hl
        have HLO := Lib.hid (fun g hg => (⟨Nat.le_trans HB.out.size (hlo g hg).1, (hlo g hg).2⟩ : u.heap.size ≤ g ∧ g < w3.heap.size))
        have hlc : ∀ g, v.ownBlock = some g → g ≠ C := fun g hg e => by
          have := (hlo g hg).1
          have := lt_of_block HY.out
          omega
        have HLC := Lib.hid hlc
        have BA := Lib.hid (balloc w3 (.cells #[.int .i64 x.ep, .int .i64 x.lg, v] 100))
        have XA := Lib.hid (heap_alloc_new w3 (.cells #[.int .i64 x.ep, .int .i64 x.lg, v] 100))
        have Y4 := Lib.hid (heap_stays Y3.out BA.out)
        have L4 := Lib.hid (HLI.out.below BA.out)
        have B4 := Lib.hid (B3'.out.trans (BA.out.mono HS3.out))
        have S4 := Lib.hid (Nat.le_trans (Nat.le_refl w3.heap.size) BA.out.size)
        have LZ := Lib.hid (B4.out.trans (below_three HC.out (.int .i64 x.ep) (.int .i64 x.lg) v))
        have L9 : Hid (LstI x.parts v (((((w3.alloc (.cells #[.int .i64 x.ep, .int .i64 x.lg, v] 100)).setCell ⟨C, 0, none⟩ (.int .i64 x.ep)).setCell ⟨C, 1, none⟩ (.int .i64 x.lg)).setCell ⟨C, 2, none⟩ v))) := Lib.hid (by
          refine L4.out.kps (S := fun q => q == C) (fun g hg => by simpa using HLC.out g hg) ?_
          exact ((KpS.set (b := C) (by simp) 0 _ _).trans (KpS.set (b := C) (by simp) 1 _ _)).trans (KpS.set (b := C) (by simp) 2 _ _))
        have S9 : Hid ((w3.alloc (.cells #[.int .i64 x.ep, .int .i64 x.lg, v] 100)).heap.size ≤ ((((w3.alloc (.cells #[.int .i64 x.ep, .int .i64 x.lg, v] 100)).setCell ⟨C, 0, none⟩ (.int .i64 x.ep)).setCell ⟨C, 1, none⟩ (.int .i64 x.lg)).setCell ⟨C, 2, none⟩ v).heap.size) := Lib.hid (below_three (w := w3.alloc (.cells #[.int .i64 x.ep, .int .i64 x.lg, v] 100)) (Nat.zero_le C) _ _ _).size
        clear hL hl hlo hlc
        unfold rtV
        obtain ⟨xv, xc, hvv⟩ : ∃ ao c, v = .slice ao x.parts.length c := by
          obtain ⟨a, c, e, _⟩ := HLI.out
          exact ⟨a, c, e⟩
        subst hvv
        go_upto_region 11 with fail
        generalize w3.alloc (.cells #[.int .i64 x.ep, .int .i64 x.lg, .slice xv x.parts.length xc] 100) = w4 at *
        generalize w3.heap.size = RB at *
        obtain ⟨a0, a1, a2⟩ := three_of XA.out
        obtain ⟨r0, r1, r2⟩ := three_of Y4.out
        have rf : ∀ q, w4.frozen? ⟨C, q, none⟩ = false := fun q => Lib.frozen_of_heap Y4.out q
        obtain ⟨t0, t1, t2⟩ := three_of (put_three Y4.out (.int .i64 x.ep) (.int .i64 x.lg) (.slice xv x.parts.length xc))
        have FIN : Hid (NwO d (.returned (.tuple #[.agg #[.int .i64 x.ep, .int .i64 x.lg, .slice xv x.parts.length xc], .int .i64 slot, .int .i64 0])) u ((((w4.setCell ⟨C, 0, none⟩ (.int .i64 x.ep)).setCell ⟨C, 1, none⟩ (.int .i64 x.lg)).setCell ⟨C, 2, none⟩ (.slice xv x.parts.length xc)))) := Lib.hid
          ⟨LZ.out, .inr (.inl ⟨HDN.out, x, _, slot, by rw [HS0.out, HS1.out]; exact HL.out, rfl, L9.out, fun g hg => ⟨(HLO.out g hg).1, Nat.lt_of_lt_of_le (HLO.out g hg).2 (Nat.le_trans S4.out S9.out)⟩⟩)⟩
        go_wp2_with fail
        generalize ((w4.setCell ⟨C, 0, none⟩ (.int .i64 x.ep)).setCell ⟨C, 1, none⟩ (.int .i64 x.lg)).setCell ⟨C, 2, none⟩ (.slice xv x.parts.length xc) = w9 at *
        exact bodyPost_ret (v := .tuple #[.agg #[.int .i64 x.ep, .int .i64 x.lg, .slice xv x.parts.length xc], .int .i64 slot, .int .i64 0]) (by simp [results, Tryz.results61, go_sem, t0, t1, t2]) rfl FIN.out
      · have HN0 := Lib.hid hn0
        have HN1 := Lib.hid hn1
        have BA := Lib.hid (balloc w3 (.cells #[.int .i64 0, .int .i64 0, .slice none 0 0] 100))
        have Y4 := Lib.hid (heap_stays Y3.out BA.out)
        have B4 := Lib.hid (B3'.out.trans (BA.out.mono HS3.out))
        have LZ := Lib.hid (B4.out.trans (below_three HC.out (.int .i64 0) (.int .i64 0) (.slice none 0 0)))
        clear hn0 hn1
        unfold rtV
        go_upto_region 11 with fail
        generalize w3.alloc (.cells #[.int .i64 0, .int .i64 0, .slice none 0 0] 100) = w4 at *
        generalize w3.heap.size = RB at *
        obtain ⟨r0, r1, r2⟩ := three_of Y4.out
        have rf : ∀ q, w4.frozen? ⟨C, q, none⟩ = false := fun q => Lib.frozen_of_heap Y4.out q
        obtain ⟨t0, t1, t2⟩ := three_of (put_three Y4.out (.int .i64 0) (.int .i64 0) (.slice none 0 0))
        have FIN : Hid (NwO d (.returned (.tuple #[.agg #[.int .i64 0, .int .i64 0, .slice none 0 0], .int .i64 0, .int .i64 14])) u ((((w4.setCell ⟨C, 0, none⟩ (.int .i64 0)).setCell ⟨C, 1, none⟩ (.int .i64 0)).setCell ⟨C, 2, none⟩ (.slice none 0 0)))) := Lib.hid
          ⟨LZ.out, .inr (.inr ⟨HDN.out, by rw [HS0.out]; exact HN0.out, by rw [HS1.out]; exact HN1.out, rfl⟩)⟩
        go_wp2_with fail
        generalize ((w4.setCell ⟨C, 0, none⟩ (.int .i64 0)).setCell ⟨C, 1, none⟩ (.int .i64 0)).setCell ⟨C, 2, none⟩ (.slice none 0 0) = w9 at *
        exact bodyPost_ret (v := .tuple #[.agg #[.int .i64 0, .int .i64 0, .slice none 0 0], .int .i64 0, .int .i64 14]) (by simp [results, Tryz.results61, go_sem, t0, t1, t2]) rfl FIN.out
end

end Go.Proofs.YtdpmpmaepjgndaaGreat
namespace Go.Proofs.YtdpmpmaepjgndaaGreat
open Go.RowKit Go.Deep
set_option linter.unusedVariables false
set_option linter.unusedSimpArgs false
set_option maxRecDepth 100000

/-- the table that a root tells -/
def tabR (d : Dk) (x : Rt) : List Int := tabF d x.lg x.parts x.parts.length
def allU (d : Dk) (x : Rt) : List Int := x.parts ++ (listT (atL (tabR d x)) 512).map (atL (tabR d x))
section
variable {base D bS bm cS n : Nat} {d : Dk} {u : World}
def OpnO (base D bS bm cS : Nat) (d : Dk) (n : Nat) (r : Ending) (u u' : World) : Prop :=
  Below u.heap.size u u' ∧
  ((d.n < 2 ∧ r = .returned (.tuple #[.pointer none, .int .i64 3])) ∨
   (2 ≤ d.n ∧ (∀ x, ¬ SaysR (sec (nowD d 0)) x) ∧ (∀ x, ¬ SaysR (sec (nowD d 1)) x) ∧ r = .returned (.tuple #[.pointer none, .int .i64 14])) ∨
   (2 ≤ d.n ∧ ∃ x slot, LaterR (sec (nowD d 0)) (sec (nowD d 1)) x slot ∧ ¬ LoadOk d n x.ep x.lg x.parts ∧ r = .returned (.tuple #[.pointer none, .int .i64 14])) ∨
   (2 ≤ d.n ∧ ∃ x slot, LaterR (sec (nowD d 0)) (sec (nowD d 1)) x ((slot : Nat) : Int) ∧ LoadOk d n x.ep x.lg x.parts ∧ ∃ P M SK vp, r = .returned (.tuple #[.pointer (some ⟨P, 0, none⟩), .int .i64 0]) ∧
     StoM base D P M bS bm cS d n (usedK (allU d x)) x.ep slot (atL (tabR d x)) (tabR d x) x.parts vp SK u' ∧ ∀ k, stoS P D bS bm SK vp k = true → P3 D bS bm k = true ∨ u.heap.size ≤ k))
theorem LaterR.right {a b : ByteArray} {x : Rt} {s : Int} (h : LaterR a b x s) : RightR x ∧ (s = 0 ∨ s = 1) := by
  rcases h with ⟨e, h, _⟩ | ⟨e, h, _⟩
  · exact ⟨h.right, .inl e⟩
  · exact ⟨h.right, .inr e⟩
set_option maxHeartbeats 3200000 in
theorem sopen_any (h : PDk base D bS bm cS d u) (hd : d.down = false) (h1 : 1 ≤ d.n) (hdn : d.n ≤ 4096) (hn : n ≤ 1024) (hm : (n : Int) = manyP (d.n : Int)) (hb : base ≤ u.heap.size) : Calls Tryz.prog 25 #[.pointer (some ⟨D, 0, none⟩)] u fun r u' => OpnO base D bS bm cS d n r u u' := by
  have HN := Lib.hid (newer_any h hd h1 hdn)
  have HO := Lib.hid (fun (w : World) (ep : Int) (q : PDk base D bS bm cS d w) (hbw : base ≤ w.heap.size) => over_sto q hbw hdn hm ep)
  have H := Lib.hid h
  have LP := Lib.hid (pdk_lo h)
  have HLD := Lib.hid (fun (w : World) (P M : Nat) (SK : Nat → Bool) (x : Rt) (v : Value) (q : StoM base D P M bS bm cS d n (usedK []) x.ep 0 (atL []) [] [] (.slice none 0 0) SK w) (hp : LstI x.parts v w) (hr : RightR ⟨x.ep, x.lg, x.parts⟩) hv => sload_any (parts := x.parts) (lg := x.lg) (v := v) q hd hdn hn hp hr hv)
  have HB := Lib.hid hb
  clear h h1 hm hb
  go_enter Tryz.func25, Tryz.ntmps25
  go_wp2_with fail
  refine (HN.out).mono ?_
  rintro r w1 ⟨hb1, hcase⟩
  have B1 := Lib.hid hb1
  have P1 := Lib.hid (H.out.below hb1)
  clear hb1 HN
  rcases hcase with ⟨hn2, rfl⟩ | ⟨hn2, x, v, slot, hL, rfl, hl, hlo⟩ | ⟨hn2, hs0, hs1, rfl⟩
  · have HN2 := Lib.hid hn2
    have BA := Lib.hid (B1.out.trans ((balloc w1 (.cells #[.int .i64 0, .int .i64 0, .slice none 0 0] 100)).mono B1.out.size))
    clear hn2 HLD HO
    unfold rtV
    go_upto_region 4 with fail
    generalize w1.alloc (.cells #[.int .i64 0, .int .i64 0, .slice none 0 0] 100) = w2 at *
    generalize w1.heap.size = B at *
    go_wp2_with fail
    go_ret2
    exact ⟨BA.out, .inl ⟨HN2.out, rfl⟩⟩
  · have HN2 := Lib.hid hn2
    have HL := Lib.hid hL
    have HLI := Lib.hid hl
    have HLO := Lib.hid hlo
    have HRT := Lib.hid hL.right.1
    obtain ⟨sl, hsl⟩ : ∃ sl : Nat, slot = (sl : Int) ∧ (sl = 0 ∨ sl = 1) := by
      rcases hL.right.2 with e | e
      · exact ⟨0, by omega, .inl rfl⟩
      · exact ⟨1, by omega, .inr rfl⟩
    obtain ⟨rfl, hsl2⟩ := hsl
    obtain ⟨ao, cap, rfl, hc1, hc2, _⟩ := hl
    have X2 := Lib.hid (heap_alloc_new w1 (.cells #[.int .i64 x.ep, .int .i64 x.lg, .slice ao x.parts.length cap] 100))
    have BA1 := Lib.hid (balloc w1 (.cells #[.int .i64 x.ep, .int .i64 x.lg, .slice ao x.parts.length cap] 100))
    have BA := Lib.hid (B1.out.trans (BA1.out.mono B1.out.size))
    have P2 := Lib.hid (P1.out.below BA1.out)
    have L2 := Lib.hid (HLI.out.below BA1.out)
    have S12 := Lib.hid BA1.out.size
    have SZ12 : Hid ((w1.alloc (.cells #[.int .i64 x.ep, .int .i64 x.lg, .slice ao x.parts.length cap] 100)).heap.size = w1.heap.size + 1) := Lib.hid (by simp)
    clear hn2 hL hlo BA1
    unfold rtV
    go_upto_region 4 with fail
    generalize w1.alloc (.cells #[.int .i64 x.ep, .int .i64 x.lg, .slice ao x.parts.length cap] 100) = w2 at *
    obtain ⟨B, hBe⟩ : ∃ B, B = w1.heap.size := ⟨_, rfl⟩
    rw [← hBe] at X2 ⊢
    have HBE := Lib.hid hBe
    clear hBe
    obtain ⟨r0, r1, r2⟩ := three_of X2.out
    have HOV := Lib.hid (HO.out w2 x.ep P2.out (Nat.le_trans HB.out BA.out.size))
    go_wp2_with fail
    refine (HOV.out).mono ?_
    rintro r w3 ⟨P, M, SK, rfl, hm3, hP3, hSK3, hb3⟩
    have M3 := Lib.hid hm3
    have X3 := Lib.hid (heap_stays X2.out hb3)
    have B3 := Lib.hid (BA.out.trans (hb3.mono BA.out.size))
    have L3 := Lib.hid (L2.out.below hb3)
    have HP3 := Lib.hid hP3
    have HSK3 := Lib.hid hSK3
    have S23 := Lib.hid hb3.size
    have e1 : (fun _ => 0 : Nat → Nat) = usedK [] := usedK_nil.symm
    have e2 : (fun _ => -1 : Nat → Int) = atL [] := by funext l; unfold atL; simp
    rw [e1, e2] at M3
    have hlow : ∀ g, P3 D bS bm g = false → g < w2.heap.size → stoS P D bS bm SK (.slice none 0 0) g = false := fun g hg hlt => by
      cases c : stoS P D bS bm SK (.slice none 0 0) g with
      | false => rfl
      | true =>
        rcases stoS_iff.1 c with e | e | e | e
        · have := HP3.out; omega
        · rw [hg] at e; cases e
        · have := HSK3.out g e; omega
        · cases e
    have hnew : ∀ g, w1.heap.size ≤ g ∨ u.heap.size ≤ g → P3 D bS bm g = false := fun g hg => by
      cases c : P3 D bS bm g with
      | false => rfl
      | true => have := (LP.out g c).2; have := B1.out.size; omega
    have HVN : Hid (∀ g, (Value.slice ao x.parts.length cap).ownBlock = some g → stoS P D bS bm SK (.slice none 0 0) g = false) := Lib.hid (fun g hg => hlow g (hnew g (.inr (HLO.out g hg).1)) (by have := (HLO.out g hg).2; have := S12.out; omega))
    have HBN : Hid (stoS P D bS bm SK (.slice none 0 0) B = false) := Lib.hid (hlow B (hnew B (.inl (by have := HBE.out; omega))) (by have := HBE.out; have := SZ12.out; omega))
    have HLOAD := Lib.hid (HLD.out w3 P M SK x (.slice ao x.parts.length cap) M3.out L3.out HRT.out HVN.out)
    unfold rtV at HLOAD
    obtain ⟨r0, r1, r2⟩ := three_of X3.out
    clear hm3 hP3 hSK3 hb3 HOV hlow hnew HLD HO e1 e2
    go_wp2_with fail
    refine (HLOAD.out).mono ?_
    rintro r w4 ⟨SK2, hnb, hk, hcase⟩
    have NB := Lib.hid hnb
    have hsub : ∀ q, q < w2.heap.size → (q == P || SK q) = false := fun q hq => by
      cases c : (q == P || SK q) with
      | false => rfl
      | true =>
        simp only [Bool.or_eq_true, beq_iff_eq] at c
        rcases c with rfl | c
        · have := HP3.out; omega
        · have := HSK3.out q c; omega
    have B4 : Hid (Below u.heap.size u w4) := Lib.hid (B3.out.trans (hk.bot B3.out.size (fun q hq => hsub q (by have := BA.out.size; omega))))
    have X4 := Lib.hid ((hk.blk (lt_of_block X3.out) (hsub B (by have := HBE.out; have := SZ12.out; omega))).trans X3.out)
    have L4 := Lib.hid (L3.out.kps (fun g hg => hsub g (by have := (HLO.out g hg).2; have := S12.out; omega)) hk)
    have HK := Lib.hid hk.size
    clear hnb hk hsub HLOAD r0 r1 r2
    rcases hcase with ⟨hok, rfl, hm4⟩ | ⟨hno, rfl⟩
    · have HOK := Lib.hid hok
      have hm5 : StoM base D P M bS bm cS d n (usedK (allU d x)) x.ep 0 (atL (tabR d x)) [] [] (.slice none 0 0) SK2 w4 := hm4
      have M4 := Lib.hid hm5
      generalize hT : tabR d x = T at *
      have HT := Lib.hid hT
      have HNL : Hid (∀ g, (Value.slice ao x.parts.length cap).ownBlock = some g → base ≤ g ∧ g < w4.heap.size) := Lib.hid (fun g hg => by
        have h9 := HLO.out g hg
        have := HB.out
        have := S12.out
        have := S23.out
        have := HK.out
        exact ⟨by omega, by omega⟩)
      have HAP : Hid (Apt P D bS bm SK2 (.slice ao x.parts.length cap)) := Lib.hid (by
        have key : ∀ g, (Value.slice ao x.parts.length cap).ownBlock = some g → stoS P D bS bm SK2 (.slice none 0 0) g = false := fun g hg => by
          cases c : stoS P D bS bm SK2 (.slice none 0 0) g with
          | false => rfl
          | true =>
            rcases NB.out g c with e | e
            · rw [HVN.out g hg] at e; cases e
            · have := (HLO.out g hg).2; have := S12.out; have := S23.out; omega
        exact ⟨fun e => (stoS_no (key P e)).1 rfl, fun g hg => (stoS_no (key g hg)).2.1, fun g hg => (stoS_no (key g hg)).2.2.1⟩)
      have HALL : Hid (∀ k, stoS P D bS bm SK2 (.slice ao x.parts.length cap) k = true → P3 D bS bm k = true ∨ u.heap.size ≤ k) := Lib.hid (fun k hk => by
        have h0 : ∀ q, stoS P D bS bm SK (.slice none 0 0) q = true → P3 D bS bm q = true ∨ u.heap.size ≤ q := fun q hq => by
          rcases stoS_iff.1 hq with e | e | e | e
          · right; rw [e]; have := HP3.out; have := BA.out.size; omega
          · exact .inl e
          · right; have := HSK3.out q e; have := BA.out.size; omega
          · cases e
        rcases stoS_iff.1 hk with e | e | e | e
        · exact h0 k (stoS_iff.2 (.inl e))
        · exact .inl e
        · rcases NB.out k (stoS_iff.2 (.inr (.inr (.inl e)))) with e2 | e2
          · exact h0 k e2
          · right; have := B3.out.size; omega
        · exact .inr (HLO.out k e).1)
      have HSL := Lib.hid hsl2
      clear hok hm4 hm5 hT hsl2
      obtain ⟨r0, r1, r2⟩ := three_of X4.out
      have hc := M4.out.now.range
      go_upto_region 10 with fail
      refine wp_region_held_drew (S := (fun w' => w'.rangeAt P 1 (tabL (atL T)) ∧ w'.cell? ⟨B, 2, none⟩ = some (.slice ao x.parts.length cap))) (by kernel_rfl) ⟨hc, r2⟩ (fun hHeld => ?_)
      change wpAnyH _ _ _ _ _ _ _ _ (World.drew w4)
      have MD := Lib.hid (M4.out.below (bdrew w4))
      have BD := Lib.hid (B4.out.trans ((bdrew w4).mono B4.out.size))
      have XD := Lib.hid (heap_stays X4.out (bdrew w4))
      have LD := Lib.hid (L4.out.below (bdrew w4))
      have SD := Lib.hid (bdrew w4).size
      clear r0 r1 r2 hc
      generalize World.drew w4 = wd at *
      first | refine tq0 0 rfl ?_ | refine tq1 0 rfl ?_
      try go_frame
      first | refine tq0 1 rfl ?_ | refine tq1 1 rfl ?_
      try go_frame
      first | refine tq0 2 rfl ?_ | refine tq1 2 rfl ?_
      try go_frame
      first | refine tq0 3 rfl ?_ | refine tq1 3 rfl ?_
      try go_frame
      first | refine tq0 4 rfl ?_ | refine tq1 4 rfl ?_
      try go_frame
      first | refine tq0 5 rfl ?_ | refine tq1 5 rfl ?_
      try go_frame
      refine tqT 6 P 1 (atL T) _ rfl ?_ rfl rfl (fun w5 h5 => h5.1) hHeld
      try go_frame
      first | refine tq0 7 rfl ?_ | refine tq1 7 rfl ?_
      try go_frame
      first | refine tq0 8 rfl ?_ | refine tq1 8 rfl ?_
      try go_frame
      first | refine tq0 9 rfl ?_ | refine tq1 9 rfl ?_
      try go_frame
      first | refine tq0 10 rfl ?_ | refine tq1 10 rfl ?_
      try go_frame
      first | refine tq0 11 rfl ?_ | refine tq1 11 rfl ?_
      try go_frame
      obtain ⟨A, eA, hA⟩ := MD.out.box
      have HA := Lib.hid hA
      have EA := Lib.hid eA
      have ht := MD.out.was.there (g := atL T)
      have hza := sizeTA (atL T)
      have h1 := tabL_all (atL T)
      have hnB : Hid (B ≠ P) := Lib.hid (stoS_no HBN.out).1
      have ks1 : KpS (fun q => q == P) wd (wd.setCells P 513 (tabL (atL T))) := kps_cells (by simp) _ _ _
      have E1 := Lib.hid (putA_block (tabL (atL T)) 513 wd A _ eA)
      have A1 := Lib.hid (hA.setOld (atL T))
      have K1 := Lib.hid ks1
      have keepB : ∀ w9, KpS (fun q => q == P) wd w9 → w9.cell? ⟨B, 2, none⟩ = some (.slice ao x.parts.length cap) := fun w9 k9 => by
        rw [Lib.cell_of_heap ((k9.blk (lt_of_block XD.out) (by simpa using hnB.out)).trans XD.out)]; rfl
      have KB := Lib.hid keepB
      have rng : ∀ (w9 : World) (A9 : Array Value) (ep9 : Int) (s9 : Nat) (g9 : Nat → Int) (v9 : Value), w9.heap[P]? = some (.cells A9 81 (0, 0)) → StoA D M ep9 s9 (atL T) g9 v9 A9 → w9.rangeAt P 1 (tabL (atL T)) := fun w9 A9 ep9 s9 g9 v9 e9 h9 => TabC.range ⟨A9, _, e9, h9.now⟩
      have RNG := Lib.hid rng
      clear hA eA ks1 keepB rng
      refine wpAnyH_ready (rs := [12]) (by kernel_rfl) (by simp) ?_
      refine AllReadyH.cons (o := ⟨_, _, _, _, _, _⟩) rfl (fun Kx hKx => ?_) AllReadyH.nil
      refine wp_store_mid 78 _ _ rfl P 513 (tabL (atL T)).toArray rfl rfl ht hza h1 ?_
      change Kx _ (wd.setCells P 513 (tabL (atL T)))
      refine hKx.out _ _ ⟨RNG.out _ _ _ _ _ _ E1.out A1.out, KB.out _ K1.out⟩ (fun hHeld => ?_)
      clear hKx Kx ht hza h1
      try simp only [Act.put, List.setIfInBounds_toArray, List.set_cons_zero, List.set_cons_succ]
      generalize wd.setCells P 513 (tabL (atL T)) = wa at *
      first | refine tq0 13 rfl ?_ | refine tq1 13 rfl ?_
      try go_frame
      first | refine tq0 14 rfl ?_ | refine tq1 14 rfl ?_
      try go_frame
      have E2 := Lib.hid (Joins.block_setCell (i := 1027) E1.out (.int .i64 (sl : Int)))
      have A2 := Lib.hid (A1.out.setSlot sl)
      have K2 := Lib.hid (K1.out.trans (KpS.set (S := fun q => q == P) (b := P) (by simp) 1027 (.int .i64 (sl : Int)) wa))
      have z1 : ∃ v, wa.cell? ⟨P, 1027, none⟩ = some v := ⟨_, (Lib.cell_of_heap E1.out _).trans A1.out.cs⟩
      obtain ⟨z1v, z1⟩ := z1
      have zf : wa.frozen? ⟨P, 1027, none⟩ = false := Lib.frozen_of_heap E1.out _
      refine wpAnyH_ready (rs := [15]) (by kernel_rfl) (by simp) ?_
      refine AllReadyH.cons (o := ⟨_, _, _, _, _, _⟩) rfl (fun Kx hKx => ?_) AllReadyH.nil
      go_simp
      refine hKx.out _ _ ⟨RNG.out _ _ _ _ _ _ E2.out A2.out, KB.out _ K2.out⟩ (fun hHeld => ?_)
      clear hKx Kx z1 zf
      try simp only [Act.put, List.setIfInBounds_toArray, List.set_cons_zero, List.set_cons_succ]
      generalize wa.setCell ⟨P, 1027, none⟩ (.int .i64 (sl : Int)) = wb at *
      first | refine tq0 16 rfl ?_ | refine tq1 16 rfl ?_
      try go_frame
      first | refine tq0 17 rfl ?_ | refine tq1 17 rfl ?_
      try go_frame
      have E3 := Lib.hid (Joins.block_setCell (i := 1028) E2.out (.slice ao x.parts.length cap))
      have A3 := Lib.hid (A2.out.setParts (.slice ao x.parts.length cap))
      have K3 := Lib.hid (K2.out.trans (KpS.set (S := fun q => q == P) (b := P) (by simp) 1028 (.slice ao x.parts.length cap) wb))
      have z1 : ∃ v, wb.cell? ⟨P, 1028, none⟩ = some v := ⟨_, (Lib.cell_of_heap E2.out _).trans A2.out.cp⟩
      obtain ⟨z1v, z1⟩ := z1
      have zf : wb.frozen? ⟨P, 1028, none⟩ = false := Lib.frozen_of_heap E2.out _
      refine wpAnyH_ready (rs := [18]) (by kernel_rfl) (by simp) ?_
      refine AllReadyH.cons (o := ⟨_, _, _, _, _, _⟩) rfl (fun Kx hKx => ?_) AllReadyH.nil
      go_simp
      refine hKx.out _ _ ⟨RNG.out _ _ _ _ _ _ E3.out A3.out, KB.out _ K3.out⟩ (fun hHeld => ?_)
      clear hKx Kx z1 zf
      try simp only [Act.put, List.setIfInBounds_toArray, List.set_cons_zero, List.set_cons_succ]
      generalize wb.setCell ⟨P, 1028, none⟩ (.slice ao x.parts.length cap) = wc at *
      refine wpAnyH_done (by kernel_rfl) ?_ _
      have FM : Hid (StoM base D P M bS bm cS d n (usedK (allU d x)) x.ep sl (atL T) T x.parts (.slice ao x.parts.length cap) SK2 wc) := Lib.hid
        (MD.out.rebox K3.out E3.out A3.out LD.out (fun g hg => ⟨(HNL.out g hg).1, Nat.lt_of_lt_of_le (HNL.out g hg).2 SD.out⟩) HAP.out)
      have FB : Hid (Below u.heap.size u wc) := Lib.hid (BD.out.trans (K3.out.bot BD.out.size (fun q hq => by have := HP3.out; have := BA.out.size; simp; omega)))
      clear hHeld
      go_wp2_with fail
      go_ret2
      refine ⟨FB.out, .inr (.inr (.inr ⟨HN2.out, x, sl, HL.out, HOK.out, P, M, SK2, _, rfl, ?_, HALL.out⟩))⟩
      rw [HT.out]
      exact FM.out
    · have HNO := Lib.hid hno
      clear hno
      go_wp2_with fail
      go_ret2
      exact ⟨B4.out, .inr (.inr (.inl ⟨HN2.out, x, sl, HL.out, HNO.out, rfl⟩))⟩
  · have HN2 := Lib.hid (And.intro hn2 (And.intro hs0 hs1))
    have BA := Lib.hid (B1.out.trans ((balloc w1 (.cells #[.int .i64 0, .int .i64 0, .slice none 0 0] 100)).mono B1.out.size))
    clear hn2 hs0 hs1 HLD HO
    unfold rtV
    go_upto_region 4 with fail
    generalize w1.alloc (.cells #[.int .i64 0, .int .i64 0, .slice none 0 0] 100) = w2 at *
    generalize w1.heap.size = B at *
    go_wp2_with fail
    go_ret2
    exact ⟨BA.out, .inr (.inl ⟨HN2.out.1, HN2.out.2.1, HN2.out.2.2, rfl⟩)⟩
end

end Go.Proofs.YtdpmpmaepjgndaaGreat
