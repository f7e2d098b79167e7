/- The contracts of the program's of, New, Of. What must come at any rate (awake), whatever the program's store is made of. append of nothing; the cells of a slice that is appended. (Moved out of VmOf and OwnAppend.) append, to a row of the call's own, of a slice of whatever length (of none, too), told by its elements: at a drawn region's step, and in a plain region. The document's store of logical pages in memory. -/
import Derived.OwnWalk
import Derived.Deep.AppendSrc
import Derived.Deep.AppendLies
import Derived.Deep.DeepCutAuto
import Derived.Deep.Upon
import Derived.Laws.OwnMore
import Derived.Test.YtdpmpmaepjgndaaGreatYZ5
import Derived.Test.YtdpmpmaepjgndaaGreatYZ0
import Derived.Test.YtdpmpmaepjgndaaGreatYZ4
import Derived.Test.YtdpmpmaepjgndaaGreatYZ2
import Derived.Test.YtdpmpmaepjgndaaGreatYZ1
namespace Go.Proofs.YtdpmpmaepjgndaaGreat
open Go.RowKit Go.Deep Go.Maps
set_option linter.unusedVariables false
set_option linter.unusedSimpArgs false
set_option maxRecDepth 100000

theorem info_sec : (Tryz.prog.info? 96).map (fun i => (i.zero, i.size, i.bytes)) = some (some (.agg (secV fun _ => 0).toArray), 64, 64) := by kernel_rfl
theorem made_rows (n : Nat) : (madeCells (secV fun _ => 0).toArray (n * 64)).toList = rowCells 64 (gB fun _ _ => 0) n := by
  unfold madeCells rowCells
  rw [Array.toList_map, Array.toList_range]
  apply List.map_congr_left
  intro k hk
  rw [secV_size]
  have h := secV_at? (fun _ => 0) (j := k % 64) (Nat.mod_lt _ (by omega))
  simp only [gB]
  rw [getElem!_def]
  simp only [List.getElem?_toArray, h]
theorem not_empty9 (s : ByteArray) (h : 0 < s.size) : s.toList.isEmpty = false := by
  have : ∀ (k i : Nat) (r : List UInt8), s.size - i = k → (i < s.size ∨ r ≠ []) → ByteArray.toList.loop s i r ≠ [] := by
    intro k
    induction k with
    | zero =>
      intro i r hk hr
      unfold ByteArray.toList.loop
      rw [if_neg (by omega)]
      rcases hr with hr | hr
      · omega
      · simpa using hr
    | succ k ih =>
      intro i r hk hr
      unfold ByteArray.toList.loop
      rw [if_pos (by omega)]
      exact ih (i + 1) _ (by omega) (.inr (by simp))
  cases e : s.toList with
  | nil => exact absurd e (this _ 0 [] rfl (.inl h))
  | cons a l => rfl
variable {base P bS bm cS : Nat} {d : Dk} {u : World}
theorem nowD_new (n : Nat) : nowD (newD n) = fun _ _ => 0 := by funext i j; simp [nowD, newD]
set_option maxHeartbeats 1600000 in
theorem pof_any (n : Nat) (hn : 1 ≤ n) (hn2 : n ≤ 4096) (u : World) : Calls Tryz.prog 60 #[.int .i64 (n : Int)] u fun r u' => ∃ P bS bm cS, r = .returned (.pointer (some ⟨P, 0, none⟩)) ∧ PDk u.heap.size P bS bm cS (newD n) u' ∧ Below u.heap.size u u' := by
  obtain ⟨i0, hi, hz0, hz1, hz2⟩ := info_parts info_sec
  have hmm := @run_makeMap Tryz.prog
  go_enter Tryz.func60, Tryz.ntmps60
  go_wp2_with (at_make; refine wpList_make_full _ rfl _ _ _ rfl u.heap.size 96 i0 (.agg (secV fun _ => 0).toArray) 64 Tryz.underlying87 hi hz0 hz1 .i64 .i64 _ _ n rfl rfl (by omega) (by omega) (by rw [hz2]; omega) (by unfold maxLen; omega) (Nat.le_refl _) ?_)
  intro w2 hown hgr
  rw [made_rows] at hown
  obtain ⟨b, q1, q2, q3⟩ := RowB.of hown (by omega)
  simp only [Value.ownBlock, Option.some.injEq] at q2
  subst q2
  have HB := Lib.hid ((Below.refl u.heap.size u).grown hgr (Nat.le_refl _) (by simp))
  have HR := Lib.hid q3
  have X1 := Lib.hid (heap_alloc_new w2 (.map #[] 0))
  have B1 := Lib.hid (balloc w2 (.map #[] 0))
  have S1 := Lib.hid (show (w2.alloc (.map #[] 0)).heap.size = w2.heap.size + 1 from World.size_alloc _ _)
  have X2 := Lib.hid (heap_alloc_new (w2.alloc (.map #[] 0)) (.cells #[.slice (some ⟨u.heap.size, 0, none⟩) n n, .map (some w2.heap.size), .int .i64 0, .int .i64 0, .bool false] 90))
  have B2 := Lib.hid (balloc (w2.alloc (.map #[] 0)) (.cells #[.slice (some ⟨u.heap.size, 0, none⟩) n n, .map (some w2.heap.size), .int .i64 0, .int .i64 0, .bool false] 90))
  clear hown hgr q1 q3
  go_wp2_with fail
  go_ret
  refine ⟨w2.heap.size + 1, u.heap.size, w2.heap.size, n, rfl, ?_, HB.out.trans ((B1.out.mono HB.out.size).trans (B2.out.mono (Nat.le_trans HB.out.size B1.out.size)))⟩
  have X2' := X2.out
  have B2' := B2.out
  rw [S1.out] at X2' B2'
  refine ⟨X2', ?_, MpD.none ((B2'.block _ (by omega)).trans X1.out) fun _ => rfl, by have := HB.out.size; omega, Nat.le_refl _, HB.out.size⟩
  rw [nowD_new]
  have hl := HR.out.lt
  exact (HR.out.kept (B1.out.block _ hl)).kept (B2'.block _ (by omega))
theorem pnew_any (n : Nat) (hn : 1 ≤ n) (hn2 : n ≤ 4096) (u : World) : Calls Tryz.prog 35 #[.int .i64 (n : Int)] u fun r u' => ∃ P bS bm cS, r = .returned (.tuple #[.pointer (some ⟨P, 0, none⟩), .int .i64 0]) ∧ PDk u.heap.size P bS bm cS (newD n) u' ∧ Below u.heap.size u u' := by
  have H := Lib.hid (pof_any n hn hn2 u)
  have d1 : decide ((n : Int) < 1) = false := by simp; omega
  have d2 : decide (4096 < (n : Int)) = false := by simp; omega
  go_enter Tryz.func35, Tryz.ntmps35
  go_wp2_with fail
  refine (H.out).mono ?_
  rintro e w1 ⟨P, bS, bm, cS, rfl, r1, k1⟩
  have R1 := Lib.hid r1
  have K1 := Lib.hid k1
  clear r1 k1
  go_wp2_with fail
  go_ret2
  exact ⟨P, bS, bm, cS, rfl, R1.out, K1.out⟩

/-- a disk of an image, of which the first j sectors are laid -/
def imgD (s : ByteArray) (n j : Nat) : Dk := { newD n with sf := fun i => if i < j then imgF s i else fun _ => 0 }
theorem img_now (s : ByteArray) (n j i : Nat) : nowD (imgD s n j) i = if i < j then imgF s i else fun _ => 0 := rfl
theorem img_step {s : ByteArray} {n j : Nat} (h : PDk base P bS bm cS (imgD s n j) u) (hj : j < n) : PDk base P bS bm cS (imgD s n (j + 1)) (u.setCells bS (j * 64) ((Lib.byteCells (s.extract (j * 64) s.size).data.toList).take (Nat.min (s.extract (j * 64) s.size).size 64))) := by
  obtain ⟨n1, n2, n3⟩ := h.ne
  have r0 : RowB 96 64 bS (gB (fillG (imgD s n j) j fun _ => 0)) n (.slice (some ⟨bS, 0, none⟩) n cS) u := h.row.congr fun i hi q hq => by
    unfold gB fillG
    by_cases e : i = j
    · subst e; rw [if_pos rfl, img_now, if_neg (Nat.lt_irrefl _)]
    · rw [if_neg e]
  have r1 := text_at (s.extract (j * 64) s.size) r0 hj
  refine ⟨(setCells_else n1 _ _ _).trans h.box, ?_, (h.mp.kept (setCells_else n3.symm _ _ _)).congr (fun _ _ => rfl) (fun i hi hs => by cases hs), h.lo⟩
  refine r1.congr fun i hi q hq => ?_
  unfold gB fillG
  rw [img_now]
  by_cases e : i = j
  · subst e
    rw [if_pos (Nat.lt_succ_self _), if_pos rfl]
    congr 1
    unfold imgF
    by_cases c : i * 64 + q < s.size
    · rw [byD_cut _ _ _ _ c, Nat.mul_comm]
    · rw [byD_out (s := s) (by omega), byD_out (by rw [ByteArray.size_extract]; omega)]
  · rw [if_neg e, img_now]
    by_cases e2 : i < j
    · rw [if_pos e2, if_pos (by omega)]
    · rw [if_neg e2, if_neg (by omega)]
set_option maxHeartbeats 3200000 in
theorem pofi_any (s : ByteArray) (h0 : 0 < s.size) (h1 : s.size ≤ 262144) (n : Nat) (hn : n = (s.size + 63) / 64) (u : World) : Calls Tryz.prog 24 #[.string s] u fun r u' => ∃ P bS bm cS, r = .returned (.tuple #[.pointer (some ⟨P, 0, none⟩), .int .i64 0]) ∧ PDk u.heap.size P bS bm cS (imgD s n n) u' ∧ Below u.heap.size u u' := by
  have H := Lib.hid (pof_any n (by omega) (by omega) u)
  have HN := Lib.hid hn
  have e1 : ((s.size : Int) + 64 - 1) / 64 = (n : Int) := by omega
  have hne := not_empty9 s h0
  have d2 : decide (262144 < (s.size : Int)) = false := by simp; omega
  have hn1 : n ≤ 4096 := by omega
  clear hn
  go_enter Tryz.func24, Tryz.ntmps24
  go_wp2_with fail
  refine (H.out).mono ?_
  rintro e w1 ⟨P, bS, bm, cS, rfl, r1, k1⟩
  have R1 : Hid (PDk u.heap.size P bS bm cS (imgD s n 0) w1) := Lib.hid (r1.congr rfl rfl rfl rfl (fun _ _ => rfl) (fun _ _ hs => by cases hs) (fun i hi j hj => by rw [nowD_new]; rfl))
  have K1 := Lib.hid k1
  have c0 := r1.cells.1
  change w1.cell? ⟨P, 0, none⟩ = some (.slice (some ⟨bS, 0, none⟩) n cS) at c0
  clear r1 k1 H
  go_wp2_with fail
  go_loopw [24] (fun i wr => ∃ j : Nat, j ≤ n ∧ i = .int .i64 j ∧ PDk u.heap.size P bS bm cS (imgD s n j) wr ∧ Below u.heap.size u wr) (fun i _ => n - (intOf i).toNat)
  case atStart => exact ⟨0, Nat.zero_le _, rfl, R1.out, K1.out⟩
  case round =>
    clear c0
    obtain ⟨j, hj, rfl, hr, hk⟩ := hrel
    have RJ := Lib.hid hr
    have KJ := Lib.hid hk
    clear hr hk
    have hj0 : (0 : Int) ≤ (j : Int) := by omega
    by_cases hlt : j < n
    · have hj2 : (j : Int) < (n : Int) := by omega
      have hjs : j * 64 ≤ s.size := by have := HN.out; omega
      have hjs2 : (j : Int) * 64 ≤ (s.size : Int) ∧ (0 : Int) ≤ (j : Int) * 64 := by omega
      have e64 : ((j : Int) * 64).toNat = j * 64 := by omega
      have hwr : IntKind.i64.wrap ((j : Int) * 64) = (j : Int) * 64 := by
        have e9 : ∀ x : Int, IntKind.i64.wrap x = wrap64 x := fun x => by simp [IntKind.wrap, wrap64, IntKind.signed, IntKind.bits]; split <;> omega
        rw [e9]; unfold wrap64; omega
      have HJ := Lib.hid hlt
      go_upto_region 7 with fail
      refine wp_region_held_drew (S := (fun w' => w'.cell? ⟨P, 0, none⟩ = some (.slice (some ⟨bS, 0, none⟩) n cS))) (by kernel_rfl) ?_ (fun hHeld => ?_)
      · exact (RJ.out.below (bdrew wr)).cells.1
      change wpAnyH _ _ _ _ _ _ _ _ (World.drew wr)
      have R2 := Lib.hid (RJ.out.below (bdrew wr))
      have K2 := Lib.hid (KJ.out.trans ((bdrew wr).mono KJ.out.size))
      generalize World.drew wr = w4 at *
      have hcp := run_copy_text (P := Tryz.prog) w4 97 9 3 5 bS (j * 64) 64 64 (s.extract (j * 64) s.size) Tryz.underlying97 (by kernel_rfl) (by
        have := R2.out.row.there HJ.out 0 (Nat.min (s.extract (j * 64) s.size).size 64) (by have : Nat.min (s.extract (j * 64) s.size).size 64 ≤ 64 := Nat.min_le_right _ _; omega)
        simpa using this)
      have F := Lib.hid (img_step R2.out HJ.out)
      have KK := Lib.hid (kps_setCells (P3.b P bS bm) ((Lib.byteCells (s.extract (j * 64) s.size).data.toList).take (Nat.min (s.extract (j * 64) s.size).size 64)) (j * 64) w4)
      obtain ⟨w5, hw5⟩ : ∃ w5, w5 = w4.setCells bS (j * 64) ((Lib.byteCells (s.extract (j * 64) s.size).data.toList).take (Nat.min (s.extract (j * 64) s.size).size 64)) := ⟨_, rfl⟩
      rw [← hw5] at hcp F KK
      clear hw5
      first | refine tq0 0 rfl ?_ | refine tq1 0 rfl ?_
      try go_frame
      first | refine tq0 1 rfl ?_ | refine tq1 1 rfl ?_
      try go_frame
      first | refine tq0 2 rfl ?_ | refine tq1 2 rfl ?_
      try go_frame
      first | refine tq0 3 rfl ?_ | refine tq1 3 rfl ?_
      try go_frame
      first | refine tq0 4 rfl ?_ | refine tq1 4 rfl ?_
      try go_frame
      first | refine tq0 5 rfl ?_ | refine tq1 5 rfl ?_
      try go_frame
      first | refine tq0 6 rfl ?_ | refine tq1 6 rfl ?_
      try go_frame
      first | refine tq0 7 rfl ?_ | refine tq1 7 rfl ?_
      try go_frame
      first | refine tq0 8 rfl ?_ | refine tq1 8 rfl ?_
      try go_frame
      first | refine tq0 9 rfl ?_ | refine tq1 9 rfl ?_
      try go_frame
      first | refine tq0 10 rfl ?_ | refine tq1 10 rfl ?_
      try go_frame
      refine wpAnyH_ready (rs := [11]) (by kernel_rfl) (by simp) ?_
      refine AllReadyH.cons (o := ⟨_, _, _, _, _, _⟩) rfl (fun K hK => ?_) AllReadyH.nil
      go_simp
      refine hK.out _ _ ?_ (fun hHeld => ?_)
      · exact F.out.cells.1
      clear hK K
      try simp only [Act.put, List.setIfInBounds_toArray, List.set_cons_zero, List.set_cons_succ]
      refine wpAnyH_done (by kernel_rfl) ?_ _
      have K5 := Lib.hid (K2.out.trans (R2.out.bot KK.out K2.out.size))
      clear hcp hHeld
      go_wp2_with fail
      go_roundw
      case rel => exact ⟨j + 1, HJ.out, by go_num, F.out, K5.out⟩
      case measure => have := HJ.out; simp [intOf]; omega
    · obtain rfl : j = n := by omega
      go_wp2_with fail
      go_ret2
      exact ⟨P, bS, bm, cS, rfl, RJ.out, KJ.out⟩

end Go.Proofs.YtdpmpmaepjgndaaGreat
namespace Go.Proofs.YtdpmpmaepjgndaaGreat
open Go.RowKit Go.Deep
set_option linter.unusedVariables false
set_option linter.unusedSimpArgs false
set_option maxRecDepth 100000

section
def aw0 : Stt := ⟨12, [], [], 1, 64⟩
def aw1 (p : ByteArray) : Stt := ⟨12, [⟨true, true, p⟩], [], 1, 128⟩
def aw2 (p : ByteArray) : Stt := ⟨12, [⟨true, false, p⟩], [⟨true, false, p⟩], 2, 192⟩
def aw4 (p : ByteArray) : Stt := ⟨12, [⟨true, false, p⟩], [⟨true, false, p⟩], 2, 256⟩
def aw3 (p q : ByteArray) : Stt := ⟨12, [⟨true, true, q⟩], [⟨true, false, p⟩], 2, 256⟩
theorem aw_need0 : needR 0 = 0 := by decide
theorem aw_need1 : needR 1 = 1 := by decide
theorem aw0_first : firstS [] = 0 := rfl
theorem aw0_free : freeS 12 [] [] = 12 := by
  show 12 - keptS [] - 0 = 12
  rw [show keptS [] = 0 from by show (0 : Int) + needR 0 = 0; rw [aw_need0]; rfl]
  rfl
theorem aw0_newE {s : ByteArray} (hs : s.size ≤ 232) : newE aw0 s = 0 := by
  unfold newE
  rw [if_neg (by omega), if_neg]
  rw [show aw0.now = [] from rfl, show aw0.old = [] from rfl, show aw0.many = 12 from rfl, aw0_first, aw0_free]
  omega
theorem aw0_newX {s : ByteArray} (hs : s.size ≤ 232) : newX aw0 s = aw1 (fullP s) := by
  unfold newX
  rw [if_pos (aw0_newE hs)]
  rfl
theorem aw0_newI {s : ByteArray} (hs : s.size ≤ 232) : newI aw0 s = 0 := by
  unfold newI
  rw [if_pos (aw0_newE hs)]
  rfl
theorem aw1_free (p : ByteArray) : freeS 12 [⟨true, true, p⟩] [] = 11 := by
  show 12 - keptS [] - 1 = 11
  rw [show keptS [] = 0 from by show (0 : Int) + needR 0 = 0; rw [aw_need0]; rfl]
  rfl
theorem aw1_next (p : ByteArray) : nextS [⟨true, true, p⟩] = [⟨true, false, p⟩] := rfl
theorem aw1_com (p : ByteArray) : ¬ freeS (aw1 p).many (aw1 p).now (aw1 p).old < needR ((nextS (aw1 p).now).length : Int) := by
  rw [show (aw1 p).now = [⟨true, true, p⟩] from rfl, show (aw1 p).old = [] from rfl, show (aw1 p).many = 12 from rfl, aw1_free, aw1_next]
  show ¬ (11 : Int) < needR 1
  rw [aw_need1]
  decide
theorem aw1_comE (p : ByteArray) : comSE (aw1 p) = 0 := by unfold comSE; rw [if_neg (aw1_com p)]
theorem aw1_comX (p : ByteArray) : comSX (aw1 p) = aw2 p := by unfold comSX; rw [if_neg (aw1_com p)]; rfl
theorem aw2_in (p : ByteArray) : inS (aw2 p).now 0 := ⟨by decide, rfl⟩
theorem aw4_in (p : ByteArray) : inS (aw4 p).now 0 := ⟨by decide, rfl⟩
theorem aw2_free (p : ByteArray) : freeS 12 [⟨true, false, p⟩] [⟨true, false, p⟩] = 10 := by
  show 12 - keptS [⟨true, false, p⟩] - 0 = 10
  rw [show keptS [⟨true, false, p⟩] = 2 from by show (1 : Int) + needR 1 = 2; rw [aw_need1]; rfl]
  rfl
theorem aw2_putE (p : ByteArray) {s : ByteArray} (hs : s.size ≤ 232) : putWE (aw2 p) 0 s = 0 := by
  unfold putWE
  rw [if_neg (by omega), if_pos (aw2_in p), if_neg]
  rintro ⟨_, c⟩
  rw [show (aw2 p).now = [⟨true, false, p⟩] from rfl, show (aw2 p).old = [⟨true, false, p⟩] from rfl, show (aw2 p).many = 12 from rfl, aw2_free] at c
  omega
theorem aw2_putX (p : ByteArray) {s : ByteArray} (hs : s.size ≤ 232) : putWX (aw2 p) 0 s = aw3 p (fullP s) := by
  unfold putWX
  rw [if_pos (aw2_putE p hs)]
  rfl
theorem aw3_in (p q : ByteArray) : inS (aw3 p q).now 0 := ⟨by decide, rfl⟩
theorem aw3_abo (p q : ByteArray) : aboSX (aw3 p q) = aw4 p := rfl
theorem aw_ok0 : OkX aw0 := ⟨by decide, by decide, by decide, by decide, by decide⟩
theorem aw_ok1 (p : ByteArray) : OkX (aw1 p) := ⟨by show 1 ≤ 512; omega, by show 0 ≤ 512; omega, ⟨by show (0 : Int) ≤ 12; omega, by show (12 : Int) ≤ 1024; omega⟩, ⟨by show (1 : Int) ≤ 1; omega, by show (1 : Int) ≤ 1000000; omega⟩, by show 128 ≤ 900000; omega⟩
theorem aw_ok2 (p : ByteArray) : OkX (aw2 p) := ⟨by show 1 ≤ 512; omega, by show 1 ≤ 512; omega, ⟨by show (0 : Int) ≤ 12; omega, by show (12 : Int) ≤ 1024; omega⟩, ⟨by show (1 : Int) ≤ 2; omega, by show (2 : Int) ≤ 1000000; omega⟩, by show 192 ≤ 900000; omega⟩
theorem aw_ok4 (p : ByteArray) : OkX (aw4 p) := ⟨by show 1 ≤ 512; omega, by show 1 ≤ 512; omega, ⟨by show (0 : Int) ≤ 12; omega, by show (12 : Int) ≤ 1024; omega⟩, ⟨by show (1 : Int) ≤ 2; omega, by show (2 : Int) ≤ 1000000; omega⟩, by show 256 ≤ 900000; omega⟩
theorem aw_ok3 (p q : ByteArray) : OkX (aw3 p q) := ⟨by show 1 ≤ 512; omega, by show 1 ≤ 512; omega, ⟨by show (0 : Int) ≤ 12; omega, by show (12 : Int) ≤ 1024; omega⟩, ⟨by show (1 : Int) ≤ 2; omega, by show (2 : Int) ≤ 1000000; omega⟩, by show 256 ≤ 900000; omega⟩
end
section
variable {PM : StM} {PF PC : FlM}
set_option maxHeartbeats 6400000 in
theorem awake14_any (I : Sh14 PM PF PC) (u : World) : Calls Tryz.prog 9 #[] u fun r u' => r = .returned (.bool true) ∧ Below u.heap.size u u' := by
  have HI := Lib.hid I
  have HN : Hid (Calls Tryz.prog 35 #[.int .i64 50] u fun r u' => ∃ P bS bm cS, r = .returned (.tuple #[.pointer (some ⟨P, 0, none⟩), .int .i64 0]) ∧ PDk u.heap.size P bS bm cS (newD (2 + 4 * 12)) u' ∧ Below u.heap.size u u') := Lib.hid (pnew_any (2 + 4 * 12) (by omega) (by omega) u)
  have HFA := Lib.hid (fun w => rfull_any (⟨#[97]⟩ : ByteArray) (by decide) w)
  have HFB := Lib.hid (fun w => rfull_any (⟨#[98]⟩ : ByteArray) (by decide) w)
  clear I
  go_enter Tryz.func9, Tryz.ntmps9
  go_wp2_with fail
  refine (HN.out).mono ?_
  rintro e w1 ⟨D, bS, bm, cS, rfl, hp, hb1⟩
  have PD := Lib.hid hp
  have B1 := Lib.hid hb1
  have HF := Lib.hid (HI.out.format hp (by omega) (by omega) hb1.size)
  clear hp hb1
  go_wp2_with fail
  refine (HF.out).mono ?_
  rintro e w2 ⟨P, S2, rfl, hpm, n2, k2⟩
  have B2 := Lib.hid (B1.out.trans (PD.out.bot k2 B1.out.size))
  have P2 := Lib.hid (show PM u.heap.size D P aw0 0 S2 w2 from hpm)
  have HNW := Lib.hid (HI.out.new (⟨#[97]⟩ : ByteArray) P2.out aw_ok0 B2.out.size (by decide))
  clear hpm n2 k2 HF HN
  obtain ⟨pa, hpa⟩ : ∃ p, p = fullP (⟨#[97]⟩ : ByteArray) := ⟨_, rfl⟩
  obtain ⟨pb, hpb⟩ : ∃ p, p = fullP (⟨#[98]⟩ : ByteArray) := ⟨_, rfl⟩
  have HPA := Lib.hid hpa
  have HPB := Lib.hid hpb
  rw [← hpa] at HFA
  rw [← hpb] at HFB
  clear hpa hpb
  go_wp2_with fail
  refine (HNW.out).mono ?_
  rintro e w3 ⟨i3, e3, rfl, ho⟩
  obtain ⟨⟨rfl, rfl⟩, S3, n3, k3, p3⟩ := out_zero ho
  rw [aw0_newX (by decide), ← HPA.out] at p3
  have B3 := Lib.hid (B2.out.trans (HI.out.bot P2.out B2.out.size k3))
  have P3' := Lib.hid p3
  have E3a := aw0_newI (s := (⟨#[97]⟩ : ByteArray)) (by decide)
  have E3b := aw0_newE (s := (⟨#[97]⟩ : ByteArray)) (by decide)
  have HCM := Lib.hid (HI.out.commit P3'.out (aw_ok1 _) B3.out.size)
  rw [E3a, E3b]
  clear ho n3 k3 p3 E3a E3b HNW
  go_wp2_with fail
  refine (HCM.out).mono ?_
  rintro e w4 ⟨e4, rfl, ho⟩
  obtain ⟨rfl, S4, n4, k4, p4⟩ := out_zero ho
  rw [aw1_comX] at p4
  have B4 := Lib.hid (B3.out.trans (HI.out.bot P3'.out B3.out.size k4))
  have P4 := Lib.hid p4
  have HWR := Lib.hid (HI.out.write 0 (⟨#[98]⟩ : ByteArray) P4.out (aw_ok2 _) B4.out.size (by decide))
  rw [aw1_comE]
  clear ho n4 k4 p4 HCM
  go_wp2_with fail
  refine (HWR.out).mono ?_
  rintro e w5 ⟨e5, rfl, ho⟩
  obtain ⟨rfl, S5, n5, k5, p5⟩ := out_zero ho
  rw [aw2_putX _ (by decide), ← HPB.out] at p5
  have B5 := Lib.hid (B4.out.trans (HI.out.bot P4.out B4.out.size k5))
  have P5 := Lib.hid p5
  have HR1 := Lib.hid (HI.out.read 0 P5.out (aw_ok3 _ _) B5.out.size)
  rw [if_pos (aw3_in _ _), if_pos (aw3_in _ _)] at HR1
  change Hid (Calls _ _ _ _ (fun r u' => r = .returned (.tuple #[.string pb, .int .i64 0]) ∧ _)) at HR1
  rw [aw2_putE _ (by decide)]
  clear ho n5 k5 p5 HWR
  go_wp2_with fail
  refine (HR1.out).mono ?_
  rintro e w6 ⟨rfl, hb6⟩
  have B6 := Lib.hid (bthen B5.out hb6)
  have P6 := Lib.hid (HI.out.below P5.out hb6)
  have HAB := Lib.hid (HI.out.abort P6.out (aw_ok3 _ _) B6.out.size)
  clear hb6 HR1
  go_wp2_with fail
  refine (HAB.out).mono ?_
  rintro e w7 ⟨rfl, S7, n7, k7, p7⟩
  rw [aw3_abo] at p7
  have B7 := Lib.hid (B6.out.trans (HI.out.bot P6.out B6.out.size k7))
  have P7 := Lib.hid p7
  have HR2 := Lib.hid (HI.out.read 0 P7.out (aw_ok4 _) B7.out.size)
  rw [if_pos (aw4_in _), if_pos (aw4_in _)] at HR2
  change Hid (Calls _ _ _ _ (fun r u' => r = .returned (.tuple #[.string pa, .int .i64 0]) ∧ _)) at HR2
  clear n7 k7 p7 HAB
  go_wp2_with fail
  refine (HR2.out).mono ?_
  rintro e w8 ⟨rfl, hb8⟩
  have B8 := Lib.hid (bthen B7.out hb8)
  have P8 := Lib.hid (HI.out.below P7.out hb8)
  clear hb8 HR2
  go_wp2_with fail
  refine (HFA.out _).mono ?_
  rintro e w9 ⟨rfl, hb9⟩
  have B9 := Lib.hid (bthen B8.out hb9)
  have P9 := Lib.hid (HI.out.below P8.out hb9)
  clear hb9
  go_wp2_with fail
  refine (HFB.out _).mono ?_
  rintro e w10 ⟨rfl, hb10⟩
  have B10 := Lib.hid (bthen B9.out hb10)
  have P10 := Lib.hid (HI.out.below P9.out hb10)
  have HEP := Lib.hid (HI.out.epoch P10.out (aw_ok4 _) B10.out.size)
  change Hid (Calls _ _ _ _ (fun r u' => r = .returned (.int .i64 2) ∧ _)) at HEP
  clear hb10
  go_wp2_with fail
  refine (HEP.out).mono ?_
  rintro e w11 ⟨rfl, hb11⟩
  have B11 := Lib.hid (bthen B10.out hb11)
  clear hb11
  go_wp2_with fail
  go_ret
  exact ⟨rfl, B11.out⟩
end

end Go.Proofs.YtdpmpmaepjgndaaGreat
namespace Go.Proofs.YtdpmpmaepjgndaaGreat
open Go.RowKit Go.Deep
set_option linter.unusedVariables false
set_option maxRecDepth 100000

theorem rowCells_zero (C : Nat) (g : Nat → Nat → Value) : rowCells C g 0 = [] := by simp [rowCells]
/-- append of nothing, in a plain region -/
theorem wpList_append_nothing7 {P : Program} {w : World} {ops : Array Oper} {rest : List Oper} {o : Oper} {a : Act} {Q : Exit → Act → World → Prop} (hgd : o.guard = none) (s x : Operand) (t : TypeId)
    (ho : o.op = .call { callee := .builtin .append, args := #[s, x], argTypes := #[t, t] })
    (e : TypeId) (i : TypeInfo) (ht : P.underlying t = some (.slice e)) (hi : P.info? e = some i) (ao : Option Addr) (n cap : Nat) (hs : a.eval s = .slice ao n cap) (hle : n ≤ cap) (xv : Value) (hx : a.eval x = xv) (hsrc : Src P i.size t xv 0 [] w)
    (h : wpList P ops Q rest (a.put o.dst (.slice ao n cap)) w) : wpList P ops Q (o :: rest) a w := by
  refine wpList_plain hgd fun K hK => ?_
  have hrun := run_append_nothing (P := P) w t t o.type e i ht hi ao n cap hle xv hsrc
  unfold Oper.wp
  simp [execOp, ho, resolve, invoke, builtin, hs, hx, hrun, Result.andThen]
  exact hK _ _ h

theorem at_newsC {C : Nat} (hC : 0 < C) {g : Nat → Nat → Value} {n b o : Nat} {w : World} (h : At C g n b o w) : ∀ j u, (rowCells C g n)[j]? = some u → w.cell? ((⟨b, o, none⟩ : Addr).add j) = some u := by
  intro j u hj
  have hlt : j < n * C := by
    rcases Nat.lt_or_ge j (n * C) with h1 | h1
    · exact h1
    · rw [List.getElem?_eq_none (by rw [rowCells_len]; exact h1)] at hj; cases hj
  have hi : j / C < n := (Nat.div_lt_iff_lt_mul hC).2 hlt
  have hr : j % C < C := Nat.mod_lt _ hC
  have hjj : j / C * C + j % C = j := by rw [Nat.mul_comm]; exact Nat.div_add_mod j C
  have e := rowCells_at g hi hr
  rw [hjj, hj] at e
  have := h.2 _ hi _ hr
  rw [add_plain]
  rw [show o + j / C * C + j % C = o + j by omega] at this
  rw [this]
  exact e.symm

end Go.Proofs.YtdpmpmaepjgndaaGreat
namespace Go.Proofs.YtdpmpmaepjgndaaGreat
open Go.RowKit Go.Deep
set_option linter.unusedVariables false
set_option maxRecDepth 100000

theorem row_cells_one {C : Nat} {g : Nat → Nat → Value} {m : Nat} (hC : 0 < C) (h1 : ∀ i, i < m → ∀ j, j < C → (g i j).oneCell' = true) : ∀ u ∈ rowCells C g m, u.oneCell' = true := fun u hu => by
  obtain ⟨j, hj, rfl⟩ := List.mem_iff_getElem.1 hu
  obtain ⟨q1, q2, q3, e⟩ := rowCells_of hC g (List.getElem?_eq_getElem hj)
  rw [e]
  exact h1 _ q2 _ q3
theorem own_form {w : World} {b : Nat} {E : TypeId} {C n : Nat} {v : Value} {xs : List Value} (h : w.ownsRow b E C v n xs) : ∃ a c, v = .slice a n c ∧ n ≤ c := by
  rcases h.2 with ⟨rfl, h0⟩ | ⟨g, cap, cur, rfl, _, _, h3, _⟩
  · exact ⟨none, 0, by rw [h0], by omega⟩
  · exact ⟨_, cap, rfl, h3⟩
theorem grown_self (w : World) (row : Option Nat) : w.grownBy w row := ⟨rfl, rfl, rfl, Nat.le_refl _, fun _ _ _ => rfl⟩
section
variable {P : Program} {ops : Array Oper} {o : Oper} {a : Act} {w : World} {K : Act → World → Prop} {Q : Exit → Act → World → Prop}
theorem src_none {size : Nat} {t : TypeId} {e : TypeId} (ht : P.underlying t = some (.slice e)) (ax : Option Addr) (c : Nat) : Src P size t (.slice ax 0 c) 0 [] w := by
  cases ax with
  | none => exact Src.ofNil _ ht c
  | some ad => exact Src.ofSlice _ ht ad 0 c [] (by simp) (by simp) (by simp)
theorem wpList_append_any {rest : List Oper} (hgd : o.guard = none) (s x : Operand) (t : TypeId) (ho : o.op = .call { callee := .builtin .append, args := #[s, x], argTypes := #[t, t] })
    (base : Nat) (e : TypeId) (i : TypeInfo) (z : Value) (size bytes : Nat) (ht : P.underlying t = some (.slice e)) (hi : P.info? e = some i) (hz : i.zero = some z)
    (hsize : i.size = size) (hby : i.bytes = bytes) (hzs : z.cells.size = size) (hsz : 0 < size)
    (v : Value) (n : Nat) (xs : List Value) (hs : a.eval s = v) (hown : w.ownsRow base e size v n xs)
    (g : Nat → Nat → Value) (m : Nat) (vx : Value) (hx : a.eval x = vx) (hsl : Sl size g m vx w) (h1 : ∀ i, i < m → ∀ j, j < size → (g i j).oneCell' = true)
    (h63 : n + m ≤ maxLen) (hbytes : (n + m) * bytes ≤ 140737488355328) (hbase : base ≤ w.heap.size)
    (N : Nat) (hN : n + m = N) (h : ∀ a' c' w', w'.ownsRow base e size (.slice a' N c') N (xs ++ rowCells size g m) → w.grownBy w' v.ownBlock → wpList P ops Q rest (a.put o.dst (.slice a' N c')) w') : wpList P ops Q (o :: rest) a w := by
  subst hN
  obtain ⟨ax, cx, rfl, hx1, hx2, hx3⟩ := hsl
  rcases Nat.eq_zero_or_pos m with hm | hm
  · subst hm
    obtain ⟨av, cv, rfl, hc⟩ := own_form hown
    refine wpList_append_nothing7 hgd s x t ho e i ht hi av n cv hs hc _ hx (src_none ht ax cx) ?_
    refine h av cv w ?_ (grown_self w _)
    rw [rowCells_zero, List.append_nil, Nat.add_zero]
    exact hown
  · obtain ⟨b, off, rfl, hA⟩ := hx3 hm
    refine wpList_append_own w hgd s x t ho base e i z size bytes ht hi hz hsize hby hzs hsz v n xs hs hown ⟨b, off, none⟩ m cx (rowCells size g m) hx (rowCells_len _ _ _) (at_newsC hsz hA) (row_cells_one hsz h1) h63 hbytes hbase ?_
    intro v' w' hown' hgr _
    obtain ⟨av, cv, rfl, _⟩ := own_form hown'
    exact h _ _ _ hown' hgr
end

end Go.Proofs.YtdpmpmaepjgndaaGreat
namespace Go.Proofs.YtdpmpmaepjgndaaGreat
open Go.RowKit
set_option linter.unusedVariables false
set_option linter.unusedSimpArgs false
set_option maxRecDepth 100000

def slG (l : List Slt) : Nat → Nat → Value := fun i j => if j = 0 then .bool (slA l i).is else if j = 1 then .bool (slA l i).fr else .string (slA l i).b
theorem slG_one (l : List Slt) (i j : Nat) : (slG l i j).oneCell' = true := by
  unfold slG; split
  · rfl
  · split <;> rfl
/-- a list of logical pages in a row of its own, from base on -/
def SRow (base : Nat) (l : List Slt) (v : Value) (u : World) : Prop :=
  (l.length = 0 ∧ ∃ a c, v = .slice a 0 c ∧ c ≤ 9223372036854775807 ∧ ∀ p, a = some p → base ≤ p.block ∧ p.block < u.heap.size) ∨
  (0 < l.length ∧ ∃ b c, v = .slice (some ⟨b, 0, none⟩) l.length c ∧ base ≤ b ∧ RowB 92 3 b (slG l) l.length v u)
section
variable {base : Nat} {l : List Slt} {v : Value} {u u2 : World}
theorem SRow.below (h : SRow base l v u) (k : Below u.heap.size u u2) : SRow base l v u2 := by
  rcases h with h | ⟨h0, b, c, e, hb, hr⟩
  · exact .inl (zrow_up h k.size)
  · exact .inr ⟨h0, b, c, e, hb, hr.kept (k.block _ hr.lt)⟩
theorem SRow.kept (h : SRow base l v u) (S : Nat → Bool) (hS : ∀ b, v.ownBlock = some b → S b = false) (k : KpS S u u2) : SRow base l v u2 := by
  rcases h with h | ⟨h0, b, c, e, hb, hr⟩
  · exact .inl (zrow_up h k.size)
  · exact .inr ⟨h0, b, c, e, hb, hr.kept (k.blk hr.lt (hS b (by rw [e]; rfl)))⟩
theorem SRow.mono {base2 : Nat} (h : SRow base l v u) (hb : base2 ≤ base) : SRow base2 l v u := by
  rcases h with ⟨hr, a, c, e1, hc, hp⟩ | ⟨h0, b, c, e1, h1, hr⟩
  · exact .inl ⟨hr, a, c, e1, hc, fun p h1 => ⟨Nat.le_trans hb (hp p h1).1, (hp p h1).2⟩⟩
  · exact .inr ⟨h0, b, c, e1, Nat.le_trans hb h1, hr⟩
theorem SRow.of {xs : List Value} (h : u.ownsRow base 92 3 v l.length xs) (hx : xs = rowCells 3 (slG l) l.length) : SRow base l v u := by
  subst hx
  by_cases h0 : l.length = 0
  · rw [h0] at h
    rcases h.2 with ⟨e, _⟩ | ⟨g, cap, cur, e, hb, hg, _, hm, _⟩
    · exact .inl ⟨h0, _, _, e, by omega, fun p hp => by cases hp⟩
    · exact .inl ⟨h0, _, _, e, by unfold maxLen at hm; omega, fun p hp => by
        simp only [Option.some.injEq] at hp
        subst hp
        exact ⟨hb, lt_of_block hg⟩⟩
  · obtain ⟨b, hb, hv, hr⟩ := RowB.of h (by omega)
    obtain ⟨c, e, _⟩ := hr.v
    exact .inr ⟨by omega, b, c, e, hb, hr⟩
theorem SRow.sl (h : SRow base l v u) : Sl 3 (slG l) l.length v u := by
  rcases h with ⟨h0, a, c, rfl, hc, _⟩ | ⟨h0, b, c, rfl, hb, hr⟩
  · rw [h0]; exact ⟨a, c, rfl, Nat.zero_le _, hc, fun h => absurd h (Nat.lt_irrefl 0)⟩
  · obtain ⟨c2, e, h1, h2⟩ := hr.v
    exact ⟨_, _, e, h1, h2, fun _ => ⟨b, 0, rfl, hr.lt, fun i hi j hj => by rw [Nat.zero_add]; exact hr.c i hi j hj⟩⟩
theorem SRow.form (h : SRow base l v u) : ∃ a c, v = .slice a l.length c := by
  rcases h with ⟨h0, a, c, rfl, _⟩ | ⟨_, b, c, rfl, _⟩
  · exact ⟨a, c, by rw [h0]⟩
  · exact ⟨_, _, rfl⟩
theorem SRow.lo (h : SRow base l v u) : ∀ b, v.ownBlock = some b → base ≤ b ∧ b < u.heap.size := by
  intro k hv
  rcases h with ⟨_, a, c, rfl, _, hp⟩ | ⟨_, b, c, rfl, hb, hr⟩
  · cases a with
    | none => cases hv
    | some p =>
      simp only [Value.ownBlock, Option.some.injEq] at hv
      subst hv
      exact hp p rfl
  · simp only [Value.ownBlock, Option.some.injEq] at hv
    subst hv
    exact ⟨hb, hr.lt⟩
/-- the i-th: its three cells -/
theorem SRow.look {a : Option Addr} {c i n : Nat} (h : SRow base l (.slice a n c) u) (hi : i < l.length) : n = l.length ∧ ∃ b, a = some ⟨b, 0, none⟩ ∧ b < u.heap.size ∧ u.cell? ⟨b, i * 3, none⟩ = some (.bool (slA l i).is) ∧ u.cell? ⟨b, i * 3 + 1, none⟩ = some (.bool (slA l i).fr) ∧ u.cell? ⟨b, i * 3 + 2, none⟩ = some (.string (slA l i).b) := by
  rcases h with ⟨h0, _⟩ | ⟨h0, b, c2, e, h1, hr⟩
  · omega
  · simp only [Value.slice.injEq] at e
    obtain ⟨rfl, rfl, rfl⟩ := e
    have r0 := hr.c i hi 0 (by omega)
    have r1 := hr.c i hi 1 (by omega)
    have r2 := hr.c i hi 2 (by omega)
    rw [Nat.add_zero] at r0
    exact ⟨rfl, b, rfl, hr.lt, r0, r1, r2⟩
end
/-- the document's store in block Q -/
structure RSh (base Q : Nat) (x : Stt) (u : World) : Prop where
  box : ∃ v1 v2, u.heap[Q]? = some (.cells #[.int .i64 x.many, v1, v2, .int .i64 x.ep, .bool false] 58 (0, 0)) ∧ SRow base x.now v1 u ∧ SRow base x.old v2 u ∧ v1.ownBlock ≠ some Q ∧ v2.ownBlock ≠ some Q
  lo : base ≤ Q
def Q1 (Q : Nat) : Nat → Bool := fun k => k == Q
theorem Q1.a (Q : Nat) : Q1 Q Q = true := by simp [Q1]
theorem Q1.no {Q k : Nat} (h : k ≠ Q) : Q1 Q k = false := by simp [Q1, h]
section
variable {base Q : Nat} {x x2 : Stt} {u u2 : World} {S : Nat → Bool}
theorem RSh.lt (h : RSh base Q x u) : Q < u.heap.size := by
  obtain ⟨_, _, e, _⟩ := h.box
  exact lt_of_block e
theorem RSh.below (h : RSh base Q x u) (k : Below u.heap.size u u2) : RSh base Q x u2 := by
  obtain ⟨v1, v2, e, h1, h2, n1, n2⟩ := h.box
  exact ⟨⟨v1, v2, (k.block _ (lt_of_block e)).trans e, h1.below k, h2.below k, n1, n2⟩, h.lo⟩
theorem RSh.mono {base2 : Nat} (h : RSh base Q x u) (hb : base2 ≤ base) : RSh base2 Q x u := by
  obtain ⟨v1, v2, e, h1, h2, n1, n2⟩ := h.box
  exact ⟨⟨v1, v2, e, h1.mono hb, h2.mono hb, n1, n2⟩, Nat.le_trans hb h.lo⟩
/-- the store's own blocks -/
def Rs (Q : Nat) (u : World) (k : Nat) : Prop := k = Q ∨ ∃ m v1 v2 e b, u.heap[Q]? = some (.cells #[m, v1, v2, e, b] 58 (0, 0)) ∧ (v1.ownBlock = some k ∨ v2.ownBlock = some k)
theorem RSh.rlt (h : RSh base Q x u) {k : Nat} (hk : Rs Q u k) : base ≤ k ∧ k < u.heap.size := by
  obtain ⟨v1, v2, e, h1, h2, _, _⟩ := h.box
  rcases hk with rfl | ⟨m, w1, w2, ep, b, e2, hv⟩
  · exact ⟨h.lo, lt_of_block e⟩
  · rw [e] at e2
    simp only [Option.some.injEq, Obj.cells.injEq, and_true, true_and] at e2
    have e3 : v1 = w1 ∧ v2 = w2 := by simpa using ⟨(by injection e2 with e2; injection e2 with _ e2; injection e2 : v1 = w1), (by injection e2 with e2; injection e2 with _ e2; injection e2 with _ e2; injection e2 : v2 = w2)⟩
    obtain ⟨rfl, rfl⟩ := e3
    rcases hv with hv | hv
    · exact h1.lo k hv
    · exact h2.lo k hv
/-- what is done elsewhere leaves it -/
theorem RSh.kept (h : RSh base Q x u) (hS : ∀ k, Rs Q u k → S k = false) (k : KpS S u u2) : RSh base Q x u2 ∧ ∀ j, Rs Q u2 j → Rs Q u j := by
  obtain ⟨v1, v2, e, h1, h2, n1, n2⟩ := h.box
  have eq := k.blk (lt_of_block e) (hS Q (.inl rfl))
  refine ⟨⟨⟨v1, v2, eq.trans e, h1.kept S (fun b hb => hS b (.inr ⟨_, _, _, _, _, e, .inl hb⟩)) k, h2.kept S (fun b hb => hS b (.inr ⟨_, _, _, _, _, e, .inr hb⟩)) k, n1, n2⟩, h.lo⟩, fun j hj => ?_⟩
  rcases hj with rfl | ⟨m, w1, w2, ep, b, e2, hv⟩
  · exact .inl rfl
  · exact .inr ⟨m, w1, w2, ep, b, by rw [← eq]; exact e2, hv⟩
end

end Go.Proofs.YtdpmpmaepjgndaaGreat
