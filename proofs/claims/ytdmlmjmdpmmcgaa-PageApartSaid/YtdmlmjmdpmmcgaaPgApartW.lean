/- The walk of the law PageApart. -/
import Derived.Test.YtdmlmjmdpmmcgaaPgLaw0
import Derived.Test.YtdmlmjmdpmmcgaaTakeQ
namespace Go.Proofs.Ytdmlmjmdpmmcgaa
open Go.RowKit Go.Deep
set_option linter.unusedVariables false
set_option linter.unusedSimpArgs false
set_option maxRecDepth 100000

theorem full_pad {s : ByteArray} (h : s.size ≤ 232) : fullP s = padN s 232 := if_pos h
set_option maxHeartbeats 6400000 in
theorem pageApart_walk (ia ea ka : Int) (pa : ByteArray) (ib eb kb : Int) (pb : ByteArray) (W : World) (h0 : (Lit.int .i64 ia).wf = true) (h1 : (Lit.int .i64 ea).wf = true) (h2 : (Lit.int .i64 ka).wf = true) (h3 : pa.size ≤ maxLen) (h4 : (Lit.int .i64 ib).wf = true) (h5 : (Lit.int .i64 eb).wf = true) (h6 : (Lit.int .i64 kb).wf = true) (h7 : pb.size ≤ maxLen) :
    Calls Try.prog 7 #[.agg #[.int .i64 ia, .int .i64 ea, .int .i64 ka, .string pa], .agg #[.int .i64 ib, .int .i64 eb, .int .i64 kb, .string pb]] W fun e w' => e = .returned (.bool true) ∧ Below W.heap.size W w' := by
  have HW := Lib.hid (fun w => awake11_any w)
  have hpa : pa.size ≤ 9223372036854775807 := by unfold maxLen at h3; omega
  have hpb : pb.size ≤ 9223372036854775807 := by unfold maxLen at h7; omega
  clear h0 h1 h2 h3 h4 h5 h6 h7
  have HN := Lib.hid (fun w => pnew_any 50 (by omega) (by omega) w)
  obtain ⟨d1, hd1⟩ : ∃ d, d = (writeP (newD 50) ⟨3, ea, ka, pa⟩).1 := ⟨_, rfl⟩
  obtain ⟨r1, hr1⟩ : ∃ r, r = (writeP (newD 50) ⟨3, ea, ka, pa⟩).2 := ⟨_, rfl⟩
  obtain ⟨d2, hd2⟩ : ∃ d, d = (writeP d1 ⟨7, eb, kb, pb⟩).1 := ⟨_, rfl⟩
  obtain ⟨r2, hr2⟩ : ∃ r, r = (writeP d1 ⟨7, eb, kb, pb⟩).2 := ⟨_, rfl⟩
  have n1 : d1.n = 50 := by rw [hd1, writeP_n]; rfl
  have n2 : d2.n = 50 := by rw [hd2, writeP_n]; exact n1
  have b1 := writeP_bd (newD 50) ⟨3, ea, ka, pa⟩
  rw [← hd1] at b1
  have b1c : d1.calls < 900000 := by have := b1.1; have e : (newD 50).calls = 0 := rfl; omega
  have b1a : d1.arm ≤ 9223372036854775807 := by have := b1.2; have e : (newD 50).arm = 0 := rfl; omega
  have HW1 := Lib.hid (fun (base P bS bm cS : Nat) (u : World) (h : PDk base P bS bm cS (newD 50) u) => ppwrite_any h (by decide) (by decide) (by decide) ⟨3, ea, ka, pa⟩ hpa)
  have HW2 := Lib.hid (fun (base P bS bm cS : Nat) (u : World) (h : PDk base P bS bm cS d1 u) => ppwrite_any h (by omega) b1c b1a ⟨7, eb, kb, pb⟩ hpb)
  rw [← hr1, ← hd1] at HW1
  rw [← hr2, ← hd2] at HW2
  have HR3 := Lib.hid (fun (base P bS bm cS : Nat) (u : World) (h : PDk base P bS bm cS d2 u) => ppread_any h (by omega) 3)
  have HR7 := Lib.hid (fun (base P bS bm cS : Nat) (u : World) (h : PDk base P bS bm cS d2 u) => ppread_any h (by omega) 7)
  have TP : Hid (RightP ⟨3, ea, ka, pa⟩ → pa.size ≤ 232 → RightP ⟨7, eb, kb, pb⟩ → pb.size ≤ 232 → r1 = 0 ∧ r2 = 0 ∧ readRet d2 3 = .returned (.tuple #[.agg #[.int .i64 3, .int .i64 ea, .int .i64 ka, .string (fullP pa)], .int .i64 0]) ∧ readRet d2 7 = .returned (.tuple #[.agg #[.int .i64 7, .int .i64 eb, .int .i64 kb, .string (fullP pb)], .int .i64 0])) := Lib.hid (fun ha hsa hb hsb => by
    have t := two_pages (d := newD 50) (p := ⟨3, ea, ka, pa⟩) (q := ⟨7, eb, kb, pb⟩) rfl rfl (putE_zero.2 ⟨ha, hsa⟩) (putE_zero.2 ⟨hb, hsb⟩) (show (3 : Int) < manyP ((50 : Nat) : Int) by decide) (show (7 : Int) < manyP ((50 : Nat) : Int) by decide) (show (3 : Int) ≤ 9223372036854775807 by decide) (show (7 : Int) ≤ 9223372036854775807 by decide) (show (3 : Int) ≠ 7 by decide)
    dsimp only at t
    rw [← hr1, ← hd1, ← hr2, ← hd2] at t
    obtain ⟨t1, t2, t3, t4, t5, t6⟩ := t
    refine ⟨t1, t2, ?_, ?_⟩
    · unfold readRet; rw [t3, t5, full_pad hsa]; rfl
    · unfold readRet; rw [t4, t6, full_pad hsb]; rfl)
  have HRA := Lib.hid (fun w => rright_any ⟨3, ea, ka, pa⟩ w)
  have HRB := Lib.hid (fun w => rright_any ⟨7, eb, kb, pb⟩ w)
  unfold pgV at HW1 HW2 HRA HRB
  dsimp only at HW1 HW2 HRA HRB
  obtain ⟨ba, hba⟩ : ∃ b, b = rightB ⟨3, ea, ka, pa⟩ := ⟨_, rfl⟩
  obtain ⟨bb, hbb⟩ : ∃ b, b = rightB ⟨7, eb, kb, pb⟩ := ⟨_, rfl⟩
  rw [← hba] at HRA
  rw [← hbb] at HRB
  have HBA := Lib.hid (fun h : ba = true => rightB_true (hba.symm.trans h))
  have HBB := Lib.hid (fun h : bb = true => rightB_true (hbb.symm.trans h))
  clear hba hbb hr1 hr2 hd1 hd2 n1 n2 b1 b1c b1a
  have HFA := Lib.hid (fun w (h : pa.size ≤ 232) => rfull_any pa (by omega) w)
  have HFB := Lib.hid (fun w (h : pb.size ≤ 232) => rfull_any pb (by omega) w)
  have A1 := heap_alloc_new W (.cells #[.int .i64 ia, .int .i64 ea, .int .i64 ka, .string pa] 23)
  have A2 := heap_stays A1 (balloc (W.alloc (.cells #[.int .i64 ia, .int .i64 ea, .int .i64 ka, .string pa] 23)) (.cells #[.int .i64 ib, .int .i64 eb, .int .i64 kb, .string pb] 23))
  have A3 := heap_alloc_new (W.alloc (.cells #[.int .i64 ia, .int .i64 ea, .int .i64 ka, .string pa] 23)) (.cells #[.int .i64 ib, .int .i64 eb, .int .i64 kb, .string pb] 23)
  have AB := Lib.hid (bthen (balloc W (.cells #[.int .i64 ia, .int .i64 ea, .int .i64 ka, .string pa] 23)) (balloc (W.alloc (.cells #[.int .i64 ia, .int .i64 ea, .int .i64 ka, .string pa] 23)) (.cells #[.int .i64 ib, .int .i64 eb, .int .i64 kb, .string pb] 23)))
  rw [World.size_alloc] at A3
  obtain ⟨C, hC⟩ : ∃ C, C = W.heap.size := ⟨_, rfl⟩
  obtain ⟨E, hE⟩ : ∃ E, E = W.heap.size + 1 := ⟨_, rfl⟩
  have HC : Hid (W.heap.size ≤ C) := Lib.hid (by omega)
  have HE : Hid (W.heap.size ≤ E) := Lib.hid (by omega)
  have NE : Hid (C ≠ E) := Lib.hid (by omega)
  rw [← hC] at A2
  rw [← hE] at A3
  have X1 := Lib.hid A2
  have Y1 := Lib.hid A3
  clear A1 A2 A3
  go_enter Try.func7, Try.ntmps7
  go_upto_region 1 with fail
  rw [← hC]
  try rw [← hE]
  generalize (W.alloc (.cells #[.int .i64 ia, .int .i64 ea, .int .i64 ka, .string pa] 23)).alloc (.cells #[.int .i64 ib, .int .i64 eb, .int .i64 kb, .string pb] 23) = w1 at *
  have hE2 : C + 1 = E := by omega
  try rw [hE2]
  clear hC hE hE2
  go_wp2_with fail
  refine (HN.out _).mono ?_
  rintro e w2 ⟨P, bS, bm, cS, rfl, p2, k2⟩
  have X2 := Lib.hid (heap_stays X1.out k2)
  have Y2 := Lib.hid (heap_stays Y1.out k2)
  have B2 := Lib.hid (bthen AB.out k2)
  have S1 : Hid (C < w1.heap.size ∧ E < w1.heap.size) := Lib.hid ⟨heap_lt X1.out, heap_lt Y1.out⟩
  have LO := p2.lo
  have NC : Hid (P3 P bS bm C = false) := Lib.hid (P3.no (by have := S1.out; omega) (by have := S1.out; omega) (by have := S1.out; omega))
  have NEe : Hid (P3 P bS bm E = false) := Lib.hid (P3.no (by have := S1.out; omega) (by have := S1.out; omega) (by have := S1.out; omega))
  have NPC : Hid (P ≠ C ∧ bS ≠ C ∧ bm ≠ C ∧ P ≠ E ∧ bS ≠ E ∧ bm ≠ E) := Lib.hid (by have := S1.out; omega)
  have P2 := Lib.hid p2
  have GE : Hid (W.heap.size ≤ w1.heap.size) := Lib.hid AB.out.size
  clear p2 k2 LO S1 HN
  obtain ⟨x0, x1, x2, x3⟩ := four_cells X2.out
  obtain ⟨y0, y1, y2, y3⟩ := four_cells Y2.out
  have xf := Lib.frozen_of_heap X2.out 0
  have yf := Lib.frozen_of_heap Y2.out 0
  have X3 : Hid ((((w2.setCell ⟨C, 0, none⟩ (.int .i64 3)).setCell ⟨E, 0, none⟩ (.int .i64 7))).heap[C]? = some (.cells #[.int .i64 3, .int .i64 ea, .int .i64 ka, .string pa] 23 (0, 0))) := Lib.hid ((set_else (P := E) (o := 0) (w := w2.setCell ⟨C, 0, none⟩ (.int .i64 3)) (.int .i64 7) NE.out).trans (Joins.block_setCell (i := 0) X2.out _))
  have Y3 : Hid ((((w2.setCell ⟨C, 0, none⟩ (.int .i64 3)).setCell ⟨E, 0, none⟩ (.int .i64 7))).heap[E]? = some (.cells #[.int .i64 7, .int .i64 eb, .int .i64 kb, .string pb] 23 (0, 0))) := Lib.hid (Joins.block_setCell (i := 0) ((set_else (P := C) (o := 0) (w := w2) (.int .i64 3) NE.out.symm).trans Y2.out) _)
  have B3 : Hid (Below W.heap.size W ((w2.setCell ⟨C, 0, none⟩ (.int .i64 3)).setCell ⟨E, 0, none⟩ (.int .i64 7))) := Lib.hid (B2.out.trans (((Below.refl _ _).setCell (p := ⟨C, 0, none⟩) HC.out (.int .i64 3)).setCell (p := ⟨E, 0, none⟩) HE.out (.int .i64 7)))
  have D3 : Hid (PDk w1.heap.size P bS bm cS (newD 50) ((w2.setCell ⟨C, 0, none⟩ (.int .i64 3)).setCell ⟨E, 0, none⟩ (.int .i64 7))) := Lib.hid (P2.out.kept ((set_else _ NPC.out.2.2.2.1).trans (set_else _ NPC.out.1)) ((set_else _ NPC.out.2.2.2.2.1).trans (set_else _ NPC.out.2.1)) ((set_else _ NPC.out.2.2.2.2.2).trans (set_else _ NPC.out.2.2.1)))
  have YM := (set_else (P := C) (o := 0) (w := w2) (.int .i64 3) NE.out.symm).trans Y2.out
  obtain ⟨ym0, ym1, ym2, ym3⟩ := four_cells YM
  have ymf := Lib.frozen_of_heap YM 0
  clear YM
  go_upto_region 4 with fail
  clear ym0 ym1 ym2 ym3 ymf
  generalize (w2.setCell ⟨C, 0, none⟩ (.int .i64 3)).setCell ⟨E, 0, none⟩ (.int .i64 7) = w3 at *
  clear x0 x1 x2 x3 y0 y1 y2 y3 xf yf X2 Y2 X1 Y1 P2
  obtain ⟨x0, x1, x2, x3⟩ := four_cells X3.out
  obtain ⟨y0, y1, y2, y3⟩ := four_cells Y3.out
  go_wp2_with fail
  refine (HW1.out _ _ _ _ _ _ D3.out).mono ?_
  rintro e w4 ⟨rfl, p4, k4⟩
  have D4 := Lib.hid p4
  have X4 := Lib.hid ((k4.blk (heap_lt X3.out) NC.out).trans X3.out)
  have Y4 := Lib.hid ((k4.blk (heap_lt Y3.out) NEe.out).trans Y3.out)
  have B4 := Lib.hid (B3.out.trans ((D3.out.mono GE.out).bot k4 B3.out.size))
  clear p4 k4
  clear x0 x1 x2 x3 y0 y1 y2 y3
  obtain ⟨x0, x1, x2, x3⟩ := four_cells X4.out
  obtain ⟨y0, y1, y2, y3⟩ := four_cells Y4.out
  go_wp2_with fail
  refine (HW2.out _ _ _ _ _ _ D4.out).mono ?_
  rintro e w5 ⟨rfl, p5, k5⟩
  have D5 := Lib.hid p5
  have X5 := Lib.hid ((k5.blk (heap_lt X4.out) NC.out).trans X4.out)
  have Y5 := Lib.hid ((k5.blk (heap_lt Y4.out) NEe.out).trans Y4.out)
  have B5 := Lib.hid (B4.out.trans ((D4.out.mono GE.out).bot k5 B4.out.size))
  clear p5 k5
  clear x0 x1 x2 x3 y0 y1 y2 y3
  obtain ⟨x0, x1, x2, x3⟩ := four_cells X5.out
  obtain ⟨y0, y1, y2, y3⟩ := four_cells Y5.out
  by_cases za : 232 < pa.size
  · have dz : decide ((232 : Int) < (pa.size : Int)) = true := by simp; omega
    have dz2 : decide (232 < pa.size) = true := by simp; omega
    clear za
    go_wp2_with fail
    refine (HW.out _).mono ?_
    rintro e w12 ⟨rfl, hb⟩
    have BZ := Lib.hid (bthen B5.out hb)
    clear hb
    go_wp2_with fail
    go_ret
    exact ⟨rfl, BZ.out⟩
  · have dz : decide ((232 : Int) < (pa.size : Int)) = false := by simp; omega
    have dz2 : decide (232 < pa.size) = false := by simp; omega
    have ZA : Hid (pa.size ≤ 232) := Lib.hid (by omega)
    clear za
    cases ba with
    | false =>
      go_wp2_with fail
      refine (HRA.out _).mono ?_
      rintro e w6 ⟨rfl, hb⟩
      have B6 := Lib.hid (bthen B5.out hb)
      clear hb
      go_wp2_with fail
      refine (HW.out _).mono ?_
      rintro e w12 ⟨rfl, hb⟩
      have BZ := Lib.hid (bthen B6.out hb)
      clear hb
      go_wp2_with fail
      go_ret
      exact ⟨rfl, BZ.out⟩
    | true =>
      go_wp2_with fail
      refine (HRA.out _).mono ?_
      rintro e w6 ⟨rfl, hb⟩
      have X6 := Lib.hid (heap_stays X5.out hb)
      have Y6 := Lib.hid (heap_stays Y5.out hb)
      have D6 := Lib.hid (D5.out.below hb)
      have B6 := Lib.hid (bthen B5.out hb)
      clear hb
      clear x0 x1 x2 x3 y0 y1 y2 y3
      obtain ⟨x0, x1, x2, x3⟩ := four_cells X6.out
      obtain ⟨y0, y1, y2, y3⟩ := four_cells Y6.out
      by_cases zb : 232 < pb.size
      · have ez : decide ((232 : Int) < (pb.size : Int)) = true := by simp; omega
        have ez2 : decide (232 < pb.size) = true := by simp; omega
        clear zb
        go_wp2_with fail
        refine (HW.out _).mono ?_
        rintro e w12 ⟨rfl, hb⟩
        have BZ := Lib.hid (bthen B6.out hb)
        clear hb
        go_wp2_with fail
        go_ret
        exact ⟨rfl, BZ.out⟩
      · have ez : decide ((232 : Int) < (pb.size : Int)) = false := by simp; omega
        have ez2 : decide (232 < pb.size) = false := by simp; omega
        have ZB : Hid (pb.size ≤ 232) := Lib.hid (by omega)
        clear zb
        cases bb with
        | false =>
          go_wp2_with fail
          refine (HRB.out _).mono ?_
          rintro e w7 ⟨rfl, hb⟩
          have B7 := Lib.hid (bthen B6.out hb)
          clear hb
          go_wp2_with fail
          refine (HW.out _).mono ?_
          rintro e w12 ⟨rfl, hb⟩
          have BZ := Lib.hid (bthen B7.out hb)
          clear hb
          go_wp2_with fail
          go_ret
          exact ⟨rfl, BZ.out⟩
        | true =>
          obtain ⟨t1, t2, t3, t4⟩ := TP.out (HBA.out (by trivial)) ZA.out (HBB.out (by trivial)) ZB.out
          rw [t3] at HR3
          rw [t4] at HR7
          subst t1 t2
          have GFA := Lib.hid (fun w => HFA.out w ZA.out)
          have GFB := Lib.hid (fun w => HFB.out w ZB.out)
          generalize fullP pa = fa at *
          generalize fullP pb = fb at *
          clear t3 t4 TP HFA HFB HBA HBB
          go_wp2_with fail
          refine (HRB.out _).mono ?_
          rintro e w7 ⟨rfl, hb⟩
          have X7 := Lib.hid (heap_stays X6.out hb)
          have Y7 := Lib.hid (heap_stays Y6.out hb)
          have D7 := Lib.hid (D6.out.below hb)
          have B7 := Lib.hid (bthen B6.out hb)
          clear hb
          clear x0 x1 x2 x3 y0 y1 y2 y3
          go_wp2_with fail
          refine (HR3.out _ _ _ _ _ _ D7.out).mono ?_
          rintro e w8 ⟨rfl, hb⟩
          have Z9 := Lib.hid (heap_alloc_new w8 (.cells #[.int .i64 3, .int .i64 ea, .int .i64 ka, .string fa] 23))
          have X9 := Lib.hid (heap_stays (heap_stays X7.out hb) (balloc w8 (.cells #[.int .i64 3, .int .i64 ea, .int .i64 ka, .string fa] 23)))
          have Y9 := Lib.hid (heap_stays (heap_stays Y7.out hb) (balloc w8 (.cells #[.int .i64 3, .int .i64 ea, .int .i64 ka, .string fa] 23)))
          have D9 := Lib.hid ((D7.out.below hb).below (balloc w8 (.cells #[.int .i64 3, .int .i64 ea, .int .i64 ka, .string fa] 23)))
          have B9 := Lib.hid (bthen (bthen B7.out hb) (balloc w8 (.cells #[.int .i64 3, .int .i64 ea, .int .i64 ka, .string fa] 23)))
          obtain ⟨F, hF⟩ : ∃ F, F = w8.heap.size := ⟨_, rfl⟩
          rw [← hF] at Z9
          clear hb
          go_upto_region 9 with fail
          rw [← hF]
          generalize w8.alloc (.cells #[.int .i64 3, .int .i64 ea, .int .i64 ka, .string fa] 23) = w9 at *
          clear hF
          go_wp2_with fail
          refine (HR7.out _ _ _ _ _ _ D9.out).mono ?_
          rintro e w10 ⟨rfl, hb⟩
          have V11 := Lib.hid (heap_alloc_new w10 (.cells #[.int .i64 7, .int .i64 eb, .int .i64 kb, .string fb] 23))
          have Z11 := Lib.hid (heap_stays (heap_stays Z9.out hb) (balloc w10 (.cells #[.int .i64 7, .int .i64 eb, .int .i64 kb, .string fb] 23)))
          have X11 := Lib.hid (heap_stays (heap_stays X9.out hb) (balloc w10 (.cells #[.int .i64 7, .int .i64 eb, .int .i64 kb, .string fb] 23)))
          have Y11 := Lib.hid (heap_stays (heap_stays Y9.out hb) (balloc w10 (.cells #[.int .i64 7, .int .i64 eb, .int .i64 kb, .string fb] 23)))
          have B11 := Lib.hid (bthen (bthen B9.out hb) (balloc w10 (.cells #[.int .i64 7, .int .i64 eb, .int .i64 kb, .string fb] 23)))
          obtain ⟨G, hG⟩ : ∃ G, G = w10.heap.size := ⟨_, rfl⟩
          rw [← hG] at V11
          clear hb
          go_upto_region 10 with fail
          rw [← hG]
          generalize w10.alloc (.cells #[.int .i64 7, .int .i64 eb, .int .i64 kb, .string fb] 23) = w11 at *
          clear hG
          have HS : Hid (∀ w : World, w.heap[C]? = some (.cells #[.int .i64 3, .int .i64 ea, .int .i64 ka, .string pa] 23 (0, 0)) → w.heap[E]? = some (.cells #[.int .i64 7, .int .i64 eb, .int .i64 kb, .string pb] 23 (0, 0)) → w.heap[F]? = some (.cells #[.int .i64 3, .int .i64 ea, .int .i64 ka, .string fa] 23 (0, 0)) → w.heap[G]? = some (.cells #[.int .i64 7, .int .i64 eb, .int .i64 kb, .string fb] 23 (0, 0)) → (w.cell? ⟨C, 3, none⟩ = some (.string pa) ∧ w.cell? ⟨E, 3, none⟩ = some (.string pb) ∧ w.cell? ⟨F, 3, none⟩ = some (.string fa) ∧ w.cell? ⟨G, 3, none⟩ = some (.string fb))) := Lib.hid (fun w q1 q2 q3 q4 => ⟨(four_cells q1).2.2.2, (four_cells q2).2.2.2, (four_cells q3).2.2.2, (four_cells q4).2.2.2⟩)
          refine wp_region_held_drew (S := (fun w' => w'.cell? ⟨C, 3, none⟩ = some (.string pa) ∧ w'.cell? ⟨E, 3, none⟩ = some (.string pb) ∧ w'.cell? ⟨F, 3, none⟩ = some (.string fa) ∧ w'.cell? ⟨G, 3, none⟩ = some (.string fb))) (by kernel_rfl) ?_ (fun hHeld => ?_)
          · exact HS.out _ (heap_stays X11.out (bdrew w11)) (heap_stays Y11.out (bdrew w11)) (heap_stays Z11.out (bdrew w11)) (heap_stays V11.out (bdrew w11))
          have X12 := Lib.hid (heap_stays X11.out (bdrew w11))
          have Y12 := Lib.hid (heap_stays Y11.out (bdrew w11))
          have Z12 := Lib.hid (heap_stays Z11.out (bdrew w11))
          have V12 := Lib.hid (heap_stays V11.out (bdrew w11))
          have B12 := Lib.hid (bthen B11.out (bdrew w11))
          change wpAnyH _ _ _ _ _ _ _ _ (World.drew w11)
          generalize World.drew w11 = w12 at *
          refine wpAnyH_ready (rs := [0]) (by kernel_rfl) (by simp) ?_
          refine AllReadyH.cons (o := ⟨_, _, _, _, _, _⟩) rfl (fun K hK => ?_) AllReadyH.nil
          go_simp
          refine (HW.out _).mono ?_
          rintro e w13 ⟨rfl, hb⟩
          have X13 := Lib.hid (heap_stays X12.out hb)
          have Y13 := Lib.hid (heap_stays Y12.out hb)
          have Z13 := Lib.hid (heap_stays Z12.out hb)
          have V13 := Lib.hid (heap_stays V12.out hb)
          have B13 := Lib.hid (bthen B12.out hb)
          refine hK.out _ _ ?_ (fun hHeld => ?_)
          · exact HS.out _ X13.out Y13.out Z13.out V13.out
          clear hK K hb
          try simp only [Act.put, List.setIfInBounds_toArray, List.set_cons_zero, List.set_cons_succ]
          first | refine tq0 1 rfl ?_ | refine tq1 1 rfl ?_
          try go_frame
          first | refine tq0 2 rfl ?_ | refine tq1 2 rfl ?_
          try go_frame
          first | refine tq0 3 rfl ?_ | refine tq1 3 rfl ?_
          try go_frame
          first | refine tq0 4 rfl ?_ | refine tq1 4 rfl ?_
          try go_frame
          first | refine tq0 5 rfl ?_ | refine tq1 5 rfl ?_
          try go_frame
          first | refine tq0 6 rfl ?_ | refine tq1 6 rfl ?_
          try go_frame
          first | refine tq0 7 rfl ?_ | refine tq1 7 rfl ?_
          try go_frame
          first | refine tq0 8 rfl ?_ | refine tq1 8 rfl ?_
          try go_frame
          first | refine tq0 9 rfl ?_ | refine tq1 9 rfl ?_
          try go_frame
          first | refine tq0 10 rfl ?_ | refine tq1 10 rfl ?_
          try go_frame
          first | refine tq0 11 rfl ?_ | refine tq1 11 rfl ?_
          try go_frame
          first | refine tq0 12 rfl ?_ | refine tq1 12 rfl ?_
          try go_frame
          first | refine tq0 13 rfl ?_ | refine tq1 13 rfl ?_
          try go_frame
          first | refine tq0 14 rfl ?_ | refine tq1 14 rfl ?_
          try go_frame
          first | refine tq0 15 rfl ?_ | refine tq1 15 rfl ?_
          try go_frame
          first | refine tq0 16 rfl ?_ | refine tq1 16 rfl ?_
          try go_frame
          first | refine tq0 17 rfl ?_ | refine tq1 17 rfl ?_
          try go_frame
          first | refine tq0 18 rfl ?_ | refine tq1 18 rfl ?_
          try go_frame
          first | refine tq0 19 rfl ?_ | refine tq1 19 rfl ?_
          try go_frame
          first | refine tq0 20 rfl ?_ | refine tq1 20 rfl ?_
          try go_frame
          first | refine tq0 21 rfl ?_ | refine tq1 21 rfl ?_
          try go_frame
          refine wpAnyH_ready (rs := [22]) (by kernel_rfl) (by simp) ?_
          refine AllReadyH.cons (o := ⟨_, _, _, _, _, _⟩) rfl (fun K hK => ?_) AllReadyH.nil
          go_simp
          refine (GFA.out _).mono ?_
          rintro e w14 ⟨rfl, hb⟩
          have X14 := Lib.hid (heap_stays X13.out hb)
          have Y14 := Lib.hid (heap_stays Y13.out hb)
          have Z14 := Lib.hid (heap_stays Z13.out hb)
          have V14 := Lib.hid (heap_stays V13.out hb)
          have B14 := Lib.hid (bthen B13.out hb)
          refine hK.out _ _ ?_ (fun hHeld => ?_)
          · exact HS.out _ X14.out Y14.out Z14.out V14.out
          clear hK K hb
          try simp only [Act.put, List.setIfInBounds_toArray, List.set_cons_zero, List.set_cons_succ]
          first | refine tq0 23 rfl ?_ | refine tq1 23 rfl ?_
          try go_frame
          first | refine tq0 24 rfl ?_ | refine tq1 24 rfl ?_
          try go_frame
          first | refine tq0 25 rfl ?_ | refine tq1 25 rfl ?_
          try go_frame
          first | refine tq0 26 rfl ?_ | refine tq1 26 rfl ?_
          try go_frame
          first | refine tq0 27 rfl ?_ | refine tq1 27 rfl ?_
          try go_frame
          first | refine tq0 28 rfl ?_ | refine tq1 28 rfl ?_
          try go_frame
          first | refine tq0 29 rfl ?_ | refine tq1 29 rfl ?_
          try go_frame
          refine wpAnyH_ready (rs := [30]) (by kernel_rfl) (by simp) ?_
          refine AllReadyH.cons (o := ⟨_, _, _, _, _, _⟩) rfl (fun K hK => ?_) AllReadyH.nil
          go_simp
          refine (GFB.out _).mono ?_
          rintro e w15 ⟨rfl, hb⟩
          have X15 := Lib.hid (heap_stays X14.out hb)
          have Y15 := Lib.hid (heap_stays Y14.out hb)
          have Z15 := Lib.hid (heap_stays Z14.out hb)
          have V15 := Lib.hid (heap_stays V14.out hb)
          have B15 := Lib.hid (bthen B14.out hb)
          refine hK.out _ _ ?_ (fun hHeld => ?_)
          · exact HS.out _ X15.out Y15.out Z15.out V15.out
          clear hK K hb
          try simp only [Act.put, List.setIfInBounds_toArray, List.set_cons_zero, List.set_cons_succ]
          first | refine tq0 31 rfl ?_ | refine tq1 31 rfl ?_
          try go_frame
          first | refine tq0 32 rfl ?_ | refine tq1 32 rfl ?_
          try go_frame
          first | refine tq0 33 rfl ?_ | refine tq1 33 rfl ?_
          try go_frame
          refine wpAnyH_done (by kernel_rfl) ?_ _
          go_wp2_with fail
          go_ret
          exact ⟨rfl, B15.out⟩

end Go.Proofs.Ytdmlmjmdpmmcgaa
