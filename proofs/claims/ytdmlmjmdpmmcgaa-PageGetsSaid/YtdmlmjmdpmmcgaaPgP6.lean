/- The contract of the program's Write. -/
import Derived.Test.YtdmlmjmdpmmcgaaPgP4
import Derived.Test.YtdmlmjmdpmmcgaaPgP2
import Derived.Test.YtdmlmjmdpmmcgaaDkP3
namespace Go.Proofs.Ytdmlmjmdpmmcgaa
open Go.RowKit Go.Deep
set_option linter.unusedVariables false
set_option linter.unusedSimpArgs false
set_option maxRecDepth 100000

theorem wr_stop {d : Dk} {s : ByteArray} {a : Int} {i : Nat} (h : (wrN d s a i).2 ≠ 0) : ∀ k, wrN d s a (i + k) = wrN d s a i
  | 0 => rfl
  | k + 1 => by
    have ih := wr_stop h k
    show wrN d s a ((i + k) + 1) = _
    simp only [wrN]
    rw [ih, if_neg h]
theorem wr_next {d : Dk} {s : ByteArray} {a : Int} {i : Nat} (h : (wrN d s a i).2 = 0) : wrN d s a (i + 1) = (writeD (wrN d s a i).1 (a + (i : Int)) (quart s i), writeE (wrN d s a i).1 (a + (i : Int))) := by
  simp only [wrN]
  rw [if_pos h]
theorem run_index_four (q : Nat → ByteArray) (j : Nat) (hj : j < 4) (w : World) : (Instr.index 77 (.agg #[.string (q 0), .string (q 1), .string (q 2), .string (q 3)]) (.int .i64 (j : Int))).run Try.prog w = .ok (.string (q j)) w := by
  have h1 : (0 : Int) ≤ (j : Int) ∧ (j : Int) < 4 := by omega
  rcases (by omega : j = 0 ∨ j = 1 ∨ j = 2 ∨ j = 3) with rfl | rfl | rfl | rfl <;>
    simp [Instr.index, run_underlying Try.underlying77, asIntOf, h1, go_sem]
variable {base P bS bm cS : Nat} {d : Dk} {u : World}
theorem bd_wr (hn : d.n ≤ 4096) (hc : d.calls < 900000) (ha : d.arm ≤ 9223372036854775807) (s : ByteArray) (a : Int) {i : Nat} (hi : i ≤ 4) : BdD (wrN d s a i).1 := by
  have h := wr_bd d s a i
  exact ⟨by rw [wr_n]; exact hn, by omega, by omega⟩
set_option maxHeartbeats 6400000 in
theorem ppwrite_any (h : PDk base P bS bm cS d u) (hn : d.n ≤ 4096) (hc : d.calls < 900000) (ha : d.arm ≤ 9223372036854775807) (p : Pg) (hp : p.pay.size ≤ 9223372036854775807) : Calls Try.prog 19 #[.pointer (some ⟨P, 0, none⟩), .agg (pgV p).toArray] u fun r u' => r = .returned (.int .i64 (writeP d p).2) ∧ PDk base P bS bm cS (writeP d p).1 u' ∧ KpS (P3 P bS bm) u u' := by
  have HPut := Lib.hid (fun w => pput_any p w hp)
  have HR := Lib.hid (fun hq : putE p = 0 => (putE_zero.1 hq).1)
  have HS := Lib.hid (fun hq : putE p = 0 => putS_size hq)
  have EW : Hid (writeP d p = if putE p = 0 then (if manyP d.n ≤ p.id then (d, 3) else wrN d (putS p) (2 + 4 * p.id) 4) else (d, putE p)) := Lib.hid rfl
  unfold putRet at HPut
  obtain ⟨id, ep, kd, pay⟩ := p
  obtain ⟨wp, hwp⟩ : ∃ x, x = writeP d ⟨id, ep, kd, pay⟩ := ⟨_, rfl⟩
  rw [← hwp] at EW ⊢
  generalize putS ⟨id, ep, kd, pay⟩ = s at *
  have HR0 : Hid (putE ⟨id, ep, kd, pay⟩ = 0 → 0 ≤ id) := Lib.hid (fun hq => (HR.out hq).1)
  generalize putE ⟨id, ep, kd, pay⟩ = pe at *
  clear hwp HR hp
  unfold pgV at HPut ⊢
  dsimp only at HPut EW ⊢
  have X1 := Lib.hid (heap_alloc_new u (.cells #[.int .i64 id, .int .i64 ep, .int .i64 kd, .string pay] 23))
  have B1 := Lib.hid (balloc u (.cells #[.int .i64 id, .int .i64 ep, .int .i64 kd, .string pay] 23))
  have D1 := Lib.hid (h.below B1.out)
  obtain ⟨C, hC⟩ : ∃ C, C = u.heap.size := ⟨_, rfl⟩
  have NC : Hid (P3 P bS bm C = false) := Lib.hid (P3.no (by have := h.lt; omega) (by have := h.lt; omega) (by have := h.lt; omega))
  rw [← hC] at X1
  clear h
  go_enter Try.func19, Try.ntmps19
  go_upto_region 1 with fail
  rw [← hC]
  generalize u.alloc (.cells #[.int .i64 id, .int .i64 ep, .int .i64 kd, .string pay] 23) = w1 at *
  clear hC
  obtain ⟨x0, x1, x2, x3⟩ := four_cells X1.out
  by_cases he : pe = 0
  · subst he
    rw [if_pos rfl] at EW
    have id0 := HR0.out (by trivial)
    go_wp2_with fail
    refine (HPut.out _).mono ?_
    rintro e w2 ⟨rfl, hb⟩
    clear x0 x1 x2 x3
    have X2 := Lib.hid (heap_stays X1.out hb)
    have B2 := Lib.hid (bthen B1.out hb)
    have D2 := Lib.hid (D1.out.below hb)
    obtain ⟨x0, x1, x2, x3⟩ := four_cells X2.out
    have HH := Lib.hid (phas_any D2.out hn id)
    clear hb
    cases hb : hasB d id with
    | false =>
      rw [hb] at HH
      have hq := hasB_false hb
      rw [if_pos (show manyP (d.n : Int) ≤ id by omega)] at EW
      have K2 := Lib.hid (KpS.of B2.out : KpS (P3 P bS bm) u w2)
      clear hb hq
      go_wp2_with fail
      refine (HH.out).mono ?_
      rintro e w3 ⟨rfl, rfl⟩
      go_wp2_with fail
      go_ret
      rw [EW.out]
      exact ⟨rfl, D2.out, K2.out⟩
    | true =>
      rw [hb] at HH
      have hq := hasB_true hb
      rw [if_neg (show ¬ manyP (d.n : Int) ≤ id by omega)] at EW
      have hin := many_in hq.2 hq.1
      have id1 : id ≤ 4096 := by omega
      have HF := Lib.hid (fun w => pfirst_any id id0 id1 w)
      have HCut := Lib.hid (pcut_any s (HS.out (by trivial)) w2)
      unfold fourQ at HCut
      clear hb hq hin HS
      go_wp2_with fail
      refine (HH.out).mono ?_
      rintro e w3 ⟨rfl, rfl⟩
      go_wp2_with fail
      refine (HCut.out).mono ?_
      rintro e w3 ⟨rfl, hb⟩
      have X3 := Lib.hid (heap_stays X2.out hb)
      have K3 := Lib.hid (KpS.of (bthen B2.out hb) : KpS (P3 P bS bm) u w3)
      have D3 : Hid (PDk base P bS bm cS (wrN d s (2 + 4 * id) 0).1 w3) := Lib.hid (D2.out.below hb)
      clear hb x0 x1 x2 x3 HH HCut
      obtain ⟨q, hq⟩ : ∃ q : Nat → ByteArray, q = quart s := ⟨_, rfl⟩
      have HQ := Lib.hid hq
      rw [← hq]
      clear hq
      go_wp2_with fail
      go_loopw [7, 8, 9, 27] (fun _ _ _ i wr => ∃ j : Nat, j ≤ 4 ∧ i = .int .i64 j ∧ Hid ((wrN d s (2 + 4 * id) j).2 = 0) ∧ Hid (PDk base P bS bm cS (wrN d s (2 + 4 * id) j).1 wr) ∧ Hid (wr.heap[C]? = some (.cells #[.int .i64 id, .int .i64 ep, .int .i64 kd, .string pay] 23 (0, 0))) ∧ Hid (KpS (P3 P bS bm) u wr)) (fun _ _ _ i _ => 4 - (intOf i).toNat)
      case atStart => exact ⟨0, Nat.zero_le _, rfl, Lib.hid rfl, D3, X3, K3⟩
      case round =>
        obtain ⟨j, hj, rfl, HZ, HP, HX, HK⟩ := hrel
        by_cases hlt : j < 4
        · have d1 : decide ((j : Int) < 4) = true := by simp; omega
          have g0 : (0 : Int) ≤ (j : Int) := by omega
          have g1 : (j : Int) < 4 := by omega
          obtain ⟨x0, x1, x2, x3⟩ := four_cells HX.out
          have HW := Lib.hid (pwrite_any HP.out (bd_wr hn hc ha s (2 + 4 * id) (by omega)) (2 + 4 * id + (j : Int)) (quart s j))
          have EN := Lib.hid (wr_next HZ.out)
          rw [← HQ.out] at HW EN
          obtain ⟨ee, hee⟩ : ∃ x, x = writeE (wrN d s (2 + 4 * id) j).1 (2 + 4 * id + (j : Int)) := ⟨_, rfl⟩
          obtain ⟨dd, hdd⟩ : ∃ x, x = writeD (wrN d s (2 + 4 * id) j).1 (2 + 4 * id + (j : Int)) (q j) := ⟨_, rfl⟩
          rw [← hee, ← hdd] at HW EN
          clear hee hdd
          have qi : Hid (∀ w, (Instr.index 77 (.agg #[.string (q 0), .string (q 1), .string (q 2), .string (q 3)]) (.int .i64 (j : Int))).run Try.prog w = .ok (.string (q j)) w) := Lib.hid (run_index_four q j hlt)
          have FX := Lib.hid (fun (w4 : World) (k : KpS (P3 P bS bm) wr w4) => (k.blk (heap_lt HX.out) NC.out).trans HX.out)
          by_cases hz : ee = 0
          · subst hz
            focus
              (have qi2 := qi.out
               go_wp2_with fail
               refine (HF.out _).mono ?_
               rintro e w4 ⟨rfl, rfl⟩
               go_wp2_with fail
               refine (HW.out).mono ?_
               rintro e w5 ⟨rfl, r5, k5⟩
               have R5 := Lib.hid r5
               have K5 := Lib.hid k5
               have X5 := Lib.hid (FX.out w5 k5)
               clear r5 k5
               go_wp2_with fail
               go_roundw
               case rel => exact ⟨_, hlt, by go_num, Lib.hid (by rw [EN.out]), Lib.hid (by rw [EN.out]; exact R5.out), X5, Lib.hid (HK.out.trans K5.out)⟩
               case measure => simp [intOf]; try omega)
          · have hz2 : (ee != 0) = true := by simp [hz]
            have ES : Hid (wrN d s (2 + 4 * id) 4 = (dd, ee)) := Lib.hid (by
              have := wr_stop (d := d) (s := s) (a := 2 + 4 * id) (i := j + 1) (by rw [EN.out]; exact hz) (4 - (j + 1))
              rw [show j + 1 + (4 - (j + 1)) = 4 by omega, EN.out] at this
              exact this)
            focus
              (have qi2 := qi.out
               go_wp2_with fail
               refine (HF.out _).mono ?_
               rintro e w4 ⟨rfl, rfl⟩
               go_wp2_with fail
               refine (HW.out).mono ?_
               rintro e w5 ⟨rfl, r5, k5⟩
               have R5 := Lib.hid r5
               have K5 := Lib.hid (HK.out.trans k5)
               clear r5 k5
               go_wp2_with fail
               go_ret
               rw [EW.out, ES.out]
               exact ⟨rfl, R5.out, K5.out⟩)
        · obtain rfl : j = 4 := by omega
          have d1 : decide ((4 : Int) < 4) = false := by decide
          go_wp2_with fail
          go_ret
          rw [EW.out]
          exact ⟨by rw [HZ.out]; rfl, HP.out, HK.out⟩
  · rw [if_neg he] at EW
    have hz2 : (pe != 0) = true := by simp [he]
    go_wp2_with fail
    refine (HPut.out _).mono ?_
    rintro e w2 ⟨rfl, hb⟩
    have D2 := Lib.hid (D1.out.below hb)
    have K2 := Lib.hid (KpS.of (bthen B1.out hb) : KpS (P3 P bS bm) u w2)
    clear hb
    go_wp2_with fail
    go_ret
    rw [EW.out]
    exact ⟨rfl, D2.out, K2.out⟩

end Go.Proofs.Ytdmlmjmdpmmcgaa
