/- The walk of PoolNone, whatever the program's store is made of. -/
import Derived.Test.YtmflkkkbahghgaaGreatYZ32
import Derived.Test.YtmflkkkbahghgaaGreatYQPqNil
namespace Go.Proofs.YtmflkkkbahghgaaGreat
open Go.RowKit Go.Deep
set_option linter.unusedVariables false
set_option linter.unusedSimpArgs false
set_option maxRecDepth 100000

section
variable {PM : StM} {PF PC : FlM}
set_option maxHeartbeats 6400000 in
theorem none15_walk (I : Sh14 PM PF PC) (kind l : Int) (s : ByteArray) (hs : s.size ≤ maxLen) (n : Int) (u : World) : Calls Tryz.prog 6 #[.agg #[.int .i64 kind, .int .i64 l, .string s], .int .i64 n] u fun r u' => r = .returned (.bool true) ∧ Below u.heap.size u u' := by
  have HI := Lib.hid I
  have HAW := Lib.hid (fun w => awake15_any I w)
  have HN := Lib.hid (fun w => pnew_any (2 + 4 * 7) (by omega) (by omega) w)
  have B0 := Lib.hid (balloc u (.cells #[.int .i64 kind, .int .i64 l, .string s] 30))
  have X0 := Lib.hid (heap_alloc_new u (.cells #[.int .i64 kind, .int .i64 l, .string s] 30))
  have hz : ¬ 9223372036854775807 < (⟨#[]⟩ : ByteArray).size + (⟨#[]⟩ : ByteArray).size := by decide
  have hz2 : ¬ 9223372036854775807 < ByteArray.empty.size + ByteArray.empty.size := by decide
  clear I
  obtain ⟨C, hC⟩ : ∃ C, C = u.heap.size := ⟨_, rfl⟩
  rw [← hC] at X0
  go_enter Tryz.func6, Tryz.ntmps6
  go_upto_region 1 with fail
  rw [← hC]
  have HC := Lib.hid hC
  clear hC
  generalize u.alloc (.cells #[.int .i64 kind, .int .i64 l, .string s] 30) = w0 at *
  have x1 : w0.cell? ⟨C, 1, none⟩ = some (.int .i64 l) := by rw [Lib.cell_of_heap X0.out]; rfl
  have x2 : w0.cell? ⟨C, 2, none⟩ = some (.string s) := by rw [Lib.cell_of_heap X0.out]; rfl
  have H := Lib.hid (qnHold l w0)
  go_wp2_with fail
  refine (H.out).mono ?_
  rintro r w1 ⟨rfl, hb⟩
  have B1 := Lib.hid (bthen B0.out hb)
  have X1 := Lib.hid ((hb.block _ (lt_of_block X0.out)).trans X0.out)
  clear hb H x1 x2
  have x1 : w1.cell? ⟨C, 1, none⟩ = some (.int .i64 l) := by rw [Lib.cell_of_heap X1.out]; rfl
  have x2 : w1.cell? ⟨C, 2, none⟩ = some (.string s) := by rw [Lib.cell_of_heap X1.out]; rfl
  have H := Lib.hid (qnGet l w1)
  go_wp2_with fail
  refine (H.out).mono ?_
  rintro r w2 ⟨rfl, hb⟩
  have B2 := Lib.hid (bthen B1.out hb)
  have X2 := Lib.hid ((hb.block _ (lt_of_block X1.out)).trans X1.out)
  clear hb H x1 x2
  have x1 : w2.cell? ⟨C, 1, none⟩ = some (.int .i64 l) := by rw [Lib.cell_of_heap X2.out]; rfl
  have x2 : w2.cell? ⟨C, 2, none⟩ = some (.string s) := by rw [Lib.cell_of_heap X2.out]; rfl
  have H := Lib.hid (qnNew s w2)
  go_wp2_with fail
  refine (H.out).mono ?_
  rintro r w3 ⟨rfl, hb⟩
  have B3 := Lib.hid (bthen B2.out hb)
  have X3 := Lib.hid ((hb.block _ (lt_of_block X2.out)).trans X2.out)
  clear hb H x1 x2
  have x1 : w3.cell? ⟨C, 1, none⟩ = some (.int .i64 l) := by rw [Lib.cell_of_heap X3.out]; rfl
  have x2 : w3.cell? ⟨C, 2, none⟩ = some (.string s) := by rw [Lib.cell_of_heap X3.out]; rfl
  have H := Lib.hid (qnCount w3)
  go_wp2_with fail
  refine (H.out).mono ?_
  rintro r w4 ⟨rfl, hb⟩
  have B4 := Lib.hid (bthen B3.out hb)
  have X4 := Lib.hid ((hb.block _ (lt_of_block X3.out)).trans X3.out)
  clear hb H x1 x2
  have x1 : w4.cell? ⟨C, 1, none⟩ = some (.int .i64 l) := by rw [Lib.cell_of_heap X4.out]; rfl
  have x2 : w4.cell? ⟨C, 2, none⟩ = some (.string s) := by rw [Lib.cell_of_heap X4.out]; rfl
  have H := Lib.hid (qnew_nil n w4)
  go_wp2_with fail
  refine (H.out).mono ?_
  rintro r w5 ⟨rfl, hb⟩
  have B5 := Lib.hid (bthen B4.out hb)
  have X5 := Lib.hid ((hb.block _ (lt_of_block X4.out)).trans X4.out)
  clear hb H x1 x2
  have H := Lib.hid (HN.out w5)
  go_wp2_with fail
  refine (H.out).mono ?_
  rintro r w6 ⟨D, bS, bm, cS, rfl, hp, hb⟩
  have PD := Lib.hid hp
  have B6 := Lib.hid (bthen B5.out hb)
  have HF := Lib.hid (HI.out.format hp (by omega) (by omega) hb.size)
  have BB := Lib.hid hb
  clear hb H hp
  go_wp2_with fail
  refine (HF.out).mono ?_
  rintro r w7 ⟨P, S2, rfl, hpm, n2, k2⟩
  have PP := Lib.hid hpm
  have BX := Lib.hid (BB.out.trans (PD.out.bot k2 BB.out.size))
  have B7 := Lib.hid (bthen B5.out BX.out)
  have X7 := Lib.hid ((BX.out.block _ (lt_of_block X5.out)).trans X5.out)
  clear hpm n2 k2 HF
  by_cases hr : 1 ≤ n ∧ n ≤ 32
  · obtain ⟨m, rfl⟩ : ∃ m : Nat, n = (m : Int) := ⟨n.toNat, by omega⟩
    have hm1 : 1 ≤ m := by omega
    have hm2 : m ≤ 32 := by omega
    have d1 : decide ((1 : Int) ≤ (m : Int)) = true := decide_eq_true (by omega)
    have d2 : decide ((m : Int) ≤ 32) = true := decide_eq_true (by omega)
    have d3 : decide (1 ≤ m) = true := decide_eq_true hm1
    have d4 : decide (m ≤ 32) = true := decide_eq_true hm2
    have H := Lib.hid (qnew_any HI.out PP.out BX.out.size m hm1 hm2)
    clear hr hm1 hm2
    go_wp2_with fail
    refine (H.out).mono ?_
    rintro r w8 ⟨Y, F, c, rfl, _, hb, _, _⟩
    have B8 := Lib.hid (bthen B7.out hb)
    have X8 := Lib.hid ((hb.block _ (lt_of_block X7.out)).trans X7.out)
    clear hb H
    have x1 : w8.cell? ⟨C, 1, none⟩ = some (.int .i64 l) := by rw [Lib.cell_of_heap X8.out]; rfl
    have x2 : w8.cell? ⟨C, 2, none⟩ = some (.string s) := by rw [Lib.cell_of_heap X8.out]; rfl
    have H := Lib.hid (HAW.out w8)
    go_wp2_with fail
    refine (H.out).mono ?_
    rintro r w9 ⟨rfl, hb⟩
    have B9 := Lib.hid (bthen B8.out hb)
    have X9 := Lib.hid ((hb.block _ (lt_of_block X8.out)).trans X8.out)
    clear hb H x1 x2
    have x1 : w9.cell? ⟨C, 1, none⟩ = some (.int .i64 l) := by rw [Lib.cell_of_heap X9.out]; rfl
    have x2 : w9.cell? ⟨C, 2, none⟩ = some (.string s) := by rw [Lib.cell_of_heap X9.out]; rfl
    have H := Lib.hid (qnLet l w9)
    go_wp2_with fail
    refine (H.out).mono ?_
    rintro r w10 ⟨rfl, hb⟩
    have B10 := Lib.hid (bthen B9.out hb)
    have X10 := Lib.hid ((hb.block _ (lt_of_block X9.out)).trans X9.out)
    clear hb H x1 x2
    have x1 : w10.cell? ⟨C, 1, none⟩ = some (.int .i64 l) := by rw [Lib.cell_of_heap X10.out]; rfl
    have x2 : w10.cell? ⟨C, 2, none⟩ = some (.string s) := by rw [Lib.cell_of_heap X10.out]; rfl
    have H := Lib.hid (qnSet l s w10)
    go_wp2_with fail
    refine (H.out).mono ?_
    rintro r w11 ⟨rfl, hb⟩
    have B11 := Lib.hid (bthen B10.out hb)
    have X11 := Lib.hid ((hb.block _ (lt_of_block X10.out)).trans X10.out)
    clear hb H x1 x2
    have x1 : w11.cell? ⟨C, 1, none⟩ = some (.int .i64 l) := by rw [Lib.cell_of_heap X11.out]; rfl
    have x2 : w11.cell? ⟨C, 2, none⟩ = some (.string s) := by rw [Lib.cell_of_heap X11.out]; rfl
    have H := Lib.hid (qnPut l s w11)
    go_wp2_with fail
    refine (H.out).mono ?_
    rintro r w12 ⟨rfl, hb⟩
    have B12 := Lib.hid (bthen B11.out hb)
    have X12 := Lib.hid ((hb.block _ (lt_of_block X11.out)).trans X11.out)
    clear hb H x1 x2
    have x1 : w12.cell? ⟨C, 1, none⟩ = some (.int .i64 l) := by rw [Lib.cell_of_heap X12.out]; rfl
    have x2 : w12.cell? ⟨C, 2, none⟩ = some (.string s) := by rw [Lib.cell_of_heap X12.out]; rfl
    have H := Lib.hid (qnDrop l w12)
    go_wp2_with fail
    refine (H.out).mono ?_
    rintro r w13 ⟨rfl, hb⟩
    have B13 := Lib.hid (bthen B12.out hb)
    have X13 := Lib.hid ((hb.block _ (lt_of_block X12.out)).trans X12.out)
    clear hb H x1 x2
    have x1 : w13.cell? ⟨C, 1, none⟩ = some (.int .i64 l) := by rw [Lib.cell_of_heap X13.out]; rfl
    have x2 : w13.cell? ⟨C, 2, none⟩ = some (.string s) := by rw [Lib.cell_of_heap X13.out]; rfl
    have H := Lib.hid (qnEvict l w13)
    go_wp2_with fail
    refine (H.out).mono ?_
    rintro r w14 ⟨rfl, hb⟩
    have B14 := Lib.hid (bthen B13.out hb)
    have X14 := Lib.hid ((hb.block _ (lt_of_block X13.out)).trans X13.out)
    clear hb H x1 x2
    have x1 : w14.cell? ⟨C, 1, none⟩ = some (.int .i64 l) := by rw [Lib.cell_of_heap X14.out]; rfl
    have x2 : w14.cell? ⟨C, 2, none⟩ = some (.string s) := by rw [Lib.cell_of_heap X14.out]; rfl
    have H := Lib.hid (qnCommit w14)
    go_wp2_with fail
    refine (H.out).mono ?_
    rintro r w15 ⟨rfl, hb⟩
    have B15 := Lib.hid (bthen B14.out hb)
    have X15 := Lib.hid ((hb.block _ (lt_of_block X14.out)).trans X14.out)
    clear hb H x1 x2
    have x1 : w15.cell? ⟨C, 1, none⟩ = some (.int .i64 l) := by rw [Lib.cell_of_heap X15.out]; rfl
    have x2 : w15.cell? ⟨C, 2, none⟩ = some (.string s) := by rw [Lib.cell_of_heap X15.out]; rfl
    have H := Lib.hid (qnAbort w15)
    go_wp2_with fail
    refine (H.out).mono ?_
    rintro r w16 ⟨rfl, hb⟩
    have B16 := Lib.hid (bthen B15.out hb)
    have X16 := Lib.hid ((hb.block _ (lt_of_block X15.out)).trans X15.out)
    clear hb H x1 x2
    have x1 : w16.cell? ⟨C, 1, none⟩ = some (.int .i64 l) := by rw [Lib.cell_of_heap X16.out]; rfl
    have x2 : w16.cell? ⟨C, 2, none⟩ = some (.string s) := by rw [Lib.cell_of_heap X16.out]; rfl
    have H := Lib.hid (qnPages w16)
    go_wp2_with fail
    refine (H.out).mono ?_
    rintro r w17 ⟨⟨pa, pc, rfl⟩, hb⟩
    have B17 := Lib.hid (bthen B16.out hb)
    have X17 := Lib.hid ((hb.block _ (lt_of_block X16.out)).trans X16.out)
    clear hb H x1 x2
    have x1 : w17.cell? ⟨C, 1, none⟩ = some (.int .i64 l) := by rw [Lib.cell_of_heap X17.out]; rfl
    have x2 : w17.cell? ⟨C, 2, none⟩ = some (.string s) := by rw [Lib.cell_of_heap X17.out]; rfl
    have H := Lib.hid (qnStore w17)
    go_wp2_with fail
    refine (H.out).mono ?_
    rintro r w18 ⟨rfl, hb⟩
    have B18 := Lib.hid (bthen B17.out hb)
    have X18 := Lib.hid ((hb.block _ (lt_of_block X17.out)).trans X17.out)
    clear hb H x1 x2
    have FIN : Hid (Below u.heap.size u w18) := Lib.hid B18.out
    go_wp2_with fail
    go_ret
    exact ⟨rfl, FIN.out⟩
  · have H := Lib.hid (qnew_bad P n hr w7)
    have HR : (decide ((1 : Int) ≤ n) && decide (n ≤ 32)) = false := by
      cases h : (decide ((1 : Int) ≤ n) && decide (n ≤ 32)) with
      | false => rfl
      | true =>
        rw [Bool.and_eq_true] at h
        exact absurd ⟨of_decide_eq_true h.1, of_decide_eq_true h.2⟩ hr
    clear hr
    go_wp2_with fail
    refine (H.out).mono ?_
    rintro r w8 ⟨rfl, hb⟩
    have B8 := Lib.hid (bthen B7.out hb)
    have X8 := Lib.hid ((hb.block _ (lt_of_block X7.out)).trans X7.out)
    clear hb H
    have HRH := Lib.hid HR
    clear HR
    by_cases q1 : 1 ≤ n
    · have d1 : decide ((1 : Int) ≤ n) = true := decide_eq_true q1
      have d2 : decide (n ≤ 32) = false := by have := HRH.out; rw [d1, Bool.true_and] at this; exact this
      clear q1
      have x1 : w8.cell? ⟨C, 1, none⟩ = some (.int .i64 l) := by rw [Lib.cell_of_heap X8.out]; rfl
      have x2 : w8.cell? ⟨C, 2, none⟩ = some (.string s) := by rw [Lib.cell_of_heap X8.out]; rfl
      have H := Lib.hid (HAW.out w8)
      go_wp2_with fail
      refine (H.out).mono ?_
      rintro r w9 ⟨rfl, hb⟩
      have B9 := Lib.hid (bthen B8.out hb)
      have X9 := Lib.hid ((hb.block _ (lt_of_block X8.out)).trans X8.out)
      clear hb H x1 x2
      have x1 : w9.cell? ⟨C, 1, none⟩ = some (.int .i64 l) := by rw [Lib.cell_of_heap X9.out]; rfl
      have x2 : w9.cell? ⟨C, 2, none⟩ = some (.string s) := by rw [Lib.cell_of_heap X9.out]; rfl
      have H := Lib.hid (qnLet l w9)
      go_wp2_with fail
      refine (H.out).mono ?_
      rintro r w10 ⟨rfl, hb⟩
      have B10 := Lib.hid (bthen B9.out hb)
      have X10 := Lib.hid ((hb.block _ (lt_of_block X9.out)).trans X9.out)
      clear hb H x1 x2
      have x1 : w10.cell? ⟨C, 1, none⟩ = some (.int .i64 l) := by rw [Lib.cell_of_heap X10.out]; rfl
      have x2 : w10.cell? ⟨C, 2, none⟩ = some (.string s) := by rw [Lib.cell_of_heap X10.out]; rfl
      have H := Lib.hid (qnSet l s w10)
      go_wp2_with fail
      refine (H.out).mono ?_
      rintro r w11 ⟨rfl, hb⟩
      have B11 := Lib.hid (bthen B10.out hb)
      have X11 := Lib.hid ((hb.block _ (lt_of_block X10.out)).trans X10.out)
      clear hb H x1 x2
      have x1 : w11.cell? ⟨C, 1, none⟩ = some (.int .i64 l) := by rw [Lib.cell_of_heap X11.out]; rfl
      have x2 : w11.cell? ⟨C, 2, none⟩ = some (.string s) := by rw [Lib.cell_of_heap X11.out]; rfl
      have H := Lib.hid (qnPut l s w11)
      go_wp2_with fail
      refine (H.out).mono ?_
      rintro r w12 ⟨rfl, hb⟩
      have B12 := Lib.hid (bthen B11.out hb)
      have X12 := Lib.hid ((hb.block _ (lt_of_block X11.out)).trans X11.out)
      clear hb H x1 x2
      have x1 : w12.cell? ⟨C, 1, none⟩ = some (.int .i64 l) := by rw [Lib.cell_of_heap X12.out]; rfl
      have x2 : w12.cell? ⟨C, 2, none⟩ = some (.string s) := by rw [Lib.cell_of_heap X12.out]; rfl
      have H := Lib.hid (qnDrop l w12)
      go_wp2_with fail
      refine (H.out).mono ?_
      rintro r w13 ⟨rfl, hb⟩
      have B13 := Lib.hid (bthen B12.out hb)
      have X13 := Lib.hid ((hb.block _ (lt_of_block X12.out)).trans X12.out)
      clear hb H x1 x2
      have x1 : w13.cell? ⟨C, 1, none⟩ = some (.int .i64 l) := by rw [Lib.cell_of_heap X13.out]; rfl
      have x2 : w13.cell? ⟨C, 2, none⟩ = some (.string s) := by rw [Lib.cell_of_heap X13.out]; rfl
      have H := Lib.hid (qnEvict l w13)
      go_wp2_with fail
      refine (H.out).mono ?_
      rintro r w14 ⟨rfl, hb⟩
      have B14 := Lib.hid (bthen B13.out hb)
      have X14 := Lib.hid ((hb.block _ (lt_of_block X13.out)).trans X13.out)
      clear hb H x1 x2
      have x1 : w14.cell? ⟨C, 1, none⟩ = some (.int .i64 l) := by rw [Lib.cell_of_heap X14.out]; rfl
      have x2 : w14.cell? ⟨C, 2, none⟩ = some (.string s) := by rw [Lib.cell_of_heap X14.out]; rfl
      have H := Lib.hid (qnCommit w14)
      go_wp2_with fail
      refine (H.out).mono ?_
      rintro r w15 ⟨rfl, hb⟩
      have B15 := Lib.hid (bthen B14.out hb)
      have X15 := Lib.hid ((hb.block _ (lt_of_block X14.out)).trans X14.out)
      clear hb H x1 x2
      have x1 : w15.cell? ⟨C, 1, none⟩ = some (.int .i64 l) := by rw [Lib.cell_of_heap X15.out]; rfl
      have x2 : w15.cell? ⟨C, 2, none⟩ = some (.string s) := by rw [Lib.cell_of_heap X15.out]; rfl
      have H := Lib.hid (qnAbort w15)
      go_wp2_with fail
      refine (H.out).mono ?_
      rintro r w16 ⟨rfl, hb⟩
      have B16 := Lib.hid (bthen B15.out hb)
      have X16 := Lib.hid ((hb.block _ (lt_of_block X15.out)).trans X15.out)
      clear hb H x1 x2
      have x1 : w16.cell? ⟨C, 1, none⟩ = some (.int .i64 l) := by rw [Lib.cell_of_heap X16.out]; rfl
      have x2 : w16.cell? ⟨C, 2, none⟩ = some (.string s) := by rw [Lib.cell_of_heap X16.out]; rfl
      have H := Lib.hid (qnPages w16)
      go_wp2_with fail
      refine (H.out).mono ?_
      rintro r w17 ⟨⟨pa, pc, rfl⟩, hb⟩
      have B17 := Lib.hid (bthen B16.out hb)
      have X17 := Lib.hid ((hb.block _ (lt_of_block X16.out)).trans X16.out)
      clear hb H x1 x2
      have x1 : w17.cell? ⟨C, 1, none⟩ = some (.int .i64 l) := by rw [Lib.cell_of_heap X17.out]; rfl
      have x2 : w17.cell? ⟨C, 2, none⟩ = some (.string s) := by rw [Lib.cell_of_heap X17.out]; rfl
      have H := Lib.hid (qnStore w17)
      go_wp2_with fail
      refine (H.out).mono ?_
      rintro r w18 ⟨rfl, hb⟩
      have B18 := Lib.hid (bthen B17.out hb)
      have X18 := Lib.hid ((hb.block _ (lt_of_block X17.out)).trans X17.out)
      clear hb H x1 x2
      have FIN : Hid (Below u.heap.size u w18) := Lib.hid B18.out
      go_wp2_with fail
      go_ret
      exact ⟨rfl, FIN.out⟩
    · have d1 : decide ((1 : Int) ≤ n) = false := decide_eq_false q1
      clear q1
      have x1 : w8.cell? ⟨C, 1, none⟩ = some (.int .i64 l) := by rw [Lib.cell_of_heap X8.out]; rfl
      have x2 : w8.cell? ⟨C, 2, none⟩ = some (.string s) := by rw [Lib.cell_of_heap X8.out]; rfl
      have H := Lib.hid (HAW.out w8)
      go_wp2_with fail
      refine (H.out).mono ?_
      rintro r w9 ⟨rfl, hb⟩
      have B9 := Lib.hid (bthen B8.out hb)
      have X9 := Lib.hid ((hb.block _ (lt_of_block X8.out)).trans X8.out)
      clear hb H x1 x2
      have x1 : w9.cell? ⟨C, 1, none⟩ = some (.int .i64 l) := by rw [Lib.cell_of_heap X9.out]; rfl
      have x2 : w9.cell? ⟨C, 2, none⟩ = some (.string s) := by rw [Lib.cell_of_heap X9.out]; rfl
      have H := Lib.hid (qnLet l w9)
      go_wp2_with fail
      refine (H.out).mono ?_
      rintro r w10 ⟨rfl, hb⟩
      have B10 := Lib.hid (bthen B9.out hb)
      have X10 := Lib.hid ((hb.block _ (lt_of_block X9.out)).trans X9.out)
      clear hb H x1 x2
      have x1 : w10.cell? ⟨C, 1, none⟩ = some (.int .i64 l) := by rw [Lib.cell_of_heap X10.out]; rfl
      have x2 : w10.cell? ⟨C, 2, none⟩ = some (.string s) := by rw [Lib.cell_of_heap X10.out]; rfl
      have H := Lib.hid (qnSet l s w10)
      go_wp2_with fail
      refine (H.out).mono ?_
      rintro r w11 ⟨rfl, hb⟩
      have B11 := Lib.hid (bthen B10.out hb)
      have X11 := Lib.hid ((hb.block _ (lt_of_block X10.out)).trans X10.out)
      clear hb H x1 x2
      have x1 : w11.cell? ⟨C, 1, none⟩ = some (.int .i64 l) := by rw [Lib.cell_of_heap X11.out]; rfl
      have x2 : w11.cell? ⟨C, 2, none⟩ = some (.string s) := by rw [Lib.cell_of_heap X11.out]; rfl
      have H := Lib.hid (qnPut l s w11)
      go_wp2_with fail
      refine (H.out).mono ?_
      rintro r w12 ⟨rfl, hb⟩
      have B12 := Lib.hid (bthen B11.out hb)
      have X12 := Lib.hid ((hb.block _ (lt_of_block X11.out)).trans X11.out)
      clear hb H x1 x2
      have x1 : w12.cell? ⟨C, 1, none⟩ = some (.int .i64 l) := by rw [Lib.cell_of_heap X12.out]; rfl
      have x2 : w12.cell? ⟨C, 2, none⟩ = some (.string s) := by rw [Lib.cell_of_heap X12.out]; rfl
      have H := Lib.hid (qnDrop l w12)
      go_wp2_with fail
      refine (H.out).mono ?_
      rintro r w13 ⟨rfl, hb⟩
      have B13 := Lib.hid (bthen B12.out hb)
      have X13 := Lib.hid ((hb.block _ (lt_of_block X12.out)).trans X12.out)
      clear hb H x1 x2
      have x1 : w13.cell? ⟨C, 1, none⟩ = some (.int .i64 l) := by rw [Lib.cell_of_heap X13.out]; rfl
      have x2 : w13.cell? ⟨C, 2, none⟩ = some (.string s) := by rw [Lib.cell_of_heap X13.out]; rfl
      have H := Lib.hid (qnEvict l w13)
      go_wp2_with fail
      refine (H.out).mono ?_
      rintro r w14 ⟨rfl, hb⟩
      have B14 := Lib.hid (bthen B13.out hb)
      have X14 := Lib.hid ((hb.block _ (lt_of_block X13.out)).trans X13.out)
      clear hb H x1 x2
      have x1 : w14.cell? ⟨C, 1, none⟩ = some (.int .i64 l) := by rw [Lib.cell_of_heap X14.out]; rfl
      have x2 : w14.cell? ⟨C, 2, none⟩ = some (.string s) := by rw [Lib.cell_of_heap X14.out]; rfl
      have H := Lib.hid (qnCommit w14)
      go_wp2_with fail
      refine (H.out).mono ?_
      rintro r w15 ⟨rfl, hb⟩
      have B15 := Lib.hid (bthen B14.out hb)
      have X15 := Lib.hid ((hb.block _ (lt_of_block X14.out)).trans X14.out)
      clear hb H x1 x2
      have x1 : w15.cell? ⟨C, 1, none⟩ = some (.int .i64 l) := by rw [Lib.cell_of_heap X15.out]; rfl
      have x2 : w15.cell? ⟨C, 2, none⟩ = some (.string s) := by rw [Lib.cell_of_heap X15.out]; rfl
      have H := Lib.hid (qnAbort w15)
      go_wp2_with fail
      refine (H.out).mono ?_
      rintro r w16 ⟨rfl, hb⟩
      have B16 := Lib.hid (bthen B15.out hb)
      have X16 := Lib.hid ((hb.block _ (lt_of_block X15.out)).trans X15.out)
      clear hb H x1 x2
      have x1 : w16.cell? ⟨C, 1, none⟩ = some (.int .i64 l) := by rw [Lib.cell_of_heap X16.out]; rfl
      have x2 : w16.cell? ⟨C, 2, none⟩ = some (.string s) := by rw [Lib.cell_of_heap X16.out]; rfl
      have H := Lib.hid (qnPages w16)
      go_wp2_with fail
      refine (H.out).mono ?_
      rintro r w17 ⟨⟨pa, pc, rfl⟩, hb⟩
      have B17 := Lib.hid (bthen B16.out hb)
      have X17 := Lib.hid ((hb.block _ (lt_of_block X16.out)).trans X16.out)
      clear hb H x1 x2
      have x1 : w17.cell? ⟨C, 1, none⟩ = some (.int .i64 l) := by rw [Lib.cell_of_heap X17.out]; rfl
      have x2 : w17.cell? ⟨C, 2, none⟩ = some (.string s) := by rw [Lib.cell_of_heap X17.out]; rfl
      have H := Lib.hid (qnStore w17)
      go_wp2_with fail
      refine (H.out).mono ?_
      rintro r w18 ⟨rfl, hb⟩
      have B18 := Lib.hid (bthen B17.out hb)
      have X18 := Lib.hid ((hb.block _ (lt_of_block X17.out)).trans X17.out)
      clear hb H x1 x2
      have FIN : Hid (Below u.heap.size u w18) := Lib.hid B18.out
      go_wp2_with fail
      go_ret
      exact ⟨rfl, FIN.out⟩
end
end Go.Proofs.YtmflkkkbahghgaaGreat
