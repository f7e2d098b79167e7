/- The contract of the program's Put. The contract of the program's Write. -/
import Derived.Deep.WholeRow
import Derived.Test.YtmflkkkbahghgaaGreatYZ11
import Derived.Test.YtmflkkkbahghgaaGreatYZ12
import Derived.Test.YtmflkkkbahghgaaGreatYZ10
namespace Go.Proofs.YtmflkkkbahghgaaGreat
open Go.RowKit Go.Deep
set_option linter.unusedVariables false
set_option linter.unusedSimpArgs false
set_option maxRecDepth 100000

theorem info252 : (Tryz.prog.info? 215).map (fun i => (i.zero, i.size)) = some (some (.agg (row252 ⟨#[]⟩).toArray), 252) := by kernel_rfl
theorem zero252 (w : World) : (zeroValue 215).run Tryz.prog w = .ok (.agg (row252 ⟨#[]⟩).toArray) w := (zero_of_info info252).1 w
theorem kind_bytes (k : Int) (h1 : 0 ≤ k) (h2 : k ≤ 2147483647) : (strOfNums (beI 8 k)).extract 4 (strOfNums (beI 8 k)).size = strOfNums (kindL k) := by
  have e : beI 8 k = [0, 0, 0, 0] ++ kindL k := by
    simp only [beI, kindL]
    simp
    omega
  rw [e, ← strOfNums_append]
  have hs : (strOfNums [0, 0, 0, 0] ++ strOfNums (kindL k)).size = 8 := by rw [ByteArray.size_append, strOfNums_size, strOfNums_size]; rfl
  have hk : (strOfNums (kindL k)).size = 4 := by rw [strOfNums_size]; rfl
  have hz : (strOfNums [0, 0, 0, 0]).size = 4 := by rw [strOfNums_size]; rfl
  apply byD_ext
  · rw [ByteArray.size_extract, hs, hk]; omega
  · intro j hj
    rw [ByteArray.size_extract, hs] at hj
    rw [byD_cut _ _ _ _ (by rw [hs]; omega), byD_app, hz, if_neg (by omega)]
    congr 1; omega
theorem lay_body (p : Pg) (h : p.pay.size ≤ 232) : (List.range 252).map (byD (((((⟨#[]⟩ : ByteArray) ++ strOfNums (beI 8 (flip63 p.id))) ++ strOfNums (beI 8 (flip63 p.ep))) ++ strOfNums (kindL p.kd)) ++ p.pay)) = (List.range 252).map (byD (bodyP p)) := by
  have e0 : (((⟨#[]⟩ : ByteArray) ++ strOfNums (beI 8 (flip63 p.id))) ++ strOfNums (beI 8 (flip63 p.ep))) ++ strOfNums (kindL p.kd) = strOfNums (headL p) := by
    rw [show (⟨#[]⟩ : ByteArray) ++ strOfNums (beI 8 (flip63 p.id)) = strOfNums (beI 8 (flip63 p.id)) from ByteArray.empty_append .., strOfNums_append, strOfNums_append]
    rfl
  rw [e0]
  refine List.map_congr_left fun j hj => ?_
  have hj2 : j < 252 := List.mem_range.1 hj
  unfold bodyP
  rw [byD_app, byD_app, strOfNums_size, headL_len]
  by_cases c : j < 20
  · rw [if_pos c, if_pos c]
  · rw [if_neg c, if_neg c, byD_pad _ _ _ (by omega)]
theorem nums_all (s : ByteArray) (h : s.size = 252) : strOfNums ((List.range 252).map (byD s)) = s := padN_self s 252 h

def putRet (p : Pg) : Ending := .returned (.tuple #[.string (putS p), .int .i64 (putE p)])
set_option maxHeartbeats 3200000 in
theorem pput_any (p : Pg) (u : World) (hp : p.pay.size ≤ 9223372036854775807) : Calls Tryz.prog 187 #[.agg (pgV p).toArray] u fun e w' => e = putRet p ∧ Below u.heap.size u w' := by
  have HM := Lib.hid (fun w => pmay_any p w)
  have hp1 : p.pay.size ≤ 9223372036854775807 := by omega
  by_cases hr : RightP p
  · by_cases hz : 232 < p.pay.size
    · obtain ⟨id, ep, kd, pay⟩ := p
      change Calls _ _ #[.agg #[.int .i64 id, .int .i64 ep, .int .i64 kd, .string pay]] _ _
      rw [rightB_yes hr] at HM
      have EZ : Hid (putRet ⟨id, ep, kd, pay⟩ = .returned (.tuple #[.string ⟨#[]⟩, .int .i64 4])) := Lib.hid (by
        have e0 : putE ⟨id, ep, kd, pay⟩ = 4 := by unfold putE; rw [if_pos hr, if_pos hz]
        unfold putRet putS
        rw [e0, if_neg (by decide)])
      clear hr
      dsimp only at hp hp1 hz
      unfold pgV at HM
      dsimp only at HM
      have X1 := Lib.hid (heap_alloc_new u (.cells #[.int .i64 id, .int .i64 ep, .int .i64 kd, .string pay] 181))
      have B1 := Lib.hid (balloc u (.cells #[.int .i64 id, .int .i64 ep, .int .i64 kd, .string pay] 181))
      have dz : decide ((232 : Int) < (pay.size : Int)) = true := by simp; omega
      have dz2 : decide (232 < pay.size) = true := by simp; omega
      obtain ⟨C, hC⟩ : ∃ C, C = u.heap.size := ⟨_, rfl⟩
      rw [← hC] at X1
      go_enter Tryz.func187, Tryz.ntmps187
      go_upto_region 1 with fail
      rw [← hC]
      generalize u.alloc (.cells #[.int .i64 id, .int .i64 ep, .int .i64 kd, .string pay] 181) = w1 at *
      clear hC
      have x0 : w1.cell? ⟨C, 0, none⟩ = some (.int .i64 id) := by rw [Lib.cell_of_heap X1.out]; rfl
      have x1 : w1.cell? ⟨C, 1, none⟩ = some (.int .i64 ep) := by rw [Lib.cell_of_heap X1.out]; rfl
      have x2 : w1.cell? ⟨C, 2, none⟩ = some (.int .i64 kd) := by rw [Lib.cell_of_heap X1.out]; rfl
      have x3 : w1.cell? ⟨C, 3, none⟩ = some (.string pay) := by rw [Lib.cell_of_heap X1.out]; rfl
      go_wp2_with fail
      refine (HM.out _).mono ?_
      rintro e w2 ⟨rfl, hb2⟩
      clear x0 x1 x2 x3
      have X2 : Hid (w2.heap[C]? = some (.cells #[.int .i64 id, .int .i64 ep, .int .i64 kd, .string pay] 181 (0, 0))) := Lib.hid ((hb2.block C (by have := X1.out; exact (Array.getElem?_eq_some_iff.1 this).1)).trans X1.out)
      have y3 : w2.cell? ⟨C, 3, none⟩ = some (.string pay) := by rw [Lib.cell_of_heap X2.out]; rfl
      have B2 := Lib.hid (bthen B1.out hb2)
      go_wp2_with fail
      go_ret2
      exact ⟨by rw [EZ.out]; rfl, B2.out⟩
    · obtain ⟨id, ep, kd, pay⟩ := p
      change Calls _ _ #[.agg #[.int .i64 id, .int .i64 ep, .int .i64 kd, .string pay]] _ _
      rw [rightB_yes hr] at HM
      obtain ⟨h1, h2, h3, h4, h5⟩ := hr
      dsimp only at h1 h2 h3 h4 h5 hz hp hp1
      unfold pgV at HM
      dsimp only at HM
      have X1 := Lib.hid (heap_alloc_new u (.cells #[.int .i64 id, .int .i64 ep, .int .i64 kd, .string pay] 181))
      have B1 := Lib.hid (balloc u (.cells #[.int .i64 id, .int .i64 ep, .int .i64 kd, .string pay] 181))
      obtain ⟨C, hC⟩ : ∃ C, C = u.heap.size := ⟨_, rfl⟩
      have HCu := Lib.hid hC
      rw [← hC] at X1
      have dz : decide ((232 : Int) < (pay.size : Int)) = false := by simp; omega
      have dz2 : decide (232 < pay.size) = false := by simp; omega
      go_enter Tryz.func187, Tryz.ntmps187
      go_upto_region 1 with fail
      rw [← hC]
      generalize u.alloc (.cells #[.int .i64 id, .int .i64 ep, .int .i64 kd, .string pay] 181) = w1 at *
      clear hC
      have x0 : w1.cell? ⟨C, 0, none⟩ = some (.int .i64 id) := by rw [Lib.cell_of_heap X1.out]; rfl
      have x1 : w1.cell? ⟨C, 1, none⟩ = some (.int .i64 ep) := by rw [Lib.cell_of_heap X1.out]; rfl
      have x2 : w1.cell? ⟨C, 2, none⟩ = some (.int .i64 kd) := by rw [Lib.cell_of_heap X1.out]; rfl
      have x3 : w1.cell? ⟨C, 3, none⟩ = some (.string pay) := by rw [Lib.cell_of_heap X1.out]; rfl
      go_wp2_with fail
      refine (HM.out _).mono ?_
      rintro e w2 ⟨rfl, hb2⟩
      clear x0 x1 x2 x3
      have X2 : Hid (w2.heap[C]? = some (.cells #[.int .i64 id, .int .i64 ep, .int .i64 kd, .string pay] 181 (0, 0))) := Lib.hid ((hb2.block C (by have := X1.out; exact (Array.getElem?_eq_some_iff.1 this).1)).trans X1.out)
      have y0 : w2.cell? ⟨C, 0, none⟩ = some (.int .i64 id) := by rw [Lib.cell_of_heap X2.out]; rfl
      have y1 : w2.cell? ⟨C, 1, none⟩ = some (.int .i64 ep) := by rw [Lib.cell_of_heap X2.out]; rfl
      have y2 : w2.cell? ⟨C, 2, none⟩ = some (.int .i64 kd) := by rw [Lib.cell_of_heap X2.out]; rfl
      have y3 : w2.cell? ⟨C, 3, none⟩ = some (.string pay) := by rw [Lib.cell_of_heap X2.out]; rfl
      go_upto_region 5 with fail
      have Z := zero252 w2
      generalize hzr : (row252 ⟨#[]⟩).toArray = zr at Z
      go_upto_region 6 with fail
      have K3 := Lib.hid (heap_alloc_new w2 (.cells zr 215))
      have B2 := Lib.hid (bthen B1.out hb2)
      have B3 := Lib.hid (bthen B2.out (balloc w2 (.cells zr 215)))
      have hBu : u.heap.size + 1 ≤ w2.heap.size := by have h1 := (Array.getElem?_eq_some_iff.1 X2.out).1; have h2 := HCu.out; omega
      have C3 : Hid ((w2.alloc (.cells zr 215)).heap[C]? = some (.cells #[.int .i64 id, .int .i64 ep, .int .i64 kd, .string pay] 181 (0, 0))) := Lib.hid (((balloc w2 (.cells zr 215)).block C (Array.getElem?_eq_some_iff.1 X2.out).1).trans X2.out)
      have HL := Lib.hid (player_any w2.heap.size (w2.alloc (.cells zr 215)))
      have SB : Hid (w2.heap.size < (w2.alloc (.cells zr 215)).heap.size) := Lib.hid (by simp)
      have hBl := SB.out
      generalize hB : w2.heap.size = B at *
      generalize w2.alloc (.cells zr 215) = w3 at *
      clear hB Z y0 y1 y2 y3 X2 X1 hb2
      go_wp2_with fail
      refine (HL.out).mono ?_
      rintro e w4 ⟨rfl, hw4⟩
      have L4 : Hid (LayS (w3.heap.size + 1) w3.heap.size B ⟨#[]⟩ w4) := by
        have a1 := heap_alloc_new (w3.alloc (.cells #[.pointer (some ⟨B, 0, none⟩)] 217)) (.cells #[.int .i64 0] 3)
        have a2 := (balloc (w3.alloc (.cells #[.pointer (some ⟨B, 0, none⟩)] 217)) (.cells #[.int .i64 0] 3)).block w3.heap.size (by simp)
        rw [heap_alloc_new w3] at a2
        have b1 := (balloc w3 (.cells #[.pointer (some ⟨B, 0, none⟩)] 217)).block B SB.out
        have b2 := (balloc (w3.alloc (.cells #[.pointer (some ⟨B, 0, none⟩)] 217)) (.cells #[.int .i64 0] 3)).block B (by simp; omega)
        rw [← hw4] at a1 a2 b2
        refine ⟨?_, a2, ?_⟩
        · rw [show (w3.alloc (.cells #[.pointer (some ⟨B, 0, none⟩)] 217)).heap.size = w3.heap.size + 1 by simp] at a1
          exact a1
        · rw [b2, b1, K3.out, hzr]
      have B34 : Hid (Below w3.heap.size w3 w4) := by rw [hw4]; exact Lib.hid (bthen (balloc _ _) (balloc _ _))
      have B4 := Lib.hid (bthen B3.out B34.out)
      have HB3 : u.heap.size ≤ w3.heap.size := B3.out.size
      have C4 := Lib.hid ((B34.out.block C (Array.getElem?_eq_some_iff.1 C3.out).1).trans C3.out)
      clear hw4 B34 C3 K3
      obtain ⟨A, hA⟩ : ∃ A, A = w3.heap.size + 1 := ⟨_, rfl⟩
      obtain ⟨X, hX⟩ : ∃ X, X = w3.heap.size := ⟨_, rfl⟩
      rw [← hA, ← hX] at L4
      have hAu : u.heap.size + 1 ≤ A := by omega
      have NC : Hid (C = u.heap.size) := HCu
      rw [← hA, ← hX]
      clear hA hX
      have S1 : Hid ((strOfNums (beI 8 (flip63 id))).size = 8) := Lib.hid (by rw [strOfNums_size, beI_len])
      have S2 : Hid ((strOfNums (beI 8 (flip63 ep))).size = 8) := Lib.hid (by rw [strOfNums_size, beI_len])
      have S3 : Hid ((strOfNums (kindL kd)).size = 4) := Lib.hid (by rw [strOfNums_size]; rfl)
      have S4 : Hid (pay.size ≤ 232) := Lib.hid (by omega)
      have HI := Lib.hid (fun n w => packI n w)
      have HU := Lib.hid (fun n w => packU n w)
      have HKB := Lib.hid (kind_bytes kd h4 h5)
      obtain ⟨a1, hA1⟩ : ∃ a, a = strOfNums (beI 8 (flip63 id)) := ⟨_, rfl⟩
      obtain ⟨a2, hA2⟩ : ∃ a, a = strOfNums (beI 8 (flip63 ep)) := ⟨_, rfl⟩
      obtain ⟨a3, hA3⟩ : ∃ a, a = strOfNums (kindL kd) := ⟨_, rfl⟩
      obtain ⟨b3, hB3⟩ : ∃ b, b = strOfNums (beI 8 kd) := ⟨_, rfl⟩
      have P1 := HI.out id
      have P2 := HI.out ep
      have P3 := HU.out kd
      rw [← hA1] at P1 S1
      rw [← hA2] at P2 S2
      rw [← hA3] at S3 HKB
      rw [← hB3] at P3 HKB
      have Q1 := Lib.hid P1
      have Q2 := Lib.hid P2
      have Q3 := Lib.hid P3
      have S5 : Hid (b3.size = 8) := Lib.hid (by rw [hB3, strOfNums_size, beI_len])
      have HA1 := Lib.hid hA1
      have HA2 := Lib.hid hA2
      have HA3 := Lib.hid hA3
      clear hA1 hA2 hA3 hB3 P1 P2 P3 HI HU
      have z0 : w4.cell? ⟨C, 0, none⟩ = some (.int .i64 id) := by rw [Lib.cell_of_heap C4.out]; rfl
      have z1 : w4.cell? ⟨C, 1, none⟩ = some (.int .i64 ep) := by rw [Lib.cell_of_heap C4.out]; rfl
      have z2 : w4.cell? ⟨C, 2, none⟩ = some (.int .i64 kd) := by rw [Lib.cell_of_heap C4.out]; rfl
      have z3 : w4.cell? ⟨C, 3, none⟩ = some (.string pay) := by rw [Lib.cell_of_heap C4.out]; rfl
      obtain ⟨t0, ht0⟩ : ∃ t : ByteArray, t = ⟨#[]⟩ := ⟨_, rfl⟩
      rw [← ht0] at L4
      have T0 : Hid (t0.size = 0) := Lib.hid (by rw [ht0]; rfl)
      have HT0 := Lib.hid ht0
      clear ht0
      go_wp2_with fail
      refine (Q1.out _).mono ?_
      rintro e w5 ⟨rfl, hb⟩
      have L5 := Lib.hid (L4.out.below hb)
      have B5 := Lib.hid (bthen B4.out hb)
      have C5 := Lib.hid ((hb.block C (Array.getElem?_eq_some_iff.1 C4.out).1).trans C4.out)
      clear hb z0 z1 z2 z3
      go_wp2_with fail
      refine (player1_any (base := u.heap.size + 1) L5.out a1 (by (try simp only [ByteArray.size_append]); have := T0.out; have := S1.out; have := S2.out; have := S3.out; omega) (by (try simp only [ByteArray.size_append]); have := T0.out; have := S1.out; have := S2.out; have := S3.out; have := S4.out; omega) (by omega) (by omega)).mono ?_
      rintro e w6 ⟨rfl, hl, hb⟩
      have L6 := Lib.hid hl
      have B6 := Lib.hid (B5.out.trans (hb.mono (Nat.le_succ _)))
      have C6 := Lib.hid ((hb.block C (by have := NC.out; omega)).trans C5.out)
      clear hb hl
      have z0 : w6.cell? ⟨C, 0, none⟩ = some (.int .i64 id) := by rw [Lib.cell_of_heap C6.out]; rfl
      have z1 : w6.cell? ⟨C, 1, none⟩ = some (.int .i64 ep) := by rw [Lib.cell_of_heap C6.out]; rfl
      have z2 : w6.cell? ⟨C, 2, none⟩ = some (.int .i64 kd) := by rw [Lib.cell_of_heap C6.out]; rfl
      have z3 : w6.cell? ⟨C, 3, none⟩ = some (.string pay) := by rw [Lib.cell_of_heap C6.out]; rfl
      go_wp2_with fail
      refine (Q2.out _).mono ?_
      rintro e w7 ⟨rfl, hb⟩
      have L7 := Lib.hid (L6.out.below hb)
      have B7 := Lib.hid (bthen B6.out hb)
      have C7 := Lib.hid ((hb.block C (Array.getElem?_eq_some_iff.1 C6.out).1).trans C6.out)
      clear hb z0 z1 z2 z3
      go_wp2_with fail
      refine (player1_any (base := u.heap.size + 1) L7.out a2 (by (try simp only [ByteArray.size_append]); have := T0.out; have := S1.out; have := S2.out; have := S3.out; omega) (by (try simp only [ByteArray.size_append]); have := T0.out; have := S1.out; have := S2.out; have := S3.out; have := S4.out; omega) (by omega) (by omega)).mono ?_
      rintro e w8 ⟨rfl, hl, hb⟩
      have L8 := Lib.hid hl
      have B8 := Lib.hid (B7.out.trans (hb.mono (Nat.le_succ _)))
      have C8 := Lib.hid ((hb.block C (by have := NC.out; omega)).trans C7.out)
      clear hb hl
      have z0 : w8.cell? ⟨C, 0, none⟩ = some (.int .i64 id) := by rw [Lib.cell_of_heap C8.out]; rfl
      have z1 : w8.cell? ⟨C, 1, none⟩ = some (.int .i64 ep) := by rw [Lib.cell_of_heap C8.out]; rfl
      have z2 : w8.cell? ⟨C, 2, none⟩ = some (.int .i64 kd) := by rw [Lib.cell_of_heap C8.out]; rfl
      have z3 : w8.cell? ⟨C, 3, none⟩ = some (.string pay) := by rw [Lib.cell_of_heap C8.out]; rfl
      go_wp2_with fail
      refine (Q3.out _).mono ?_
      rintro e w9 ⟨rfl, hb⟩
      have L9 := Lib.hid (L8.out.below hb)
      have B9 := Lib.hid (bthen B8.out hb)
      have C9 := Lib.hid ((hb.block C (Array.getElem?_eq_some_iff.1 C8.out).1).trans C8.out)
      clear hb z0 z1 z2 z3
      have b8 : b3.size = 8 := S5.out
      have b8a : decide ((4 : Int) ≤ (b3.size : Int)) = true := by simp; omega
      have kb := HKB.out
      have kb2 := kb
      rw [b8] at kb2
      go_wp2_with fail
      try rw [b8]
      try rw [kb2]
      try rw [kb]
      refine (player1_any (base := u.heap.size + 1) L9.out a3 (by (try simp only [ByteArray.size_append]); have := T0.out; have := S1.out; have := S2.out; have := S3.out; omega) (by (try simp only [ByteArray.size_append]); have := T0.out; have := S1.out; have := S2.out; have := S3.out; have := S4.out; omega) (by omega) (by omega)).mono ?_
      rintro e w10 ⟨rfl, hl, hb⟩
      have L10 := Lib.hid hl
      have B10 := Lib.hid (B9.out.trans (hb.mono (Nat.le_succ _)))
      have C10 := Lib.hid ((hb.block C (by have := NC.out; omega)).trans C9.out)
      clear hb hl
      have z0 : w10.cell? ⟨C, 0, none⟩ = some (.int .i64 id) := by rw [Lib.cell_of_heap C10.out]; rfl
      have z1 : w10.cell? ⟨C, 1, none⟩ = some (.int .i64 ep) := by rw [Lib.cell_of_heap C10.out]; rfl
      have z2 : w10.cell? ⟨C, 2, none⟩ = some (.int .i64 kd) := by rw [Lib.cell_of_heap C10.out]; rfl
      have z3 : w10.cell? ⟨C, 3, none⟩ = some (.string pay) := by rw [Lib.cell_of_heap C10.out]; rfl
      go_wp2_with fail
      refine (player1_any (base := u.heap.size + 1) L10.out pay (by (try simp only [ByteArray.size_append]); have := T0.out; have := S1.out; have := S2.out; have := S3.out; omega) (by (try simp only [ByteArray.size_append]); have := T0.out; have := S1.out; have := S2.out; have := S3.out; have := S4.out; omega) (by omega) (by omega)).mono ?_
      rintro e w11 ⟨rfl, hl, hb⟩
      have L11 := Lib.hid hl
      have B11 := Lib.hid (B10.out.trans (hb.mono (Nat.le_succ _)))
      have C11 := Lib.hid ((hb.block C (by have := NC.out; omega)).trans C10.out)
      clear hb hl
      have z0 : w11.cell? ⟨C, 0, none⟩ = some (.int .i64 id) := by rw [Lib.cell_of_heap C11.out]; rfl
      have z1 : w11.cell? ⟨C, 1, none⟩ = some (.int .i64 ep) := by rw [Lib.cell_of_heap C11.out]; rfl
      have z2 : w11.cell? ⟨C, 2, none⟩ = some (.int .i64 kd) := by rw [Lib.cell_of_heap C11.out]; rfl
      have z3 : w11.cell? ⟨C, 3, none⟩ = some (.string pay) := by rw [Lib.cell_of_heap C11.out]; rfl
      have row := L11.out.row
      have eb : row252 (t0 ++ a1 ++ a2 ++ a3 ++ pay) = (List.range 252).map fun j => .int .u8 (byD (bodyP ⟨id, ep, kd, pay⟩) j) := by
        unfold row252
        have := lay_body ⟨id, ep, kd, pay⟩ S4.out
        rw [← HA1.out, ← HA2.out, ← HA3.out, ← HT0.out] at this
        have h2 := congrArg (List.map (Value.int .u8)) this
        rw [List.map_map, List.map_map] at h2
        exact h2
      rw [eb] at row
      have hcv := run_convert_bytes_arg (P := Tryz.prog) w11 71 5 Tryz.underlying71 Tryz.underlying5 B 0 252 252 ((List.range 252).map (byD (bodyP ⟨id, ep, kd, pay⟩))) (by simp) (fun k hk => by
        rw [Nat.zero_add, Lib.cell_of_heap row, List.getElem?_toArray, List.getElem?_map, List.getElem?_range hk, List.getD_eq_getElem?_getD, List.getElem?_map, List.getElem?_range hk]
        rfl) 9 Tryz.underlying9
      rw [nums_all _ (bodyP_size _)] at hcv
      have HLAY := Lib.hid (lay_any (bodyP ⟨id, ep, kd, pay⟩) (by rw [bodyP_size]; omega))
      have EZ : Hid (putRet ⟨id, ep, kd, pay⟩ = .returned (.tuple #[.string ⟨(laidL (bodyP ⟨id, ep, kd, pay⟩).data.toList).toArray⟩, .int .i64 0])) := Lib.hid (by
        have e0 : putE ⟨id, ep, kd, pay⟩ = 0 := putE_zero.2 ⟨⟨h1, h2, h3, h4, h5⟩, S4.out⟩
        unfold putRet putS
        rw [if_pos e0, e0]
        rfl)
      clear row eb z0 z1 z2 z3
      go_wp2_with fail
      refine (HLAY.out _).mono ?_
      rintro e w12 ⟨rfl, hb⟩
      have BE := Lib.hid (bthen B11.out hb)
      clear hb
      go_wp2_with fail
      go_ret2
      exact ⟨by rw [EZ.out]; rfl, BE.out⟩
  · obtain ⟨id, ep, kd, pay⟩ := p
    change Calls _ _ #[.agg #[.int .i64 id, .int .i64 ep, .int .i64 kd, .string pay]] _ _
    rw [rightB_no hr] at HM
    have EZ : Hid (putRet ⟨id, ep, kd, pay⟩ = .returned (.tuple #[.string ⟨#[]⟩, .int .i64 2])) := Lib.hid (by
      have e0 : putE ⟨id, ep, kd, pay⟩ = 2 := by unfold putE; rw [if_neg hr]
      unfold putRet putS
      rw [e0, if_neg (by decide)])
    clear hr
    dsimp only at hp hp1
    unfold pgV at HM
    dsimp only at HM
    have X1 := Lib.hid (heap_alloc_new u (.cells #[.int .i64 id, .int .i64 ep, .int .i64 kd, .string pay] 181))
    have B1 := Lib.hid (balloc u (.cells #[.int .i64 id, .int .i64 ep, .int .i64 kd, .string pay] 181))
    obtain ⟨C, hC⟩ : ∃ C, C = u.heap.size := ⟨_, rfl⟩
    rw [← hC] at X1
    go_enter Tryz.func187, Tryz.ntmps187
    go_upto_region 1 with fail
    rw [← hC]
    generalize u.alloc (.cells #[.int .i64 id, .int .i64 ep, .int .i64 kd, .string pay] 181) = w1 at *
    clear hC
    have x0 : w1.cell? ⟨C, 0, none⟩ = some (.int .i64 id) := by rw [Lib.cell_of_heap X1.out]; rfl
    have x1 : w1.cell? ⟨C, 1, none⟩ = some (.int .i64 ep) := by rw [Lib.cell_of_heap X1.out]; rfl
    have x2 : w1.cell? ⟨C, 2, none⟩ = some (.int .i64 kd) := by rw [Lib.cell_of_heap X1.out]; rfl
    have x3 : w1.cell? ⟨C, 3, none⟩ = some (.string pay) := by rw [Lib.cell_of_heap X1.out]; rfl
    go_wp2_with fail
    refine (HM.out _).mono ?_
    rintro e w2 ⟨rfl, hb2⟩
    clear x0 x1 x2 x3
    have X2 : Hid (w2.heap[C]? = some (.cells #[.int .i64 id, .int .i64 ep, .int .i64 kd, .string pay] 181 (0, 0))) := Lib.hid ((hb2.block C (by have := X1.out; exact (Array.getElem?_eq_some_iff.1 this).1)).trans X1.out)
    have y3 : w2.cell? ⟨C, 3, none⟩ = some (.string pay) := by rw [Lib.cell_of_heap X2.out]; rfl
    have B2 := Lib.hid (bthen B1.out hb2)
    go_wp2_with fail
    go_ret2
    exact ⟨by rw [EZ.out]; rfl, B2.out⟩

end Go.Proofs.YtmflkkkbahghgaaGreat
namespace Go.Proofs.YtmflkkkbahghgaaGreat
open Go.RowKit Go.Deep
set_option linter.unusedVariables false
set_option linter.unusedSimpArgs false
set_option maxRecDepth 100000

theorem wr_stop {d : Dk} {s : ByteArray} {a : Int} {i : Nat} (h : (wrN d s a i).2 ≠ 0) : ∀ k, wrN d s a (i + k) = wrN d s a i
  | 0 => rfl
  | k + 1 => by
    have ih := wr_stop h k
    show wrN d s a ((i + k) + 1) = _
    simp only [wrN]
    rw [ih, if_neg h]
theorem wr_next {d : Dk} {s : ByteArray} {a : Int} {i : Nat} (h : (wrN d s a i).2 = 0) : wrN d s a (i + 1) = (writeD (wrN d s a i).1 (a + (i : Int)) (quart s i), writeE (wrN d s a i).1 (a + (i : Int))) := by
  simp only [wrN]
  rw [if_pos h]
theorem run_index_four (q : Nat → ByteArray) (j : Nat) (hj : j < 4) (w : World) : (Instr.index 200 (.agg #[.string (q 0), .string (q 1), .string (q 2), .string (q 3)]) (.int .i64 (j : Int))).run Tryz.prog w = .ok (.string (q j)) w := by
  have h1 : (0 : Int) ≤ (j : Int) ∧ (j : Int) < 4 := by omega
  rcases (by omega : j = 0 ∨ j = 1 ∨ j = 2 ∨ j = 3) with rfl | rfl | rfl | rfl <;>
    simp [Instr.index, run_underlying Tryz.underlying200, asIntOf, h1, go_sem]
variable {base P bS bm cS : Nat} {d : Dk} {u : World}
theorem bd_wr (hn : d.n ≤ 4096) (hc : d.calls < 950000) (ha : d.arm ≤ 9223372036854775807) (s : ByteArray) (a : Int) {i : Nat} (hi : i ≤ 4) : BdD (wrN d s a i).1 := by
  have h := wr_bd d s a i
  exact ⟨by rw [wr_n]; exact hn, by omega, by omega⟩
set_option maxHeartbeats 6400000 in
theorem ppwrite_any (h : PDk base P bS bm cS d u) (hn : d.n ≤ 4096) (hc : d.calls < 950000) (ha : d.arm ≤ 9223372036854775807) (p : Pg) (hp : p.pay.size ≤ 9223372036854775807) : Calls Tryz.prog 172 #[.pointer (some ⟨P, 0, none⟩), .agg (pgV p).toArray] u fun r u' => r = .returned (.int .i64 (writeP d p).2) ∧ PDk base P bS bm cS (writeP d p).1 u' ∧ KpS (P3 P bS bm) u u' := by
  have HPut := Lib.hid (fun w => pput_any p w hp)
  have HR := Lib.hid (fun hq : putE p = 0 => (putE_zero.1 hq).1)
  have HS := Lib.hid (fun hq : putE p = 0 => putS_size hq)
  have EW : Hid (writeP d p = if putE p = 0 then (if manyP d.n ≤ p.id then (d, 3) else wrN d (putS p) (2 + 4 * p.id) 4) else (d, putE p)) := Lib.hid rfl
  unfold putRet at HPut
  obtain ⟨id, ep, kd, pay⟩ := p
  obtain ⟨wp, hwp⟩ : ∃ x, x = writeP d ⟨id, ep, kd, pay⟩ := ⟨_, rfl⟩
  rw [← hwp] at EW ⊢
  generalize putS ⟨id, ep, kd, pay⟩ = s at *
  have HR0 : Hid (putE ⟨id, ep, kd, pay⟩ = 0 → 0 ≤ id) := Lib.hid (fun hq => (HR.out hq).1)
  generalize putE ⟨id, ep, kd, pay⟩ = pe at *
  clear hwp HR hp
  unfold pgV at HPut ⊢
  dsimp only at HPut EW ⊢
  have X1 := Lib.hid (heap_alloc_new u (.cells #[.int .i64 id, .int .i64 ep, .int .i64 kd, .string pay] 181))
  have B1 := Lib.hid (balloc u (.cells #[.int .i64 id, .int .i64 ep, .int .i64 kd, .string pay] 181))
  have D1 := Lib.hid (h.below B1.out)
  obtain ⟨C, hC⟩ : ∃ C, C = u.heap.size := ⟨_, rfl⟩
  have NC : Hid (P3 P bS bm C = false) := Lib.hid (P3.no (by have := h.lt; omega) (by have := h.lt; omega) (by have := h.lt; omega))
  rw [← hC] at X1
  clear h
  go_enter Tryz.func172, Tryz.ntmps172
  go_upto_region 1 with fail
  rw [← hC]
  generalize u.alloc (.cells #[.int .i64 id, .int .i64 ep, .int .i64 kd, .string pay] 181) = w1 at *
  clear hC
  obtain ⟨x0, x1, x2, x3⟩ := four_cells X1.out
  by_cases he : pe = 0
  · subst he
    rw [if_pos rfl] at EW
    have id0 := HR0.out (by trivial)
    go_wp2_with fail
    refine (HPut.out _).mono ?_
    rintro e w2 ⟨rfl, hb⟩
    clear x0 x1 x2 x3
    have X2 := Lib.hid (heap_stays X1.out hb)
    have B2 := Lib.hid (bthen B1.out hb)
    have D2 := Lib.hid (D1.out.below hb)
    obtain ⟨x0, x1, x2, x3⟩ := four_cells X2.out
    have HH := Lib.hid (phas_any D2.out hn id)
    clear hb
    cases hb : hasB d id with
    | false =>
      rw [hb] at HH
      have hq := hasB_false hb
      rw [if_pos (show manyP (d.n : Int) ≤ id by omega)] at EW
      have K2 := Lib.hid (KpS.of B2.out : KpS (P3 P bS bm) u w2)
      clear hb hq
      go_wp2_with fail
      refine (HH.out).mono ?_
      rintro e w3 ⟨rfl, rfl⟩
      go_wp2_with fail
      go_ret
      rw [EW.out]
      exact ⟨rfl, D2.out, K2.out⟩
    | true =>
      rw [hb] at HH
      have hq := hasB_true hb
      rw [if_neg (show ¬ manyP (d.n : Int) ≤ id by omega)] at EW
      have hin := many_in hq.2 hq.1
      have id1 : id ≤ 4096 := by omega
      have HF := Lib.hid (fun w => pfirst_any id id0 id1 w)
      have HCut := Lib.hid (pcut_any s (HS.out (by trivial)) w2)
      unfold fourQ at HCut
      clear hb hq hin HS
      go_wp2_with fail
      refine (HH.out).mono ?_
      rintro e w3 ⟨rfl, rfl⟩
      go_wp2_with fail
      refine (HCut.out).mono ?_
      rintro e w3 ⟨rfl, hb⟩
      have X3 := Lib.hid (heap_stays X2.out hb)
      have K3 := Lib.hid (KpS.of (bthen B2.out hb) : KpS (P3 P bS bm) u w3)
      have D3 : Hid (PDk base P bS bm cS (wrN d s (2 + 4 * id) 0).1 w3) := Lib.hid (D2.out.below hb)
      clear hb x0 x1 x2 x3 HH HCut
      obtain ⟨q, hq⟩ : ∃ q : Nat → ByteArray, q = quart s := ⟨_, rfl⟩
      have HQ := Lib.hid hq
      rw [← hq]
      clear hq
      go_wp2_with fail
      go_loopw [7, 8, 9, 27] (fun _ _ _ i wr => ∃ j : Nat, j ≤ 4 ∧ i = .int .i64 j ∧ Hid ((wrN d s (2 + 4 * id) j).2 = 0) ∧ Hid (PDk base P bS bm cS (wrN d s (2 + 4 * id) j).1 wr) ∧ Hid (wr.heap[C]? = some (.cells #[.int .i64 id, .int .i64 ep, .int .i64 kd, .string pay] 181 (0, 0))) ∧ Hid (KpS (P3 P bS bm) u wr)) (fun _ _ _ i _ => 4 - (intOf i).toNat)
      case atStart => exact ⟨0, Nat.zero_le _, rfl, Lib.hid rfl, D3, X3, K3⟩
      case round =>
        obtain ⟨j, hj, rfl, HZ, HP, HX, HK⟩ := hrel
        by_cases hlt : j < 4
        · have d1 : decide ((j : Int) < 4) = true := by simp; omega
          have g0 : (0 : Int) ≤ (j : Int) := by omega
          have g1 : (j : Int) < 4 := by omega
          obtain ⟨x0, x1, x2, x3⟩ := four_cells HX.out
          have HW := Lib.hid (pwrite_any HP.out (bd_wr hn hc ha s (2 + 4 * id) (by omega)) (2 + 4 * id + (j : Int)) (quart s j))
          have EN := Lib.hid (wr_next HZ.out)
          rw [← HQ.out] at HW EN
          obtain ⟨ee, hee⟩ : ∃ x, x = writeE (wrN d s (2 + 4 * id) j).1 (2 + 4 * id + (j : Int)) := ⟨_, rfl⟩
          obtain ⟨dd, hdd⟩ : ∃ x, x = writeD (wrN d s (2 + 4 * id) j).1 (2 + 4 * id + (j : Int)) (q j) := ⟨_, rfl⟩
          rw [← hee, ← hdd] at HW EN
          clear hee hdd
          have qi : Hid (∀ w, (Instr.index 200 (.agg #[.string (q 0), .string (q 1), .string (q 2), .string (q 3)]) (.int .i64 (j : Int))).run Tryz.prog w = .ok (.string (q j)) w) := Lib.hid (run_index_four q j hlt)
          have FX := Lib.hid (fun (w4 : World) (k : KpS (P3 P bS bm) wr w4) => (k.blk (heap_lt HX.out) NC.out).trans HX.out)
          by_cases hz : ee = 0
          · subst hz
            focus
              (have qi2 := qi.out
               go_wp2_with fail
               refine (HF.out _).mono ?_
               rintro e w4 ⟨rfl, rfl⟩
               go_wp2_with fail
               refine (HW.out).mono ?_
               rintro e w5 ⟨rfl, r5, k5⟩
               have R5 := Lib.hid r5
               have K5 := Lib.hid k5
               have X5 := Lib.hid (FX.out w5 k5)
               clear r5 k5
               go_wp2_with fail
               go_roundw
               case rel => exact ⟨_, hlt, by go_num, Lib.hid (by rw [EN.out]), Lib.hid (by rw [EN.out]; exact R5.out), X5, Lib.hid (HK.out.trans K5.out)⟩
               case measure => simp [intOf]; try omega)
          · have hz2 : (ee != 0) = true := by simp [hz]
            have ES : Hid (wrN d s (2 + 4 * id) 4 = (dd, ee)) := Lib.hid (by
              have := wr_stop (d := d) (s := s) (a := 2 + 4 * id) (i := j + 1) (by rw [EN.out]; exact hz) (4 - (j + 1))
              rw [show j + 1 + (4 - (j + 1)) = 4 by omega, EN.out] at this
              exact this)
            focus
              (have qi2 := qi.out
               go_wp2_with fail
               refine (HF.out _).mono ?_
               rintro e w4 ⟨rfl, rfl⟩
               go_wp2_with fail
               refine (HW.out).mono ?_
               rintro e w5 ⟨rfl, r5, k5⟩
               have R5 := Lib.hid r5
               have K5 := Lib.hid (HK.out.trans k5)
               clear r5 k5
               go_wp2_with fail
               go_ret
               rw [EW.out, ES.out]
               exact ⟨rfl, R5.out, K5.out⟩)
        · obtain rfl : j = 4 := by omega
          have d1 : decide ((4 : Int) < 4) = false := by decide
          go_wp2_with fail
          go_ret
          rw [EW.out]
          exact ⟨by rw [HZ.out]; rfl, HP.out, HK.out⟩
  · rw [if_neg he] at EW
    have hz2 : (pe != 0) = true := by simp [he]
    go_wp2_with fail
    refine (HPut.out _).mono ?_
    rintro e w2 ⟨rfl, hb⟩
    have D2 := Lib.hid (D1.out.below hb)
    have K2 := Lib.hid (KpS.of (bthen B1.out hb) : KpS (P3 P bS bm) u w2)
    clear hb
    go_wp2_with fail
    go_ret
    rw [EW.out]
    exact ⟨rfl, D2.out, K2.out⟩

end Go.Proofs.YtmflkkkbahghgaaGreat
