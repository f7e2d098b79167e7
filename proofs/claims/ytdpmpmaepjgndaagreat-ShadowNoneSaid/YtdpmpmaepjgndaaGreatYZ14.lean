/- The contract of the program's Put. A page in a block of its own. The contracts of pack.read, ReadU, ReadI and of the document's own ReadU, ReadI. The contracts of the document's own ReadU and ReadI: the same as pack's. -/
import Derived.Deep.WholeRow
import Derived.Test.YtdpmpmaepjgndaaGreatYZ13
import Derived.Test.YtdpmpmaepjgndaaGreatYZ0
namespace Go.Proofs.YtdpmpmaepjgndaaGreat
open Go.RowKit Go.Deep
set_option linter.unusedVariables false
set_option linter.unusedSimpArgs false
set_option maxRecDepth 100000

theorem info252 : (Tryz.prog.info? 213).map (fun i => (i.zero, i.size)) = some (some (.agg (row252 ⟨#[]⟩).toArray), 252) := by kernel_rfl
theorem zero252 (w : World) : (zeroValue 213).run Tryz.prog w = .ok (.agg (row252 ⟨#[]⟩).toArray) w := (zero_of_info info252).1 w
theorem kind_bytes (k : Int) (h1 : 0 ≤ k) (h2 : k ≤ 2147483647) : (strOfNums (beI 8 k)).extract 4 (strOfNums (beI 8 k)).size = strOfNums (kindL k) := by
  have e : beI 8 k = [0, 0, 0, 0] ++ kindL k := by
    simp only [beI, kindL]
    simp
    omega
  rw [e, ← strOfNums_append]
  have hs : (strOfNums [0, 0, 0, 0] ++ strOfNums (kindL k)).size = 8 := by rw [ByteArray.size_append, strOfNums_size, strOfNums_size]; rfl
  have hk : (strOfNums (kindL k)).size = 4 := by rw [strOfNums_size]; rfl
  have hz : (strOfNums [0, 0, 0, 0]).size = 4 := by rw [strOfNums_size]; rfl
  apply byD_ext
  · rw [ByteArray.size_extract, hs, hk]; omega
  · intro j hj
    rw [ByteArray.size_extract, hs] at hj
    rw [byD_cut _ _ _ _ (by rw [hs]; omega), byD_app, hz, if_neg (by omega)]
    congr 1; omega
theorem lay_body (p : Pg) (h : p.pay.size ≤ 232) : (List.range 252).map (byD (((((⟨#[]⟩ : ByteArray) ++ strOfNums (beI 8 (flip63 p.id))) ++ strOfNums (beI 8 (flip63 p.ep))) ++ strOfNums (kindL p.kd)) ++ p.pay)) = (List.range 252).map (byD (bodyP p)) := by
  have e0 : (((⟨#[]⟩ : ByteArray) ++ strOfNums (beI 8 (flip63 p.id))) ++ strOfNums (beI 8 (flip63 p.ep))) ++ strOfNums (kindL p.kd) = strOfNums (headL p) := by
    rw [show (⟨#[]⟩ : ByteArray) ++ strOfNums (beI 8 (flip63 p.id)) = strOfNums (beI 8 (flip63 p.id)) from ByteArray.empty_append .., strOfNums_append, strOfNums_append]
    rfl
  rw [e0]
  refine List.map_congr_left fun j hj => ?_
  have hj2 : j < 252 := List.mem_range.1 hj
  unfold bodyP
  rw [byD_app, byD_app, strOfNums_size, headL_len]
  by_cases c : j < 20
  · rw [if_pos c, if_pos c]
  · rw [if_neg c, if_neg c, byD_pad _ _ _ (by omega)]
theorem nums_all (s : ByteArray) (h : s.size = 252) : strOfNums ((List.range 252).map (byD s)) = s := padN_self s 252 h

def putRet (p : Pg) : Ending := .returned (.tuple #[.string (putS p), .int .i64 (putE p)])
set_option maxHeartbeats 3200000 in
theorem pput_any (p : Pg) (u : World) (hp : p.pay.size ≤ 9223372036854775807) : Calls Tryz.prog 173 #[.agg (pgV p).toArray] u fun e w' => e = putRet p ∧ Below u.heap.size u w' := by
  have HM := Lib.hid (fun w => pmay_any p w)
  have hp1 : p.pay.size ≤ 9223372036854775807 := by omega
  by_cases hr : RightP p
  · by_cases hz : 232 < p.pay.size
    · obtain ⟨id, ep, kd, pay⟩ := p
      change Calls _ _ #[.agg #[.int .i64 id, .int .i64 ep, .int .i64 kd, .string pay]] _ _
      rw [rightB_yes hr] at HM
      have EZ : Hid (putRet ⟨id, ep, kd, pay⟩ = .returned (.tuple #[.string ⟨#[]⟩, .int .i64 4])) := Lib.hid (by
        have e0 : putE ⟨id, ep, kd, pay⟩ = 4 := by unfold putE; rw [if_pos hr, if_pos hz]
        unfold putRet putS
        rw [e0, if_neg (by decide)])
      clear hr
      dsimp only at hp hp1 hz
      unfold pgV at HM
      dsimp only at HM
      have X1 := Lib.hid (heap_alloc_new u (.cells #[.int .i64 id, .int .i64 ep, .int .i64 kd, .string pay] 41))
      have B1 := Lib.hid (balloc u (.cells #[.int .i64 id, .int .i64 ep, .int .i64 kd, .string pay] 41))
      have dz : decide ((232 : Int) < (pay.size : Int)) = true := by simp; omega
      have dz2 : decide (232 < pay.size) = true := by simp; omega
      obtain ⟨C, hC⟩ : ∃ C, C = u.heap.size := ⟨_, rfl⟩
      rw [← hC] at X1
      go_enter Tryz.func173, Tryz.ntmps173
      go_upto_region 1 with fail
      rw [← hC]
      generalize u.alloc (.cells #[.int .i64 id, .int .i64 ep, .int .i64 kd, .string pay] 41) = w1 at *
      clear hC
      have x0 : w1.cell? ⟨C, 0, none⟩ = some (.int .i64 id) := by rw [Lib.cell_of_heap X1.out]; rfl
      have x1 : w1.cell? ⟨C, 1, none⟩ = some (.int .i64 ep) := by rw [Lib.cell_of_heap X1.out]; rfl
      have x2 : w1.cell? ⟨C, 2, none⟩ = some (.int .i64 kd) := by rw [Lib.cell_of_heap X1.out]; rfl
      have x3 : w1.cell? ⟨C, 3, none⟩ = some (.string pay) := by rw [Lib.cell_of_heap X1.out]; rfl
      go_wp2_with fail
      refine (HM.out _).mono ?_
      rintro e w2 ⟨rfl, hb2⟩
      clear x0 x1 x2 x3
      have X2 : Hid (w2.heap[C]? = some (.cells #[.int .i64 id, .int .i64 ep, .int .i64 kd, .string pay] 41 (0, 0))) := Lib.hid ((hb2.block C (by have := X1.out; exact (Array.getElem?_eq_some_iff.1 this).1)).trans X1.out)
      have y3 : w2.cell? ⟨C, 3, none⟩ = some (.string pay) := by rw [Lib.cell_of_heap X2.out]; rfl
      have B2 := Lib.hid (bthen B1.out hb2)
      go_wp2_with fail
      go_ret2
      exact ⟨by rw [EZ.out]; rfl, B2.out⟩
    · obtain ⟨id, ep, kd, pay⟩ := p
      change Calls _ _ #[.agg #[.int .i64 id, .int .i64 ep, .int .i64 kd, .string pay]] _ _
      rw [rightB_yes hr] at HM
      obtain ⟨h1, h2, h3, h4, h5⟩ := hr
      dsimp only at h1 h2 h3 h4 h5 hz hp hp1
      unfold pgV at HM
      dsimp only at HM
      have X1 := Lib.hid (heap_alloc_new u (.cells #[.int .i64 id, .int .i64 ep, .int .i64 kd, .string pay] 41))
      have B1 := Lib.hid (balloc u (.cells #[.int .i64 id, .int .i64 ep, .int .i64 kd, .string pay] 41))
      obtain ⟨C, hC⟩ : ∃ C, C = u.heap.size := ⟨_, rfl⟩
      have HCu := Lib.hid hC
      rw [← hC] at X1
      have dz : decide ((232 : Int) < (pay.size : Int)) = false := by simp; omega
      have dz2 : decide (232 < pay.size) = false := by simp; omega
      go_enter Tryz.func173, Tryz.ntmps173
      go_upto_region 1 with fail
      rw [← hC]
      generalize u.alloc (.cells #[.int .i64 id, .int .i64 ep, .int .i64 kd, .string pay] 41) = w1 at *
      clear hC
      have x0 : w1.cell? ⟨C, 0, none⟩ = some (.int .i64 id) := by rw [Lib.cell_of_heap X1.out]; rfl
      have x1 : w1.cell? ⟨C, 1, none⟩ = some (.int .i64 ep) := by rw [Lib.cell_of_heap X1.out]; rfl
      have x2 : w1.cell? ⟨C, 2, none⟩ = some (.int .i64 kd) := by rw [Lib.cell_of_heap X1.out]; rfl
      have x3 : w1.cell? ⟨C, 3, none⟩ = some (.string pay) := by rw [Lib.cell_of_heap X1.out]; rfl
      go_wp2_with fail
      refine (HM.out _).mono ?_
      rintro e w2 ⟨rfl, hb2⟩
      clear x0 x1 x2 x3
      have X2 : Hid (w2.heap[C]? = some (.cells #[.int .i64 id, .int .i64 ep, .int .i64 kd, .string pay] 41 (0, 0))) := Lib.hid ((hb2.block C (by have := X1.out; exact (Array.getElem?_eq_some_iff.1 this).1)).trans X1.out)
      have y0 : w2.cell? ⟨C, 0, none⟩ = some (.int .i64 id) := by rw [Lib.cell_of_heap X2.out]; rfl
      have y1 : w2.cell? ⟨C, 1, none⟩ = some (.int .i64 ep) := by rw [Lib.cell_of_heap X2.out]; rfl
      have y2 : w2.cell? ⟨C, 2, none⟩ = some (.int .i64 kd) := by rw [Lib.cell_of_heap X2.out]; rfl
      have y3 : w2.cell? ⟨C, 3, none⟩ = some (.string pay) := by rw [Lib.cell_of_heap X2.out]; rfl
      go_upto_region 5 with fail
      have Z := zero252 w2
      generalize hzr : (row252 ⟨#[]⟩).toArray = zr at Z
      go_upto_region 6 with fail
      have K3 := Lib.hid (heap_alloc_new w2 (.cells zr 213))
      have B2 := Lib.hid (bthen B1.out hb2)
      have B3 := Lib.hid (bthen B2.out (balloc w2 (.cells zr 213)))
      have hBu : u.heap.size + 1 ≤ w2.heap.size := by have h1 := (Array.getElem?_eq_some_iff.1 X2.out).1; have h2 := HCu.out; omega
      have C3 : Hid ((w2.alloc (.cells zr 213)).heap[C]? = some (.cells #[.int .i64 id, .int .i64 ep, .int .i64 kd, .string pay] 41 (0, 0))) := Lib.hid (((balloc w2 (.cells zr 213)).block C (Array.getElem?_eq_some_iff.1 X2.out).1).trans X2.out)
      have HL := Lib.hid (player_any w2.heap.size (w2.alloc (.cells zr 213)))
      have SB : Hid (w2.heap.size < (w2.alloc (.cells zr 213)).heap.size) := Lib.hid (by simp)
      have hBl := SB.out
      generalize hB : w2.heap.size = B at *
      generalize w2.alloc (.cells zr 213) = w3 at *
      clear hB Z y0 y1 y2 y3 X2 X1 hb2
      go_wp2_with fail
      refine (HL.out).mono ?_
      rintro e w4 ⟨rfl, hw4⟩
      have L4 : Hid (LayS (w3.heap.size + 1) w3.heap.size B ⟨#[]⟩ w4) := by
        have a1 := heap_alloc_new (w3.alloc (.cells #[.pointer (some ⟨B, 0, none⟩)] 216)) (.cells #[.int .i64 0] 3)
        have a2 := (balloc (w3.alloc (.cells #[.pointer (some ⟨B, 0, none⟩)] 216)) (.cells #[.int .i64 0] 3)).block w3.heap.size (by simp)
        rw [heap_alloc_new w3] at a2
        have b1 := (balloc w3 (.cells #[.pointer (some ⟨B, 0, none⟩)] 216)).block B SB.out
        have b2 := (balloc (w3.alloc (.cells #[.pointer (some ⟨B, 0, none⟩)] 216)) (.cells #[.int .i64 0] 3)).block B (by simp; omega)
        rw [← hw4] at a1 a2 b2
        refine ⟨?_, a2, ?_⟩
        · rw [show (w3.alloc (.cells #[.pointer (some ⟨B, 0, none⟩)] 216)).heap.size = w3.heap.size + 1 by simp] at a1
          exact a1
        · rw [b2, b1, K3.out, hzr]
      have B34 : Hid (Below w3.heap.size w3 w4) := by rw [hw4]; exact Lib.hid (bthen (balloc _ _) (balloc _ _))
      have B4 := Lib.hid (bthen B3.out B34.out)
      have HB3 : u.heap.size ≤ w3.heap.size := B3.out.size
      have C4 := Lib.hid ((B34.out.block C (Array.getElem?_eq_some_iff.1 C3.out).1).trans C3.out)
      clear hw4 B34 C3 K3
      obtain ⟨A, hA⟩ : ∃ A, A = w3.heap.size + 1 := ⟨_, rfl⟩
      obtain ⟨X, hX⟩ : ∃ X, X = w3.heap.size := ⟨_, rfl⟩
      rw [← hA, ← hX] at L4
      have hAu : u.heap.size + 1 ≤ A := by omega
      have NC : Hid (C = u.heap.size) := HCu
      rw [← hA, ← hX]
      clear hA hX
      have S1 : Hid ((strOfNums (beI 8 (flip63 id))).size = 8) := Lib.hid (by rw [strOfNums_size, beI_len])
      have S2 : Hid ((strOfNums (beI 8 (flip63 ep))).size = 8) := Lib.hid (by rw [strOfNums_size, beI_len])
      have S3 : Hid ((strOfNums (kindL kd)).size = 4) := Lib.hid (by rw [strOfNums_size]; rfl)
      have S4 : Hid (pay.size ≤ 232) := Lib.hid (by omega)
      have HI := Lib.hid (fun n w => packI n w)
      have HU := Lib.hid (fun n w => packU n w)
      have HKB := Lib.hid (kind_bytes kd h4 h5)
      obtain ⟨a1, hA1⟩ : ∃ a, a = strOfNums (beI 8 (flip63 id)) := ⟨_, rfl⟩
      obtain ⟨a2, hA2⟩ : ∃ a, a = strOfNums (beI 8 (flip63 ep)) := ⟨_, rfl⟩
      obtain ⟨a3, hA3⟩ : ∃ a, a = strOfNums (kindL kd) := ⟨_, rfl⟩
      obtain ⟨b3, hB3⟩ : ∃ b, b = strOfNums (beI 8 kd) := ⟨_, rfl⟩
      have P1 := HI.out id
      have P2 := HI.out ep
      have P3 := HU.out kd
      rw [← hA1] at P1 S1
      rw [← hA2] at P2 S2
      rw [← hA3] at S3 HKB
      rw [← hB3] at P3 HKB
      have Q1 := Lib.hid P1
      have Q2 := Lib.hid P2
      have Q3 := Lib.hid P3
      have S5 : Hid (b3.size = 8) := Lib.hid (by rw [hB3, strOfNums_size, beI_len])
      have HA1 := Lib.hid hA1
      have HA2 := Lib.hid hA2
      have HA3 := Lib.hid hA3
      clear hA1 hA2 hA3 hB3 P1 P2 P3 HI HU
      have z0 : w4.cell? ⟨C, 0, none⟩ = some (.int .i64 id) := by rw [Lib.cell_of_heap C4.out]; rfl
      have z1 : w4.cell? ⟨C, 1, none⟩ = some (.int .i64 ep) := by rw [Lib.cell_of_heap C4.out]; rfl
      have z2 : w4.cell? ⟨C, 2, none⟩ = some (.int .i64 kd) := by rw [Lib.cell_of_heap C4.out]; rfl
      have z3 : w4.cell? ⟨C, 3, none⟩ = some (.string pay) := by rw [Lib.cell_of_heap C4.out]; rfl
      obtain ⟨t0, ht0⟩ : ∃ t : ByteArray, t = ⟨#[]⟩ := ⟨_, rfl⟩
      rw [← ht0] at L4
      have T0 : Hid (t0.size = 0) := Lib.hid (by rw [ht0]; rfl)
      have HT0 := Lib.hid ht0
      clear ht0
      go_wp2_with fail
      refine (Q1.out _).mono ?_
      rintro e w5 ⟨rfl, hb⟩
      have L5 := Lib.hid (L4.out.below hb)
      have B5 := Lib.hid (bthen B4.out hb)
      have C5 := Lib.hid ((hb.block C (Array.getElem?_eq_some_iff.1 C4.out).1).trans C4.out)
      clear hb z0 z1 z2 z3
      go_wp2_with fail
      refine (player1_any (base := u.heap.size + 1) L5.out a1 (by (try simp only [ByteArray.size_append]); have := T0.out; have := S1.out; have := S2.out; have := S3.out; omega) (by (try simp only [ByteArray.size_append]); have := T0.out; have := S1.out; have := S2.out; have := S3.out; have := S4.out; omega) (by omega) (by omega)).mono ?_
      rintro e w6 ⟨rfl, hl, hb⟩
      have L6 := Lib.hid hl
      have B6 := Lib.hid (B5.out.trans (hb.mono (Nat.le_succ _)))
      have C6 := Lib.hid ((hb.block C (by have := NC.out; omega)).trans C5.out)
      clear hb hl
      have z0 : w6.cell? ⟨C, 0, none⟩ = some (.int .i64 id) := by rw [Lib.cell_of_heap C6.out]; rfl
      have z1 : w6.cell? ⟨C, 1, none⟩ = some (.int .i64 ep) := by rw [Lib.cell_of_heap C6.out]; rfl
      have z2 : w6.cell? ⟨C, 2, none⟩ = some (.int .i64 kd) := by rw [Lib.cell_of_heap C6.out]; rfl
      have z3 : w6.cell? ⟨C, 3, none⟩ = some (.string pay) := by rw [Lib.cell_of_heap C6.out]; rfl
      go_wp2_with fail
      refine (Q2.out _).mono ?_
      rintro e w7 ⟨rfl, hb⟩
      have L7 := Lib.hid (L6.out.below hb)
      have B7 := Lib.hid (bthen B6.out hb)
      have C7 := Lib.hid ((hb.block C (Array.getElem?_eq_some_iff.1 C6.out).1).trans C6.out)
      clear hb z0 z1 z2 z3
      go_wp2_with fail
      refine (player1_any (base := u.heap.size + 1) L7.out a2 (by (try simp only [ByteArray.size_append]); have := T0.out; have := S1.out; have := S2.out; have := S3.out; omega) (by (try simp only [ByteArray.size_append]); have := T0.out; have := S1.out; have := S2.out; have := S3.out; have := S4.out; omega) (by omega) (by omega)).mono ?_
      rintro e w8 ⟨rfl, hl, hb⟩
      have L8 := Lib.hid hl
      have B8 := Lib.hid (B7.out.trans (hb.mono (Nat.le_succ _)))
      have C8 := Lib.hid ((hb.block C (by have := NC.out; omega)).trans C7.out)
      clear hb hl
      have z0 : w8.cell? ⟨C, 0, none⟩ = some (.int .i64 id) := by rw [Lib.cell_of_heap C8.out]; rfl
      have z1 : w8.cell? ⟨C, 1, none⟩ = some (.int .i64 ep) := by rw [Lib.cell_of_heap C8.out]; rfl
      have z2 : w8.cell? ⟨C, 2, none⟩ = some (.int .i64 kd) := by rw [Lib.cell_of_heap C8.out]; rfl
      have z3 : w8.cell? ⟨C, 3, none⟩ = some (.string pay) := by rw [Lib.cell_of_heap C8.out]; rfl
      go_wp2_with fail
      refine (Q3.out _).mono ?_
      rintro e w9 ⟨rfl, hb⟩
      have L9 := Lib.hid (L8.out.below hb)
      have B9 := Lib.hid (bthen B8.out hb)
      have C9 := Lib.hid ((hb.block C (Array.getElem?_eq_some_iff.1 C8.out).1).trans C8.out)
      clear hb z0 z1 z2 z3
      have b8 : b3.size = 8 := S5.out
      have b8a : decide ((4 : Int) ≤ (b3.size : Int)) = true := by simp; omega
      have kb := HKB.out
      have kb2 := kb
      rw [b8] at kb2
      go_wp2_with fail
      try rw [b8]
      try rw [kb2]
      try rw [kb]
      refine (player1_any (base := u.heap.size + 1) L9.out a3 (by (try simp only [ByteArray.size_append]); have := T0.out; have := S1.out; have := S2.out; have := S3.out; omega) (by (try simp only [ByteArray.size_append]); have := T0.out; have := S1.out; have := S2.out; have := S3.out; have := S4.out; omega) (by omega) (by omega)).mono ?_
      rintro e w10 ⟨rfl, hl, hb⟩
      have L10 := Lib.hid hl
      have B10 := Lib.hid (B9.out.trans (hb.mono (Nat.le_succ _)))
      have C10 := Lib.hid ((hb.block C (by have := NC.out; omega)).trans C9.out)
      clear hb hl
      have z0 : w10.cell? ⟨C, 0, none⟩ = some (.int .i64 id) := by rw [Lib.cell_of_heap C10.out]; rfl
      have z1 : w10.cell? ⟨C, 1, none⟩ = some (.int .i64 ep) := by rw [Lib.cell_of_heap C10.out]; rfl
      have z2 : w10.cell? ⟨C, 2, none⟩ = some (.int .i64 kd) := by rw [Lib.cell_of_heap C10.out]; rfl
      have z3 : w10.cell? ⟨C, 3, none⟩ = some (.string pay) := by rw [Lib.cell_of_heap C10.out]; rfl
      go_wp2_with fail
      refine (player1_any (base := u.heap.size + 1) L10.out pay (by (try simp only [ByteArray.size_append]); have := T0.out; have := S1.out; have := S2.out; have := S3.out; omega) (by (try simp only [ByteArray.size_append]); have := T0.out; have := S1.out; have := S2.out; have := S3.out; have := S4.out; omega) (by omega) (by omega)).mono ?_
      rintro e w11 ⟨rfl, hl, hb⟩
      have L11 := Lib.hid hl
      have B11 := Lib.hid (B10.out.trans (hb.mono (Nat.le_succ _)))
      have C11 := Lib.hid ((hb.block C (by have := NC.out; omega)).trans C10.out)
      clear hb hl
      have z0 : w11.cell? ⟨C, 0, none⟩ = some (.int .i64 id) := by rw [Lib.cell_of_heap C11.out]; rfl
      have z1 : w11.cell? ⟨C, 1, none⟩ = some (.int .i64 ep) := by rw [Lib.cell_of_heap C11.out]; rfl
      have z2 : w11.cell? ⟨C, 2, none⟩ = some (.int .i64 kd) := by rw [Lib.cell_of_heap C11.out]; rfl
      have z3 : w11.cell? ⟨C, 3, none⟩ = some (.string pay) := by rw [Lib.cell_of_heap C11.out]; rfl
      have row := L11.out.row
      have eb : row252 (t0 ++ a1 ++ a2 ++ a3 ++ pay) = (List.range 252).map fun j => .int .u8 (byD (bodyP ⟨id, ep, kd, pay⟩) j) := by
        unfold row252
        have := lay_body ⟨id, ep, kd, pay⟩ S4.out
        rw [← HA1.out, ← HA2.out, ← HA3.out, ← HT0.out] at this
        have h2 := congrArg (List.map (Value.int .u8)) this
        rw [List.map_map, List.map_map] at h2
        exact h2
      rw [eb] at row
      have hcv := run_convert_bytes_arg (P := Tryz.prog) w11 97 5 Tryz.underlying97 Tryz.underlying5 B 0 252 252 ((List.range 252).map (byD (bodyP ⟨id, ep, kd, pay⟩))) (by simp) (fun k hk => by
        rw [Nat.zero_add, Lib.cell_of_heap row, List.getElem?_toArray, List.getElem?_map, List.getElem?_range hk, List.getD_eq_getElem?_getD, List.getElem?_map, List.getElem?_range hk]
        rfl) 9 Tryz.underlying9
      rw [nums_all _ (bodyP_size _)] at hcv
      have HLAY := Lib.hid (lay_any (bodyP ⟨id, ep, kd, pay⟩) (by rw [bodyP_size]; omega))
      have EZ : Hid (putRet ⟨id, ep, kd, pay⟩ = .returned (.tuple #[.string ⟨(laidL (bodyP ⟨id, ep, kd, pay⟩).data.toList).toArray⟩, .int .i64 0])) := Lib.hid (by
        have e0 : putE ⟨id, ep, kd, pay⟩ = 0 := putE_zero.2 ⟨⟨h1, h2, h3, h4, h5⟩, S4.out⟩
        unfold putRet putS
        rw [if_pos e0, e0]
        rfl)
      clear row eb z0 z1 z2 z3
      go_wp2_with fail
      refine (HLAY.out _).mono ?_
      rintro e w12 ⟨rfl, hb⟩
      have BE := Lib.hid (bthen B11.out hb)
      clear hb
      go_wp2_with fail
      go_ret2
      exact ⟨by rw [EZ.out]; rfl, BE.out⟩
  · obtain ⟨id, ep, kd, pay⟩ := p
    change Calls _ _ #[.agg #[.int .i64 id, .int .i64 ep, .int .i64 kd, .string pay]] _ _
    rw [rightB_no hr] at HM
    have EZ : Hid (putRet ⟨id, ep, kd, pay⟩ = .returned (.tuple #[.string ⟨#[]⟩, .int .i64 2])) := Lib.hid (by
      have e0 : putE ⟨id, ep, kd, pay⟩ = 2 := by unfold putE; rw [if_neg hr]
      unfold putRet putS
      rw [e0, if_neg (by decide)])
    clear hr
    dsimp only at hp hp1
    unfold pgV at HM
    dsimp only at HM
    have X1 := Lib.hid (heap_alloc_new u (.cells #[.int .i64 id, .int .i64 ep, .int .i64 kd, .string pay] 41))
    have B1 := Lib.hid (balloc u (.cells #[.int .i64 id, .int .i64 ep, .int .i64 kd, .string pay] 41))
    obtain ⟨C, hC⟩ : ∃ C, C = u.heap.size := ⟨_, rfl⟩
    rw [← hC] at X1
    go_enter Tryz.func173, Tryz.ntmps173
    go_upto_region 1 with fail
    rw [← hC]
    generalize u.alloc (.cells #[.int .i64 id, .int .i64 ep, .int .i64 kd, .string pay] 41) = w1 at *
    clear hC
    have x0 : w1.cell? ⟨C, 0, none⟩ = some (.int .i64 id) := by rw [Lib.cell_of_heap X1.out]; rfl
    have x1 : w1.cell? ⟨C, 1, none⟩ = some (.int .i64 ep) := by rw [Lib.cell_of_heap X1.out]; rfl
    have x2 : w1.cell? ⟨C, 2, none⟩ = some (.int .i64 kd) := by rw [Lib.cell_of_heap X1.out]; rfl
    have x3 : w1.cell? ⟨C, 3, none⟩ = some (.string pay) := by rw [Lib.cell_of_heap X1.out]; rfl
    go_wp2_with fail
    refine (HM.out _).mono ?_
    rintro e w2 ⟨rfl, hb2⟩
    clear x0 x1 x2 x3
    have X2 : Hid (w2.heap[C]? = some (.cells #[.int .i64 id, .int .i64 ep, .int .i64 kd, .string pay] 41 (0, 0))) := Lib.hid ((hb2.block C (by have := X1.out; exact (Array.getElem?_eq_some_iff.1 this).1)).trans X1.out)
    have y3 : w2.cell? ⟨C, 3, none⟩ = some (.string pay) := by rw [Lib.cell_of_heap X2.out]; rfl
    have B2 := Lib.hid (bthen B1.out hb2)
    go_wp2_with fail
    go_ret2
    exact ⟨by rw [EZ.out]; rfl, B2.out⟩

end Go.Proofs.YtdpmpmaepjgndaaGreat
namespace Go.Proofs.YtdpmpmaepjgndaaGreat
open Go.RowKit Go.Deep
set_option linter.unusedVariables false
set_option linter.unusedSimpArgs false
set_option maxRecDepth 100000

theorem four_cells {W : World} {B : Nat} {c0 c1 c2 c3 : Value} {T : TypeId} (h : W.heap[B]? = some (.cells #[c0, c1, c2, c3] T (0, 0))) :
    W.cell? ⟨B, 0, none⟩ = some c0 ∧ W.cell? ⟨B, 1, none⟩ = some c1 ∧ W.cell? ⟨B, 2, none⟩ = some c2 ∧ W.cell? ⟨B, 3, none⟩ = some c3 := by
  refine ⟨?_, ?_, ?_, ?_⟩ <;> (rw [Lib.cell_of_heap h]; rfl)
theorem put_four {W : World} {B : Nat} {c0 c1 c2 c3 : Value} {T : TypeId} (h : W.heap[B]? = some (.cells #[c0, c1, c2, c3] T (0, 0))) (u0 u1 u2 u3 : Value) :
    (W.setCells B 0 [u0, u1, u2, u3]).heap[B]? = some (.cells #[u0, u1, u2, u3] T (0, 0)) :=
  Joins.block_setCell (Joins.block_setCell (Joins.block_setCell (Joins.block_setCell h u0) u1) u2) u3
theorem put_below {base B : Nat} (hB : base ≤ B) : ∀ (l : List Value) (o : Nat) (W : World), Below base W (W.setCells B o l)
  | [], _, W => Below.refl _ _
  | v :: l, o, W => ((Below.refl base W).setCell (p := ⟨B, o, none⟩) hB v).trans (put_below hB l (o + 1) _)
theorem heap_lt {u : World} {B : Nat} {o : Obj} (h : u.heap[B]? = some o) : B < u.heap.size := (Array.getElem?_eq_some_iff.1 h).1
theorem heap_stays {u u2 : World} {B : Nat} {o : Obj} (h : u.heap[B]? = some o) (k : Below u.heap.size u u2) : u2.heap[B]? = some o := (k.block _ (heap_lt h)).trans h
def getRet (s : ByteArray) : Ending := .returned (.tuple #[.agg (pgV (getP s)).toArray, .int .i64 (getE s)])
theorem getRet_bad {s : ByteArray} {e : Int} (h : getE s = e) (hne : e ≠ 0) : getRet s = .returned (.tuple #[.agg #[.int .i64 0, .int .i64 0, .int .i64 0, .string ⟨#[]⟩], .int .i64 e]) := by
  unfold getRet getP
  rw [h, if_neg hne]
  rfl
theorem getRet_ok {s : ByteArray} (h : getE s = 0) : getRet s = .returned (.tuple #[.agg (pgV (tellP s)).toArray, .int .i64 0]) := by
  unfold getRet getP
  rw [h, if_pos rfl]

def readRet (d : Dk) (id : Int) : Ending := .returned (.tuple #[.agg (pgV (readPP d id)).toArray, .int .i64 (readPE d id)])
theorem readRet_bad {d : Dk} {id e : Int} (h : readPE d id = e) (hne : e ≠ 0) : readRet d id = .returned (.tuple #[.agg #[.int .i64 0, .int .i64 0, .int .i64 0, .string ⟨#[]⟩], .int .i64 e]) := by
  unfold readRet readPP
  rw [h, if_neg hne]
  rfl
theorem readRet_ok {d : Dk} {id : Int} (h : readPE d id = 0) : readRet d id = .returned (.tuple #[.agg (pgV (getP (pageS d id.toNat))).toArray, .int .i64 0]) := by
  unfold readRet readPP
  rw [h, if_pos rfl]

end Go.Proofs.YtdpmpmaepjgndaaGreat
namespace Go.Proofs.YtdpmpmaepjgndaaGreat
open Go.RowKit
set_option maxRecDepth 100000

set_option maxHeartbeats 400000 in
theorem read_ok (s : ByteArray) (a k : Nat) (hk : k ≤ 8) (hs : s.size ≤ maxLen) (ha : a + k ≤ s.size) (w : World) :
    Calls Tryz.prog 181 #[.string s, .int .i64 a, .int .i64 k] w fun e w' => e = .returned (.tuple #[.int .u64 (rdI s a k), .int .i64 ((a + k : Nat) : Int), .int .i64 0]) ∧ w = w' := by
  unfold maxLen at hs
  have h1 : ¬ ((a : Int) < 0) := by omega
  have h2 : ¬ ((s.size : Int) < (a : Int)) := by omega
  go_enter Tryz.func181, Tryz.ntmps181
  go_wp2_with fail
  go_loop [9, 26] (fun b i => ∃ j : Nat, j ≤ k ∧ i = .int .i64 j ∧ b = .int .u64 (rdI s a j)) (fun _ i => k - (intOf i).toNat)
  case atStart => exact ⟨0, by omega, rfl, rfl⟩
  case round =>
    obtain ⟨j, hj, rfl, rfl⟩ := hrel
    have hb := rdI_bd s a j
    have hc := byteI_bd s (a + j)
    by_cases hlt : j < k
    · go_wp2_with fail
      go_round
      case rel =>
        exact ⟨j + 1, by omega, by go_num, by rw [byteI_at s (a + j) (by omega), shl8_or _ _ hb.1 (rdI_56 s a j (by omega)) hc.1 hc.2]; rfl⟩
      case measure => simp [intOf]; omega
    · obtain rfl : j = k := by omega
      go_wp2_with fail
      go_ret3
      exact ⟨rfl, rfl⟩

set_option maxHeartbeats 400000 in
theorem read_any (s : ByteArray) (a : Int) (k : Nat) (hk : k ≤ 8) (hs : s.size ≤ maxLen) (hw : -9223372036854775808 ≤ a ∧ a ≤ 9223372036854775807) (w : World) :
    Calls Tryz.prog 181 #[.string s, .int .i64 a, .int .i64 k] w fun e w' => e = rdRet (rdSpec s a k) ∧ w = w' := by
  obtain ⟨hw1, hw2⟩ := hw
  by_cases h1 : a < 0
  · have E : Hid (rdSpec s a k = (0, 0, 3)) := by unfold rdSpec; rw [if_pos (.inl h1)]; exact rfl
    unfold maxLen at hs
    go_enter Tryz.func181, Tryz.ntmps181
    go_wp2_with fail
    go_ret3
    exact ⟨by rw [E.out]; rfl, rfl⟩
  by_cases h2 : (s.size : Int) < a
  · have E : Hid (rdSpec s a k = (0, 0, 3)) := by unfold rdSpec; rw [if_pos (.inr h2)]; exact rfl
    unfold maxLen at hs
    go_enter Tryz.func181, Tryz.ntmps181
    go_wp2_with fail
    go_ret3
    exact ⟨by rw [E.out]; rfl, rfl⟩
  by_cases h3 : (s.size : Int) - a < (k : Int)
  · have E : Hid (rdSpec s a k = (0, 0, 5)) := by unfold rdSpec; rw [if_neg (by omega), if_pos h3]; exact rfl
    unfold maxLen at hs
    go_enter Tryz.func181, Tryz.ntmps181
    go_wp2_with fail
    go_ret3
    exact ⟨by rw [E.out]; rfl, rfl⟩
  obtain ⟨b, rfl⟩ := Int.eq_ofNat_of_zero_le (show 0 ≤ a by omega)
  have E : rdSpec s b k = (rdI s b k, (b : Int) + (k : Int), 0) := by unfold rdSpec; rw [if_neg (by omega), if_neg h3, Int.toNat_natCast]
  rw [E]
  exact read_ok s b k hk hs (by omega) w

theorem read_8 (s : ByteArray) (a : Int) (hs : s.size ≤ maxLen) (hw : -9223372036854775808 ≤ a ∧ a ≤ 9223372036854775807) (w : World) :
    Calls Tryz.prog 181 #[.string s, .int .i64 a, .int .i64 8] w fun e w' => e = rdRet (rdSpec s a 8) ∧ w = w' := read_any s a 8 (by omega) hs hw w
theorem readU_any (s : ByteArray) (a : Int) (hs : s.size ≤ maxLen) (hw : -9223372036854775808 ≤ a ∧ a ≤ 9223372036854775807) (w : World) :
    Calls Tryz.prog 170 #[.string s, .int .i64 a] w fun e w' => e = rdRet (rdSpec s a 8) ∧ w = w' := by
  have H := Lib.hid (read_8 s a hs hw)
  generalize rdSpec s a 8 = x at H ⊢
  obtain ⟨x0, x1, x2⟩ := x
  unfold rdRet at H ⊢
  clear hs hw
  go_enter Tryz.func170, Tryz.ntmps170
  go_wp2_with (go_at_call 181; refine (H.out _).mono ?_; rintro e w' ⟨rfl, rfl⟩)
  go_ret3
  exact ⟨rfl, rfl⟩


theorem readI_any (s : ByteArray) (a : Int) (hs : s.size ≤ maxLen) (hw : -9223372036854775808 ≤ a ∧ a ≤ 9223372036854775807) (w : World) :
    Calls Tryz.prog 166 #[.string s, .int .i64 a] w fun e w' => e = rdIRet (rdISpec (rdSpec s a 8)) ∧ w = w' := by
  have H := Lib.hid (read_8 s a hs hw)
  generalize rdSpec s a 8 = x at H ⊢
  obtain ⟨x0, x1, x2⟩ := x
  unfold rdRet at H
  clear hs hw
  by_cases h0 : x2 = 0
  · subst h0
    have E : Hid (rdISpec (x0, x1, 0) = (unflip63 x0, x1, 0)) := by unfold rdISpec; simp [Hid]
    go_enter Tryz.func166, Tryz.ntmps166
    go_wp2_with (go_at_call 181; refine (H.out _).mono ?_; rintro e w' ⟨rfl, rfl⟩)
    go_ret3
    exact ⟨by rw [E.out]; rfl, rfl⟩
  · have E : Hid (rdISpec (x0, x1, x2) = (0, 0, x2)) := by unfold rdISpec; simp [Hid, h0]
    have hne : (x2 != 0) = true := by simp [h0]
    go_enter Tryz.func166, Tryz.ntmps166
    go_wp2_with (go_at_call 181; refine (H.out _).mono ?_; rintro e w' ⟨rfl, rfl⟩)
    go_ret3
    exact ⟨by rw [E.out]; rfl, rfl⟩

end Go.Proofs.YtdpmpmaepjgndaaGreat
namespace Go.Proofs.YtdpmpmaepjgndaaGreat
open Go.RowKit
set_option maxRecDepth 100000

set_option maxHeartbeats 400000 in
theorem refReadU_ok (s : ByteArray) (a : Nat) (hs : s.size ≤ maxLen) (ha : a + 8 ≤ s.size) (w : World) :
    Calls Tryz.prog 97 #[.string s, .int .i64 a] w fun e w' => e = .returned (.tuple #[.int .u64 (rdI s a 8), .int .i64 ((a : Int) + 8), .int .i64 0]) ∧ w = w' := by
  unfold maxLen at hs
  have h1 : ¬ ((a : Int) < 0) := by omega
  have h2 : ¬ ((s.size : Int) < (a : Int)) := by omega
  go_enter Tryz.func97, Tryz.ntmps97
  go_wp2_with fail
  go_loop [7, 8] (fun b i => ∃ j : Nat, j ≤ 8 ∧ i = .int .i64 j ∧ b = .int .u64 (rdI s a j)) (fun _ i => 8 - (intOf i).toNat)
  case atStart => exact ⟨0, by omega, rfl, rfl⟩
  case round =>
    obtain ⟨j, hj, rfl, rfl⟩ := hrel
    have hb := rdI_bd s a j
    have hb1 := hb.1
    have hc := byteI_bd s (a + j)
    by_cases hlt : j < 8
    · have hb2 := rdI_56 s a j hlt
      have hx := byteI_at s (a + j) (by omega)
      have h4 : ((s[a + j].toNat : Nat) : Int) ≤ 255 := by rw [hx]; exact hc.2
      have HX := Lib.hid hx
      clear hx hb
      go_wp2_with fail
      go_round
      case rel => exact ⟨j + 1, by omega, by go_num, by rw [HX.out]; rfl⟩
      case measure => simp [intOf]; omega
    · obtain rfl : j = 8 := by omega
      go_wp2_with fail
      go_ret3
      exact ⟨rfl, rfl⟩

set_option maxHeartbeats 400000 in
theorem refReadU_any (s : ByteArray) (a : Int) (hs : s.size ≤ maxLen) (hw : -9223372036854775808 ≤ a ∧ a ≤ 9223372036854775807) (w : World) :
    Calls Tryz.prog 97 #[.string s, .int .i64 a] w fun e w' => e = rdRet (rdSpec s a 8) ∧ w = w' := by
  obtain ⟨hw1, hw2⟩ := hw
  by_cases h1 : a < 0
  · have E : Hid (rdSpec s a 8 = (0, 0, 3)) := by unfold rdSpec; rw [if_pos (.inl h1)]; exact rfl
    unfold maxLen at hs
    go_enter Tryz.func97, Tryz.ntmps97
    go_wp2_with fail
    go_ret3
    exact ⟨by rw [E.out]; rfl, rfl⟩
  by_cases h2 : (s.size : Int) < a
  · have E : Hid (rdSpec s a 8 = (0, 0, 3)) := by unfold rdSpec; rw [if_pos (.inr h2)]; exact rfl
    unfold maxLen at hs
    go_enter Tryz.func97, Tryz.ntmps97
    go_wp2_with fail
    go_ret3
    exact ⟨by rw [E.out]; rfl, rfl⟩
  by_cases h3 : (s.size : Int) - a < 8
  · have E : Hid (rdSpec s a 8 = (0, 0, 5)) := by unfold rdSpec; rw [if_neg (by omega), if_pos (by exact h3)]; exact rfl
    unfold maxLen at hs
    go_enter Tryz.func97, Tryz.ntmps97
    go_wp2_with fail
    go_ret3
    exact ⟨by rw [E.out]; rfl, rfl⟩
  obtain ⟨b, rfl⟩ := Int.eq_ofNat_of_zero_le (show 0 ≤ a by omega)
  have E : rdSpec s b 8 = (rdI s b 8, (b : Int) + 8, 0) := by unfold rdSpec; rw [if_neg (by omega), if_neg (by exact h3), Int.toNat_natCast]; rfl
  rw [E]
  exact refReadU_ok s b hs (by omega) w

theorem refReadI_any (s : ByteArray) (a : Int) (hs : s.size ≤ maxLen) (hw : -9223372036854775808 ≤ a ∧ a ≤ 9223372036854775807) (w : World) :
    Calls Tryz.prog 52 #[.string s, .int .i64 a] w fun e w' => e = rdIRet (rdISpec (rdSpec s a 8)) ∧ w = w' := by
  have H := Lib.hid (refReadU_any s a hs hw)
  generalize rdSpec s a 8 = x at H ⊢
  obtain ⟨x0, x1, x2⟩ := x
  unfold rdRet at H
  clear hs hw
  by_cases h0 : x2 = 0
  · subst h0
    have E : Hid (rdISpec (x0, x1, 0) = (unflip63 x0, x1, 0)) := by unfold rdISpec; simp [Hid]
    go_enter Tryz.func52, Tryz.ntmps52
    go_wp2_with (go_at_call 97; refine (H.out _).mono ?_; rintro e w' ⟨rfl, rfl⟩)
    go_ret3
    exact ⟨by rw [E.out]; rfl, rfl⟩
  · have E : Hid (rdISpec (x0, x1, x2) = (0, 0, x2)) := by unfold rdISpec; simp [Hid, h0]
    have hne : (x2 != 0) = true := by simp [h0]
    go_enter Tryz.func52, Tryz.ntmps52
    go_wp2_with (go_at_call 97; refine (H.out _).mono ?_; rintro e w' ⟨rfl, rfl⟩)
    go_ret3
    exact ⟨by rw [E.out]; rfl, rfl⟩

end Go.Proofs.YtdpmpmaepjgndaaGreat
