/- The contracts of the document's Full and Put. -/
import Derived.Test.YtdmlmjmdpmmcgaaPgP2
import Derived.Test.YtdmlmjmdpmmcgaaPgCells
import Derived.Test.YtdmlmjmdpmmcgaaDkFill
import Derived.Test.YtdmlmjmdpmmcgaaTakeQ
namespace Go.Proofs.Ytdmlmjmdpmmcgaa
open Go.RowKit Go.Deep
set_option linter.unusedVariables false
set_option linter.unusedSimpArgs false
set_option maxRecDepth 100000

theorem full_nums (s : ByteArray) (j : Nat) (h1 : s.size ≤ j) (h2 : j ≤ 232 ∨ j = s.size) (h3 : 232 ≤ j) : strOfNums ((List.range j).map (byD s)) = fullP s := by
  unfold fullP
  by_cases c : s.size ≤ 232
  · rw [if_pos c]
    obtain rfl : j = 232 := by omega
    rfl
  · rw [if_neg c]
    obtain rfl : j = s.size := by omega
    exact padN_self s s.size rfl
set_option maxHeartbeats 800000 in
theorem rfull_any (s : ByteArray) (hs : s.size ≤ 1000000) (u : World) : Calls Try.prog 14 #[.string s] u fun r u' => r = .returned (.string (fullP s)) ∧ Below u.heap.size u u' := by
  obtain ⟨i0, hi, hz0, hz1, hz2⟩ := info_parts infoByte9
  have HSZ := Lib.hid hs
  obtain ⟨v0, w2, hcv, ho2, hb2⟩ := run_bytes_free (P := Try.prog) u 9 69 5 s Try.underlying9 Try.underlying69 Try.underlying5 (by unfold maxLen; omega)
  rw [bytV_str] at ho2
  have O2 := Lib.hid ho2
  have B2 := Lib.hid hb2
  clear ho2 hb2 hs
  go_enter Try.func14, Try.ntmps14
  go_wp2_with fail
  go_loopw [3] (fun v wr => ∃ j : Nat, s.size ≤ j ∧ (j ≤ 232 ∨ j = s.size) ∧ OwnsB wr u.heap.size 5 v j (bytV s j) ∧ Below u.heap.size u wr) (fun v _ => 232 - lenV v)
  case atStart => exact ⟨s.size, Nat.le_refl _, .inr rfl, O2.out, B2.out⟩
  case round =>
    clear hcv
    obtain ⟨j, hj, hj9, ho, hb⟩ := hrel
    obtain ⟨g, cap, hv0, hcl⟩ := ownsB_cells ho
    have HO := Lib.hid ho
    have HB := Lib.hid hb
    have hcap : j ≤ cap ∧ cap ≤ maxLen := by
      obtain ⟨_, g1, cap1, _, _, e9, _, _, _, q1, q2, _⟩ := ho
      rw [hv0] at e9
      simp only [Value.slice.injEq, Option.some.injEq, Addr.mk.injEq, and_true, true_and] at e9
      obtain ⟨rfl, rfl⟩ := e9
      exact ⟨q1, q2⟩
    obtain rfl := hv0
    clear ho hb
    unfold maxLen at hcap
    by_cases hlt : j < 232
    · have hj2 : (j : Int) < 232 := by omega
      have X1 := Lib.hid (heap_alloc_new wr (.cells #[.int .u8 0] 5))
      have B1 := Lib.hid (balloc wr (.cells #[.int .u8 0] 5))
      have O1 := Lib.hid (ownsB_below HO.out B1.out)
      have SZ := Lib.hid (Nat.le_trans HB.out.size B1.out.size)
      have SR : Hid (Src Try.prog 1 69 (.slice (some ⟨wr.heap.size, 0, none⟩) 1 1) 1 [.int .u8 0] (wr.alloc (.cells #[.int .u8 0] 5))) := Lib.hid (Src.ofSlice _ Try.underlying69 ⟨wr.heap.size, 0, none⟩ 1 1 [.int .u8 0] rfl (fun q x hq => by
        rcases q with _ | q
        · simp only [List.getElem?_cons_zero, Option.some.injEq] at hq
          subst hq
          rw [add_plain, Lib.cell_of_heap X1.out]; rfl
        · simp at hq) (by intro x hx; simp only [List.mem_cons, List.not_mem_nil, or_false] at hx; subst hx; rfl))
      go_wp2_with (at_builtin; refine wpList_append_src9 _ rfl _ _ 69 69 rfl u.heap.size 5 i0 Try.underlying69 hi hz0 hz1 hz2 _ _ _ rfl O1.out _ rfl 1 _ SR.out (by unfold maxLen; omega) (by omega) SZ.out ?_)
      intro v4 w4 ho4 hb4
      rw [bytV_succ s j hj] at ho4
      have O4 := Lib.hid ho4
      have B4 := Lib.hid ((HB.out.trans (B1.out.mono HB.out.size)).trans hb4)
      have e4 : lenV v4 = j + 1 := by
        obtain ⟨_, g4, cap4, _, _, rfl, _⟩ := ho4
        rfl
      clear ho4 hb4
      go_wp2_with fail
      go_roundw
      case rel => exact ⟨j + 1, by omega, by omega, O4.out, B4.out⟩
      case measure =>
        have e5 : lenV (.slice (some ⟨g, 0, none⟩) j cap) = j := rfl
        omega
    · have hcv2 := run_convert_bytes_arg (P := Try.prog) wr 69 5 Try.underlying69 Try.underlying5 g 0 j cap ((List.range j).map (byD s)) (by simp)
        (fun k hk => by
          rw [hcl k (by omega)]
          unfold bytV
          rw [List.getElem?_map, List.getElem?_range (by omega)]
          simp [hk]) 9 Try.underlying9
      rw [full_nums s j hj hj9 (by omega)] at hcv2
      have hj2 : ¬ (j : Int) < 232 := by omega
      clear hcl
      go_wp2_with fail
      go_ret
      exact ⟨rfl, HB.out⟩

theorem kindL_plain (k : Int) (h1 : 0 ≤ k) (h2 : k ≤ 2147483647) : kindL k = [k / 16777216, k / 65536 % 256, k / 256 % 256, k % 256] := by
  unfold kindL
  rw [show k / 16777216 % 256 = k / 16777216 by omega]
theorem body_full (p : Pg) (h : p.pay.size ≤ 232) : strOfNums (beI 8 (flip63 p.id)) ++ strOfNums (beI 8 (flip63 p.ep)) ++ strOfNums (kindL p.kd) ++ fullP p.pay = bodyP p := by
  unfold fullP bodyP headL
  rw [if_pos h, strOfNums_append, strOfNums_append]
theorem kind_cells {W : World} {G : Nat} {k : Int} {T : TypeId} (h : W.heap[G]? = some (.cells #[.int .u8 (k / 16777216), .int .u8 (k / 65536 % 256), .int .u8 (k / 256 % 256), .int .u8 (k % 256)] T (0, 0))) (h1 : 0 ≤ k) (h2 : k ≤ 2147483647) :
    (convert 69 9 (.slice (some ⟨G, 0, none⟩) 4 4)).run Try.prog W = .ok (.string (strOfNums (kindL k))) W := by
  have h3 := run_convert_bytes_arg (P := Try.prog) W 69 5 Try.underlying69 Try.underlying5 G 0 4 4 (kindL k) rfl (fun i hi => by
    rw [kindL_plain k h1 h2, Nat.zero_add, Lib.cell_of_heap h]
    rcases (by omega : i = 0 ∨ i = 1 ∨ i = 2 ∨ i = 3) with rfl | rfl | rfl | rfl <;> rfl) 9 Try.underlying9
  exact h3
theorem sput_of {W : World} {C G : Nat} {id ep kd : Int} {pay ks : ByteArray} (hC : W.heap[C]? = some (.cells #[.int .i64 id, .int .i64 ep, .int .i64 kd, .string pay] 23 (0, 0))) (hG : W.heap[G]? = some (.cells #[.int .u8 (kd / 16777216), .int .u8 (kd / 65536 % 256), .int .u8 (kd / 256 % 256), .int .u8 (kd % 256)] 5 (0, 0))) (h1 : 0 ≤ kd) (h2 : kd ≤ 2147483647) (hk : ks = strOfNums (kindL kd)) :
    W.cell? ⟨C, 0, none⟩ = some (.int .i64 id) ∧ W.cell? ⟨C, 1, none⟩ = some (.int .i64 ep) ∧ W.cell? ⟨C, 3, none⟩ = some (.string pay) ∧ (convert 69 9 (.slice (some ⟨G, 0, none⟩) 4 4)).run Try.prog W = .ok (.string ks) W := by
  obtain ⟨x0, x1, x2, x3⟩ := four_cells hC
  exact ⟨x0, x1, x3, by rw [hk]; exact kind_cells hG h1 h2⟩

set_option maxHeartbeats 3200000 in
theorem rput_any (p : Pg) (u : World) (hp : p.pay.size ≤ 1000000) : Calls Try.prog 10 #[.agg (pgV p).toArray] u fun e w' => e = putRet p ∧ Below u.heap.size u w' := by
  have HM := Lib.hid (fun w => rright_any p w)
  have hp1 : p.pay.size ≤ 9223372036854775807 := by omega
  by_cases hr : RightP p
  · by_cases hz : 232 < p.pay.size
    · obtain ⟨id, ep, kd, pay⟩ := p
      change Calls _ _ #[.agg #[.int .i64 id, .int .i64 ep, .int .i64 kd, .string pay]] _ _
      rw [rightB_yes hr] at HM
      have EZ : Hid (putRet ⟨id, ep, kd, pay⟩ = .returned (.tuple #[.string ⟨#[]⟩, .int .i64 4])) := Lib.hid (by
        have e0 : putE ⟨id, ep, kd, pay⟩ = 4 := by unfold putE; rw [if_pos hr, if_pos hz]
        unfold putRet putS
        rw [e0, if_neg (by decide)])
      clear hr
      dsimp only at hp hp1 hz
      unfold pgV at HM
      dsimp only at HM
      have X1 := Lib.hid (heap_alloc_new u (.cells #[.int .i64 id, .int .i64 ep, .int .i64 kd, .string pay] 23))
      have B1 := Lib.hid (balloc u (.cells #[.int .i64 id, .int .i64 ep, .int .i64 kd, .string pay] 23))
      have dz : decide ((232 : Int) < (pay.size : Int)) = true := by simp; omega
      have dz2 : decide (232 < pay.size) = true := by simp; omega
      obtain ⟨C, hC⟩ : ∃ C, C = u.heap.size := ⟨_, rfl⟩
      rw [← hC] at X1
      go_enter Try.func10, Try.ntmps10
      go_upto_region 1 with fail
      rw [← hC]
      generalize u.alloc (.cells #[.int .i64 id, .int .i64 ep, .int .i64 kd, .string pay] 23) = w1 at *
      clear hC
      have x0 : w1.cell? ⟨C, 0, none⟩ = some (.int .i64 id) := by rw [Lib.cell_of_heap X1.out]; rfl
      have x1 : w1.cell? ⟨C, 1, none⟩ = some (.int .i64 ep) := by rw [Lib.cell_of_heap X1.out]; rfl
      have x2 : w1.cell? ⟨C, 2, none⟩ = some (.int .i64 kd) := by rw [Lib.cell_of_heap X1.out]; rfl
      have x3 : w1.cell? ⟨C, 3, none⟩ = some (.string pay) := by rw [Lib.cell_of_heap X1.out]; rfl
      go_wp2_with fail
      refine (HM.out _).mono ?_
      rintro e w2 ⟨rfl, hb2⟩
      clear x0 x1 x2 x3
      have X2 : Hid (w2.heap[C]? = some (.cells #[.int .i64 id, .int .i64 ep, .int .i64 kd, .string pay] 23 (0, 0))) := Lib.hid ((hb2.block C (by have := X1.out; exact (Array.getElem?_eq_some_iff.1 this).1)).trans X1.out)
      have y3 : w2.cell? ⟨C, 3, none⟩ = some (.string pay) := by rw [Lib.cell_of_heap X2.out]; rfl
      have B2 := Lib.hid (bthen B1.out hb2)
      go_wp2_with fail
      go_ret2
      exact ⟨by rw [EZ.out]; rfl, B2.out⟩
    · obtain ⟨id, ep, kd, pay⟩ := p
      change Calls _ _ #[.agg #[.int .i64 id, .int .i64 ep, .int .i64 kd, .string pay]] _ _
      rw [rightB_yes hr] at HM
      obtain ⟨h1, h2, h3, h4, h5⟩ := hr
      dsimp only at h1 h2 h3 h4 h5 hz hp hp1
      unfold pgV at HM
      dsimp only at HM
      have X1 := Lib.hid (heap_alloc_new u (.cells #[.int .i64 id, .int .i64 ep, .int .i64 kd, .string pay] 23))
      have B1 := Lib.hid (balloc u (.cells #[.int .i64 id, .int .i64 ep, .int .i64 kd, .string pay] 23))
      obtain ⟨C, hC⟩ : ∃ C, C = u.heap.size := ⟨_, rfl⟩
      have HCu := Lib.hid hC
      rw [← hC] at X1
      have dz : decide ((232 : Int) < (pay.size : Int)) = false := by simp; omega
      have dz2 : decide (232 < pay.size) = false := by simp; omega
      go_enter Try.func10, Try.ntmps10
      go_upto_region 1 with fail
      rw [← hC]
      generalize u.alloc (.cells #[.int .i64 id, .int .i64 ep, .int .i64 kd, .string pay] 23) = w1 at *
      clear hC
      have x0 : w1.cell? ⟨C, 0, none⟩ = some (.int .i64 id) := by rw [Lib.cell_of_heap X1.out]; rfl
      have x1 : w1.cell? ⟨C, 1, none⟩ = some (.int .i64 ep) := by rw [Lib.cell_of_heap X1.out]; rfl
      have x2 : w1.cell? ⟨C, 2, none⟩ = some (.int .i64 kd) := by rw [Lib.cell_of_heap X1.out]; rfl
      have x3 : w1.cell? ⟨C, 3, none⟩ = some (.string pay) := by rw [Lib.cell_of_heap X1.out]; rfl
      go_wp2_with fail
      refine (HM.out _).mono ?_
      rintro e w2 ⟨rfl, hb2⟩
      clear x0 x1 x2 x3
      have X2 : Hid (w2.heap[C]? = some (.cells #[.int .i64 id, .int .i64 ep, .int .i64 kd, .string pay] 23 (0, 0))) := Lib.hid ((hb2.block C (by have := X1.out; exact (Array.getElem?_eq_some_iff.1 this).1)).trans X1.out)
      have y0 : w2.cell? ⟨C, 0, none⟩ = some (.int .i64 id) := by rw [Lib.cell_of_heap X2.out]; rfl
      have y1 : w2.cell? ⟨C, 1, none⟩ = some (.int .i64 ep) := by rw [Lib.cell_of_heap X2.out]; rfl
      have y2 : w2.cell? ⟨C, 2, none⟩ = some (.int .i64 kd) := by rw [Lib.cell_of_heap X2.out]; rfl
      have y3 : w2.cell? ⟨C, 3, none⟩ = some (.string pay) := by rw [Lib.cell_of_heap X2.out]; rfl
      have B2 := Lib.hid (bthen B1.out hb2)
      clear hb2 B1 X1
      go_upto_region 6 with fail
      have B2a := balloc w2 (.cells #[.int .u8 (kd / 16777216), .int .u8 (kd / 65536 % 256), .int .u8 (kd / 256 % 256), .int .u8 (kd % 256)] 5)
      have G3 := Lib.hid (heap_alloc_new w2 (.cells #[.int .u8 (kd / 16777216), .int .u8 (kd / 65536 % 256), .int .u8 (kd / 256 % 256), .int .u8 (kd % 256)] 5))
      have X3 := Lib.hid (heap_stays X2.out B2a)
      have B3 := Lib.hid (bthen B2.out B2a)
      have HI1 := Lib.hid (fun w => refI id w)
      have HI2 := Lib.hid (fun w => refI ep w)
      have HFU := Lib.hid (fun w => rfull_any pay hp w)
      have EB := Lib.hid (body_full ⟨id, ep, kd, pay⟩ (by show pay.size ≤ 232; omega))
      have HLAY := Lib.hid (fun w => refLay_any (bodyP ⟨id, ep, kd, pay⟩) (by rw [bodyP_size]; omega) w)
      have EZ : Hid (putRet ⟨id, ep, kd, pay⟩ = .returned (.tuple #[.string ⟨(laidL (bodyP ⟨id, ep, kd, pay⟩).data.toList).toArray⟩, .int .i64 0])) := Lib.hid (by
        have e0 : putE ⟨id, ep, kd, pay⟩ = 0 := putE_zero.2 ⟨⟨h1, h2, h3, h4, h5⟩, by show pay.size ≤ 232; omega⟩
        unfold putRet putS
        rw [if_pos e0, e0]
        rfl)
      have FS : Hid ((fullP pay).size = 232) := Lib.hid (by unfold fullP; rw [if_pos (by omega), padN_size])
      have S1 : Hid ((strOfNums (beI 8 (flip63 id))).size = 8) := Lib.hid (by rw [strOfNums_size, beI_len])
      have S2 : Hid ((strOfNums (beI 8 (flip63 ep))).size = 8) := Lib.hid (by rw [strOfNums_size, beI_len])
      have S3 : Hid ((strOfNums (kindL kd)).size = 4) := Lib.hid (by rw [strOfNums_size]; rfl)
      dsimp only at EB
      obtain ⟨a1, hA1⟩ : ∃ a, a = strOfNums (beI 8 (flip63 id)) := ⟨_, rfl⟩
      obtain ⟨a2, hA2⟩ : ∃ a, a = strOfNums (beI 8 (flip63 ep)) := ⟨_, rfl⟩
      obtain ⟨ks, hks⟩ : ∃ a, a = strOfNums (kindL kd) := ⟨_, rfl⟩
      obtain ⟨fp, hfp⟩ : ∃ a, a = fullP pay := ⟨_, rfl⟩
      rw [← hA1] at HI1 EB S1
      rw [← hA2] at HI2 EB S2
      rw [← hks] at EB S3
      rw [← hfp] at EB HFU FS
      obtain ⟨bd, hbd⟩ : ∃ b, b = bodyP ⟨id, ep, kd, pay⟩ := ⟨_, rfl⟩
      rw [← hbd] at HLAY EB EZ
      have HKS := Lib.hid hks
      have H4 := Lib.hid h4
      have H5 := Lib.hid h5
      have n1 : ¬ 9223372036854775807 < a1.size + a2.size := by have := S1.out; have := S2.out; omega
      have n2 : ¬ 9223372036854775807 < a1.size + a2.size + ks.size := by have := S1.out; have := S2.out; have := S3.out; omega
      have n3 : ¬ 9223372036854775807 < a1.size + a2.size + ks.size + fp.size := by have := S1.out; have := S2.out; have := S3.out; have := FS.out; omega
      obtain ⟨G, hG⟩ : ∃ G, G = w2.heap.size := ⟨_, rfl⟩
      rw [← hG] at G3
      clear hA1 hA2 hks hfp hbd B2a y0 y1 y2 y3 h4 h5
      rw [← hG]
      generalize w2.alloc (.cells #[.int .u8 (kd / 16777216), .int .u8 (kd / 65536 % 256), .int .u8 (kd / 256 % 256), .int .u8 (kd % 256)] 5) = w3 at *
      clear hG
      refine wp_region_held_drew (S := (fun w' => w'.cell? ⟨C, 0, none⟩ = some (.int .i64 id) ∧ w'.cell? ⟨C, 1, none⟩ = some (.int .i64 ep) ∧ w'.cell? ⟨C, 3, none⟩ = some (.string pay) ∧ (convert 69 9 (.slice (some ⟨G, 0, none⟩) 4 4)).run Try.prog w' = .ok (.string ks) w')) (by kernel_rfl) ?_ (fun hHeld => ?_)
      · exact sput_of (heap_stays X3.out (bdrew w3)) (heap_stays G3.out (bdrew w3)) H4.out H5.out HKS.out
      have X4 := Lib.hid (heap_stays X3.out (bdrew w3))
      have G4 := Lib.hid (heap_stays G3.out (bdrew w3))
      have B4 := Lib.hid (bthen B3.out (bdrew w3))
      change wpAnyH _ _ _ _ _ _ _ _ (World.drew w3)
      generalize World.drew w3 = w4 at *
      first | refine tq0 0 rfl ?_ | refine tq1 0 rfl ?_
      try go_frame
      first | refine tq0 1 rfl ?_ | refine tq1 1 rfl ?_
      try go_frame
      first | refine tq0 3 rfl ?_ | refine tq1 3 rfl ?_
      try go_frame
      first | refine tq0 4 rfl ?_ | refine tq1 4 rfl ?_
      try go_frame
      first | refine tq0 7 rfl ?_ | refine tq1 7 rfl ?_
      try go_frame
      first | refine tq0 8 rfl ?_ | refine tq1 8 rfl ?_
      try go_frame
      first | refine tq0 10 rfl ?_ | refine tq1 10 rfl ?_
      try go_frame
      first | refine tq0 11 rfl ?_ | refine tq1 11 rfl ?_
      try go_frame
      refine wpAnyH_ready (rs := [2]) (by kernel_rfl) (by simp) ?_
      refine AllReadyH.cons (o := ⟨_, _, _, _, _, _⟩) rfl (fun K hK => ?_) AllReadyH.nil
      go_simp
      refine (HI1.out _).mono ?_
      rintro e w5 ⟨rfl, hb⟩
      have X5 := Lib.hid (heap_stays X4.out hb)
      have G5 := Lib.hid (heap_stays G4.out hb)
      have B5 := Lib.hid (bthen B4.out hb)
      refine hK.out _ _ ?_ (fun hHeld => ?_)
      · exact sput_of X5.out G5.out H4.out H5.out HKS.out
      clear hK K hb hHeld
      have hHeld := sput_of X5.out G5.out H4.out H5.out HKS.out
      try simp only [Act.put, List.setIfInBounds_toArray, List.set_cons_zero, List.set_cons_succ]
      refine wpAnyH_ready (rs := [5]) (by kernel_rfl) (by simp) ?_
      refine AllReadyH.cons (o := ⟨_, _, _, _, _, _⟩) rfl (fun K hK => ?_) AllReadyH.nil
      go_simp
      refine (HI2.out _).mono ?_
      rintro e w6 ⟨rfl, hb⟩
      have X6 := Lib.hid (heap_stays X5.out hb)
      have G6 := Lib.hid (heap_stays G5.out hb)
      have B6 := Lib.hid (bthen B5.out hb)
      refine hK.out _ _ ?_ (fun hHeld => ?_)
      · exact sput_of X6.out G6.out H4.out H5.out HKS.out
      clear hK K hb hHeld
      have hHeld := sput_of X6.out G6.out H4.out H5.out HKS.out
      try simp only [Act.put, List.setIfInBounds_toArray, List.set_cons_zero, List.set_cons_succ]
      first | refine tq0 6 rfl ?_ | refine tq1 6 rfl ?_
      try go_frame
      first | refine tq0 9 rfl ?_ | refine tq1 9 rfl ?_
      try go_frame
      refine wpAnyH_ready (rs := [12]) (by kernel_rfl) (by simp) ?_
      refine AllReadyH.cons (o := ⟨_, _, _, _, _, _⟩) rfl (fun K hK => ?_) AllReadyH.nil
      go_simp
      refine (HFU.out _).mono ?_
      rintro e w7 ⟨rfl, hb⟩
      have X7 := Lib.hid (heap_stays X6.out hb)
      have G7 := Lib.hid (heap_stays G6.out hb)
      have B7 := Lib.hid (bthen B6.out hb)
      refine hK.out _ _ ?_ (fun hHeld => ?_)
      · exact sput_of X7.out G7.out H4.out H5.out HKS.out
      clear hK K hb hHeld
      have hHeld := sput_of X7.out G7.out H4.out H5.out HKS.out
      try simp only [Act.put, List.setIfInBounds_toArray, List.set_cons_zero, List.set_cons_succ]
      first | refine tq0 13 rfl ?_ | refine tq1 13 rfl ?_
      try go_frame
      try rw [EB.out]
      refine wpAnyH_ready (rs := [14]) (by kernel_rfl) (by simp) ?_
      refine AllReadyH.cons (o := ⟨_, _, _, _, _, _⟩) rfl (fun K hK => ?_) AllReadyH.nil
      go_simp
      (first | refine (HLAY.out _).mono ?_ | (rw [EB.out]; refine (HLAY.out _).mono ?_))
      rintro e w8 ⟨rfl, hb⟩
      have X8 := Lib.hid (heap_stays X7.out hb)
      have G8 := Lib.hid (heap_stays G7.out hb)
      have B8 := Lib.hid (bthen B7.out hb)
      refine hK.out _ _ ?_ (fun hHeld => ?_)
      · exact sput_of X8.out G8.out H4.out H5.out HKS.out
      clear hK K hb hHeld
      have hHeld := sput_of X8.out G8.out H4.out H5.out HKS.out
      try simp only [Act.put, List.setIfInBounds_toArray, List.set_cons_zero, List.set_cons_succ]
      first | refine tq0 15 rfl ?_ | refine tq1 15 rfl ?_
      try go_frame
      first | refine tq0 16 rfl ?_ | refine tq1 16 rfl ?_
      try go_frame
      refine wpAnyH_done (by kernel_rfl) ?_ _
      go_wp2_with fail
      go_ret2
      exact ⟨by rw [EZ.out]; rfl, B8.out⟩
  · obtain ⟨id, ep, kd, pay⟩ := p
    change Calls _ _ #[.agg #[.int .i64 id, .int .i64 ep, .int .i64 kd, .string pay]] _ _
    rw [rightB_no hr] at HM
    have EZ : Hid (putRet ⟨id, ep, kd, pay⟩ = .returned (.tuple #[.string ⟨#[]⟩, .int .i64 2])) := Lib.hid (by
      have e0 : putE ⟨id, ep, kd, pay⟩ = 2 := by unfold putE; rw [if_neg hr]
      unfold putRet putS
      rw [e0, if_neg (by decide)])
    clear hr
    dsimp only at hp hp1
    unfold pgV at HM
    dsimp only at HM
    have X1 := Lib.hid (heap_alloc_new u (.cells #[.int .i64 id, .int .i64 ep, .int .i64 kd, .string pay] 23))
    have B1 := Lib.hid (balloc u (.cells #[.int .i64 id, .int .i64 ep, .int .i64 kd, .string pay] 23))
    obtain ⟨C, hC⟩ : ∃ C, C = u.heap.size := ⟨_, rfl⟩
    rw [← hC] at X1
    go_enter Try.func10, Try.ntmps10
    go_upto_region 1 with fail
    rw [← hC]
    generalize u.alloc (.cells #[.int .i64 id, .int .i64 ep, .int .i64 kd, .string pay] 23) = w1 at *
    clear hC
    have x0 : w1.cell? ⟨C, 0, none⟩ = some (.int .i64 id) := by rw [Lib.cell_of_heap X1.out]; rfl
    have x1 : w1.cell? ⟨C, 1, none⟩ = some (.int .i64 ep) := by rw [Lib.cell_of_heap X1.out]; rfl
    have x2 : w1.cell? ⟨C, 2, none⟩ = some (.int .i64 kd) := by rw [Lib.cell_of_heap X1.out]; rfl
    have x3 : w1.cell? ⟨C, 3, none⟩ = some (.string pay) := by rw [Lib.cell_of_heap X1.out]; rfl
    go_wp2_with fail
    refine (HM.out _).mono ?_
    rintro e w2 ⟨rfl, hb2⟩
    clear x0 x1 x2 x3
    have X2 : Hid (w2.heap[C]? = some (.cells #[.int .i64 id, .int .i64 ep, .int .i64 kd, .string pay] 23 (0, 0))) := Lib.hid ((hb2.block C (by have := X1.out; exact (Array.getElem?_eq_some_iff.1 this).1)).trans X1.out)
    have y3 : w2.cell? ⟨C, 3, none⟩ = some (.string pay) := by rw [Lib.cell_of_heap X2.out]; rfl
    have B2 := Lib.hid (bthen B1.out hb2)
    go_wp2_with fail
    go_ret2
    exact ⟨by rw [EZ.out]; rfl, B2.out⟩
end Go.Proofs.Ytdmlmjmdpmmcgaa
