/- The contracts of the program's parts and Get. The contract of the program's Read. -/
import Derived.Test.YtdpmpmaepjgndaaGreatYZ14
import Derived.Test.YtdpmpmaepjgndaaGreatYZ28
namespace Go.Proofs.YtdpmpmaepjgndaaGreat
open Go.RowKit Go.Deep
set_option linter.unusedVariables false
set_option linter.unusedSimpArgs false
set_option maxRecDepth 100000

def tellB (b : ByteArray) : Pg := ⟨unflip63 (rdI b 0 8), unflip63 (rdI b 8 8), rdI ((⟨#[0, 0, 0, 0]⟩ : ByteArray) ++ b.extract 16 20) 0 8, b.extract 20 b.size⟩
theorem rdI_cut (s : ByteArray) (a : Nat) : ∀ k, 4 + (a + k) ≤ s.size → rdI (s.extract 4 s.size) a k = rdI s (4 + a) k
  | 0, _ => rfl
  | k + 1, h => by
    simp only [rdI]
    rw [rdI_cut s a k (by omega), byteI_byD, byteI_byD, byD_cut _ _ _ _ (by omega), Nat.add_assoc]
theorem tellB_cut (s : ByteArray) (h : s.size = 256) : tellB (s.extract 4 s.size) = tellP s := by
  have hs : (s.extract 4 s.size).size = 252 := by rw [ByteArray.size_extract]; omega
  unfold tellB tellP
  rw [rdI_cut s 0 8 (by omega), rdI_cut s 8 8 (by omega)]
  have e2 : (s.extract 4 s.size).extract 20 (s.extract 4 s.size).size = s.extract 24 s.size := by
    apply byD_ext
    · rw [ByteArray.size_extract, hs, ByteArray.size_extract]; omega
    · intro j hj
      rw [ByteArray.size_extract, hs] at hj
      rw [byD_cut _ _ _ _ (by omega), byD_cut _ _ _ _ (by omega), byD_cut _ _ _ _ (by omega)]
      congr 1; omega
  rw [e2]
  have hz : (⟨#[0, 0, 0, 0]⟩ : ByteArray).size = 4 := rfl
  have q : ∀ j, j < 4 → byD ((⟨#[0, 0, 0, 0]⟩ : ByteArray) ++ (s.extract 4 s.size).extract 16 20) (4 + j) = byD s (20 + j) := fun j hj => by
    rw [byD_app, hz, if_neg (by omega), byD_cut _ _ _ _ (by omega), byD_cut _ _ _ _ (by omega)]
    congr 1; omega
  have z : ∀ j, j < 4 → byD ((⟨#[0, 0, 0, 0]⟩ : ByteArray) ++ (s.extract 4 s.size).extract 16 20) j = 0 := fun j hj => by
    rw [byD_app, hz, if_pos hj]
    rcases (by omega : j = 0 ∨ j = 1 ∨ j = 2 ∨ j = 3) with rfl | rfl | rfl | rfl <;> rfl
  have e3 : rdI ((⟨#[0, 0, 0, 0]⟩ : ByteArray) ++ (s.extract 4 s.size).extract 16 20) 0 8 = byD s 20 * 16777216 + byD s 21 * 65536 + byD s 22 * 256 + byD s 23 := by
    simp only [rdI, byteI_byD, Nat.zero_add]
    have q0 := q 0 (by omega)
    have q1 := q 1 (by omega)
    have q2 := q 2 (by omega)
    have q3 := q 3 (by omega)
    simp only [Nat.add_zero, Nat.reduceAdd] at q0 q1 q2 q3
    rw [z 0 (by omega), z 1 (by omega), z 2 (by omega), z 3 (by omega), q0, q1, q2, q3]
    omega
  rw [e3]
theorem kind_bd (b : ByteArray) : 0 ≤ rdI ((⟨#[0, 0, 0, 0]⟩ : ByteArray) ++ b.extract 16 20) 0 8 ∧ rdI ((⟨#[0, 0, 0, 0]⟩ : ByteArray) ++ b.extract 16 20) 0 8 ≤ 4294967295 := by
  have z : ∀ j, j < 4 → byD ((⟨#[0, 0, 0, 0]⟩ : ByteArray) ++ b.extract 16 20) j = 0 := fun j hj => by
    rw [byD_app, show (⟨#[0, 0, 0, 0]⟩ : ByteArray).size = 4 from rfl, if_pos hj]
    rcases (by omega : j = 0 ∨ j = 1 ∨ j = 2 ∨ j = 3) with rfl | rfl | rfl | rfl <;> rfl
  simp only [rdI, byteI_byD, Nat.zero_add]
  rw [z 0 (by omega), z 1 (by omega), z 2 (by omega), z 3 (by omega)]
  have b4 := byD_bd ((⟨#[0, 0, 0, 0]⟩ : ByteArray) ++ b.extract 16 20) 4
  have b5 := byD_bd ((⟨#[0, 0, 0, 0]⟩ : ByteArray) ++ b.extract 16 20) 5
  have b6 := byD_bd ((⟨#[0, 0, 0, 0]⟩ : ByteArray) ++ b.extract 16 20) 6
  have b7 := byD_bd ((⟨#[0, 0, 0, 0]⟩ : ByteArray) ++ b.extract 16 20) 7
  omega

set_option maxHeartbeats 1600000 in
theorem pparts_any (b : ByteArray) (hb : b.size = 252) (u : World) : Calls Tryz.prog 144 #[.string b] u fun e w' => e = .returned (.agg (pgV (tellB b)).toArray) ∧ Below u.heap.size u w' := by
  obtain ⟨kx, hkx⟩ : ∃ k, k = (⟨#[0, 0, 0, 0]⟩ : ByteArray) ++ b.extract 16 20 := ⟨_, rfl⟩
  have hks : kx.size = 8 := by
    rw [hkx, ByteArray.size_append, ByteArray.size_extract, show (⟨#[0, 0, 0, 0]⟩ : ByteArray).size = 4 from rfl]; omega
  have H1 : Hid (∀ w, Calls Tryz.prog 166 #[.string b, .int .i64 0] w fun e w' => e = .returned (.tuple #[.int .i64 (unflip63 (rdI b 0 8)), .int .i64 8, .int .i64 0]) ∧ w = w') := fun w => by
    have := readI_any b 0 (by unfold maxLen; omega) (by omega) w
    rw [show rdSpec b 0 8 = (rdI b 0 8, 8, 0) from by unfold rdSpec; rw [if_neg (by omega), if_neg (by omega)]; rfl] at this
    exact this
  have H2 : Hid (∀ w, Calls Tryz.prog 166 #[.string b, .int .i64 8] w fun e w' => e = .returned (.tuple #[.int .i64 (unflip63 (rdI b 8 8)), .int .i64 16, .int .i64 0]) ∧ w = w') := fun w => by
    have := readI_any b 8 (by unfold maxLen; omega) (by omega) w
    rw [show rdSpec b 8 8 = (rdI b 8 8, 16, 0) from by unfold rdSpec; rw [if_neg (by omega), if_neg (by omega)]; rfl] at this
    exact this
  have H3 : Hid (∀ w, Calls Tryz.prog 170 #[.string kx, .int .i64 0] w fun e w' => e = .returned (.tuple #[.int .u64 (rdI kx 0 8), .int .i64 8, .int .i64 0]) ∧ w = w') := fun w => by
    have := readU_any kx 0 (by unfold maxLen; omega) (by omega) w
    rw [show rdSpec kx 0 8 = (rdI kx 0 8, 8, 0) from by unfold rdSpec; rw [if_neg (by omega), if_neg (by omega)]; rfl] at this
    exact this
  have hkb := kind_bd b
  rw [← hkx] at hkb
  have E : Hid (pgV (tellB b) = [.int .i64 (unflip63 (rdI b 0 8)), .int .i64 (unflip63 (rdI b 8 8)), .int .i64 (rdI kx 0 8), .string (b.extract 20 b.size)]) := by unfold tellB; rw [← hkx]; exact Lib.hid rfl
  have hb1 : 20 ≤ b.size := by omega
  have hb2 : (20 : Int) ≤ (b.size : Int) := by omega
  have hb3 : b.size ≤ 1000 := by omega
  have hns : ¬ 9223372036854775807 < (ByteArray.mk #[0, 0, 0, 0]).size + (b.extract 16 20).size := by
    have : (b.extract 16 20).size ≤ 4 := by rw [ByteArray.size_extract]; omega
    have : (ByteArray.mk #[0, 0, 0, 0]).size = 4 := rfl
    omega
  have HKX := Lib.hid hkx.symm
  generalize unflip63 (rdI b 0 8) = n1 at *
  generalize unflip63 (rdI b 8 8) = n2 at *
  generalize rdI kx 0 8 = n3 at *
  clear hkx hks hb
  have X1 := Lib.hid (heap_alloc_new u (.cells #[.int .i64 0, .int .i64 0, .int .i64 0, .string ⟨#[]⟩] 41))
  have B1 := Lib.hid (balloc u (.cells #[.int .i64 0, .int .i64 0, .int .i64 0, .string ⟨#[]⟩] 41))
  obtain ⟨C, hC⟩ : ∃ C, C = u.heap.size := ⟨_, rfl⟩
  have HC : Hid (u.heap.size ≤ C) := Lib.hid (by omega)
  rw [← hC] at X1
  go_enter Tryz.func144, Tryz.ntmps144
  go_upto_region 1 with fail
  rw [← hC]
  generalize u.alloc (.cells #[.int .i64 0, .int .i64 0, .int .i64 0, .string ⟨#[]⟩] 41) = w1 at *
  clear hC
  obtain ⟨x0, x1, x2, x3⟩ := four_cells X1.out
  have xf : ∀ q, w1.frozen? ⟨C, q, none⟩ = false := fun q => Lib.frozen_of_heap X1.out q
  go_wp2_with fail
  refine (H1.out _).mono ?_
  rintro e w2 ⟨rfl, rfl⟩
  go_wp2_with fail
  refine (H2.out _).mono ?_
  rintro e w2 ⟨rfl, rfl⟩
  go_wp2_with fail
  try rw [HKX.out]
  refine (H3.out _).mono ?_
  rintro e w2 ⟨rfl, rfl⟩
  go_wp2_with fail
  change bodyPost _ _ _ _ _ (World.setCells w1 C 0 [.int .i64 n1, .int .i64 n2, .int .i64 n3, .string (b.extract 20 b.size)])
  obtain ⟨t0, t1, t2, t3⟩ := four_cells (put_four X1.out (.int .i64 n1) (.int .i64 n2) (.int .i64 n3) (.string (b.extract 20 b.size)))
  have LZ := Lib.hid (B1.out.trans (put_below HC.out [.int .i64 n1, .int .i64 n2, .int .i64 n3, .string (b.extract 20 b.size)] 0 w1))
  generalize World.setCells w1 C 0 [.int .i64 n1, .int .i64 n2, .int .i64 n3, .string (b.extract 20 b.size)] = w9 at *
  exact bodyPost_ret (v := .agg #[.int .i64 n1, .int .i64 n2, .int .i64 n3, .string (b.extract 20 b.size)]) (by simp [results, Tryz.results144, go_sem, t0, t1, t2, t3]) rfl ⟨by rw [E.out], LZ.out⟩

theorem cut_page (s : ByteArray) (h : s.size = 256) : cutSpec s = if layP (s.extract 4 s.size) = s then (s.extract 4 s.size, 0) else (⟨#[]⟩, 14) := by
  unfold cutSpec
  rw [if_neg (by omega)]
  have e : (layP (s.extract 4 s.size) = s) ↔ s.data.toList = laidL (s.data.toList.drop 4) := by
    unfold layP
    rw [ext_drop]
    constructor
    · intro h2
      have := congrArg (fun x : ByteArray => x.data.toList) h2
      exact this.symm
    · intro h2
      apply ByteArray.ext
      apply Array.ext'
      exact h2.symm
  by_cases c : layP (s.extract 4 s.size) = s
  · rw [if_pos (e.1 c), if_pos c, ext_from]
  · rw [if_neg fun h2 => c (e.2 h2), if_neg c]
set_option maxHeartbeats 3200000 in
theorem pget_any (s : ByteArray) (hs : s.size ≤ 140737488355328) (u : World) : Calls Tryz.prog 107 #[.string s] u fun e w' => e = getRet s ∧ Below u.heap.size u w' := by
  have hs1 : (s.size : Int) ≤ 9223372036854775807 := by omega
  have X1 := Lib.hid (heap_alloc_new u (.cells #[.int .i64 0, .int .i64 0, .int .i64 0, .string ⟨#[]⟩] 41))
  have B1 := Lib.hid (balloc u (.cells #[.int .i64 0, .int .i64 0, .int .i64 0, .string ⟨#[]⟩] 41))
  obtain ⟨C, hC⟩ : ∃ C, C = u.heap.size := ⟨_, rfl⟩
  have HC : Hid (u.heap.size ≤ C) := Lib.hid (by omega)
  rw [← hC] at X1
  by_cases h : s.size = 256
  · have HX := Lib.hid (fun w => cut_any s hs w)
    rw [cut_page s h] at HX
    have d1 : ((s.size : Int) != 256) = false := by rw [h]; rfl
    by_cases hl : layP (s.extract 4 s.size) = s
    · rw [if_pos hl] at HX
      unfold cutRet at HX
      have HP := Lib.hid (fun w => pparts_any (s.extract 4 s.size) (by rw [ByteArray.size_extract]; omega) w)
      rw [tellB_cut s h] at HP
      have HM := Lib.hid (fun w => pmay_any (tellP s) w)
      have EG : Hid (getE s = if RightP (tellP s) then 0 else 14) := Lib.hid (by unfold getE; rw [if_pos h, if_pos hl])
      have EB := Lib.hid (fun hr : RightP (tellP s) => getRet_ok (s := s) (by rw [EG.out, if_pos hr]))
      have EC := Lib.hid (fun hr : ¬ RightP (tellP s) => getRet_bad (s := s) (e := 14) (by rw [EG.out, if_neg hr]) (by decide))
      clear EG
      generalize s.extract 4 s.size = b at *
      rcases hp : tellP s with ⟨n1, n2, n3, pb⟩
      rw [hp] at HP HM EB EC
      have HRB := Lib.hid (fun h2 => rightB_true (p := ⟨n1, n2, n3, pb⟩) h2)
      have HRF := Lib.hid (fun h2 => rightB_false (p := ⟨n1, n2, n3, pb⟩) h2)
      unfold pgV at HP HM EB
      dsimp only at HP HM EB
      generalize rightB ⟨n1, n2, n3, pb⟩ = rb at *
      clear hp hl h
      go_enter Tryz.func107, Tryz.ntmps107
      go_upto_region 1 with fail
      rw [← hC]
      generalize u.alloc (.cells #[.int .i64 0, .int .i64 0, .int .i64 0, .string ⟨#[]⟩] 41) = w1 at *
      clear hC
      go_wp2_with fail
      refine (HX.out _).mono ?_
      rintro e w2 ⟨rfl, hb⟩
      have X2 := Lib.hid (heap_stays X1.out hb)
      have B2 := Lib.hid (bthen B1.out hb)
      clear hb
      go_wp2_with fail
      refine (HP.out _).mono ?_
      rintro e w3 ⟨rfl, hb⟩
      have X3 := Lib.hid (heap_stays X2.out hb)
      have B3 := Lib.hid (bthen B2.out hb)
      clear hb
      have Y4 := Lib.hid (heap_alloc_new w3 (.cells #[.int .i64 n1, .int .i64 n2, .int .i64 n3, .string pb] 41))
      have X4 := Lib.hid (heap_stays X3.out (balloc w3 (.cells #[.int .i64 n1, .int .i64 n2, .int .i64 n3, .string pb] 41)))
      have B4 := Lib.hid (bthen B3.out (balloc w3 (.cells #[.int .i64 n1, .int .i64 n2, .int .i64 n3, .string pb] 41)))
      obtain ⟨D, hD⟩ : ∃ D, D = w3.heap.size := ⟨_, rfl⟩
      rw [← hD] at Y4
      go_upto_region 7 with fail
      rw [← hD]
      generalize w3.alloc (.cells #[.int .i64 n1, .int .i64 n2, .int .i64 n3, .string pb] 41) = w4 at *
      clear hD
      obtain ⟨y0, y1, y2, y3⟩ := four_cells Y4.out
      go_wp2_with fail
      refine (HM.out _).mono ?_
      rintro e w5 ⟨rfl, hb⟩
      have X5 := Lib.hid (heap_stays X4.out hb)
      have Y5 := Lib.hid (heap_stays Y4.out hb)
      have B5 := Lib.hid (bthen B4.out hb)
      clear hb y0 y1 y2 y3
      obtain ⟨y0, y1, y2, y3⟩ := four_cells Y5.out
      obtain ⟨x0, x1, x2, x3⟩ := four_cells X5.out
      have xf : ∀ q, w5.frozen? ⟨C, q, none⟩ = false := fun q => Lib.frozen_of_heap X5.out q
      cases rb with
      | true =>
        have E1 := Lib.hid (EB.out (HRB.out rfl))
        clear EB EC HRB HRF
        go_wp2_with fail
        change bodyPost _ _ _ _ _ (World.setCells w5 C 0 [.int .i64 n1, .int .i64 n2, .int .i64 n3, .string pb])
        obtain ⟨t0, t1, t2, t3⟩ := four_cells (put_four X5.out (.int .i64 n1) (.int .i64 n2) (.int .i64 n3) (.string pb))
        have LZ := Lib.hid (B5.out.trans (put_below HC.out [.int .i64 n1, .int .i64 n2, .int .i64 n3, .string pb] 0 w5))
        generalize World.setCells w5 C 0 [.int .i64 n1, .int .i64 n2, .int .i64 n3, .string pb] = w9 at *
        exact bodyPost_ret (v := .tuple #[.agg #[.int .i64 n1, .int .i64 n2, .int .i64 n3, .string pb], .int .i64 0]) (by simp [results, Tryz.results107, go_sem, t0, t1, t2, t3]) rfl ⟨by rw [E1.out], LZ.out⟩
      | false =>
        have E1 := Lib.hid (EC.out (HRF.out rfl))
        clear EB EC HRB HRF
        go_wp2_with fail
        change bodyPost _ _ _ _ _ (World.setCells w5 C 0 [.int .i64 0, .int .i64 0, .int .i64 0, .string ⟨#[]⟩])
        obtain ⟨t0, t1, t2, t3⟩ := four_cells (put_four X5.out (.int .i64 0) (.int .i64 0) (.int .i64 0) (.string ⟨#[]⟩))
        have LZ := Lib.hid (B5.out.trans (put_below HC.out [.int .i64 0, .int .i64 0, .int .i64 0, .string ⟨#[]⟩] 0 w5))
        generalize World.setCells w5 C 0 [.int .i64 0, .int .i64 0, .int .i64 0, .string ⟨#[]⟩] = w9 at *
        exact bodyPost_ret (v := .tuple #[.agg #[.int .i64 0, .int .i64 0, .int .i64 0, .string ⟨#[]⟩], .int .i64 14]) (by simp [results, Tryz.results107, go_sem, t0, t1, t2, t3]) rfl ⟨by rw [E1.out], LZ.out⟩
    · rw [if_neg hl] at HX
      unfold cutRet at HX
      have E1 := Lib.hid (getRet_bad (s := s) (e := 14) (by unfold getE; rw [if_pos h, if_neg hl]) (by decide))
      clear hl h
      go_enter Tryz.func107, Tryz.ntmps107
      go_upto_region 1 with fail
      rw [← hC]
      generalize u.alloc (.cells #[.int .i64 0, .int .i64 0, .int .i64 0, .string ⟨#[]⟩] 41) = w1 at *
      clear hC
      go_wp2_with fail
      refine (HX.out _).mono ?_
      rintro e w2 ⟨rfl, hb⟩
      have X5 := Lib.hid (heap_stays X1.out hb)
      have B5 := Lib.hid (bthen B1.out hb)
      clear hb
      obtain ⟨x0, x1, x2, x3⟩ := four_cells X5.out
      have xf : ∀ q, w2.frozen? ⟨C, q, none⟩ = false := fun q => Lib.frozen_of_heap X5.out q
      go_wp2_with fail
      change bodyPost _ _ _ _ _ (World.setCells w2 C 0 [.int .i64 0, .int .i64 0, .int .i64 0, .string ⟨#[]⟩])
      obtain ⟨t0, t1, t2, t3⟩ := four_cells (put_four X5.out (.int .i64 0) (.int .i64 0) (.int .i64 0) (.string ⟨#[]⟩))
      have LZ := Lib.hid (B5.out.trans (put_below HC.out [.int .i64 0, .int .i64 0, .int .i64 0, .string ⟨#[]⟩] 0 w2))
      generalize World.setCells w2 C 0 [.int .i64 0, .int .i64 0, .int .i64 0, .string ⟨#[]⟩] = w9 at *
      exact bodyPost_ret (v := .tuple #[.agg #[.int .i64 0, .int .i64 0, .int .i64 0, .string ⟨#[]⟩], .int .i64 14]) (by simp [results, Tryz.results107, go_sem, t0, t1, t2, t3]) rfl ⟨by rw [E1.out], LZ.out⟩
  · have E1 := Lib.hid (getRet_bad (s := s) (e := 6) (by unfold getE; rw [if_neg h]) (by decide))
    have d1 : ((s.size : Int) != 256) = true := by simp; omega
    clear h
    go_enter Tryz.func107, Tryz.ntmps107
    go_upto_region 1 with fail
    rw [← hC]
    generalize u.alloc (.cells #[.int .i64 0, .int .i64 0, .int .i64 0, .string ⟨#[]⟩] 41) = w1 at *
    clear hC
    obtain ⟨x0, x1, x2, x3⟩ := four_cells X1.out
    have xf : ∀ q, w1.frozen? ⟨C, q, none⟩ = false := fun q => Lib.frozen_of_heap X1.out q
    go_wp2_with fail
    change bodyPost _ _ _ _ _ (World.setCells w1 C 0 [.int .i64 0, .int .i64 0, .int .i64 0, .string ⟨#[]⟩])
    obtain ⟨t0, t1, t2, t3⟩ := four_cells (put_four X1.out (.int .i64 0) (.int .i64 0) (.int .i64 0) (.string ⟨#[]⟩))
    have LZ := Lib.hid (B1.out.trans (put_below HC.out [.int .i64 0, .int .i64 0, .int .i64 0, .string ⟨#[]⟩] 0 w1))
    generalize World.setCells w1 C 0 [.int .i64 0, .int .i64 0, .int .i64 0, .string ⟨#[]⟩] = w9 at *
    exact bodyPost_ret (v := .tuple #[.agg #[.int .i64 0, .int .i64 0, .int .i64 0, .string ⟨#[]⟩], .int .i64 6]) (by simp [results, Tryz.results107, go_sem, t0, t1, t2, t3]) rfl ⟨by rw [E1.out], LZ.out⟩

end Go.Proofs.YtdpmpmaepjgndaaGreat
namespace Go.Proofs.YtdpmpmaepjgndaaGreat
open Go.RowKit Go.Deep
set_option linter.unusedVariables false
set_option linter.unusedSimpArgs false
set_option maxRecDepth 100000

variable {base P bS bm cS : Nat} {d : Dk} {u : World}
set_option maxHeartbeats 3200000 in
theorem ppread_any (h : PDk base P bS bm cS d u) (hn : d.n ≤ 4096) (id : Int) : Calls Tryz.prog 65 #[.pointer (some ⟨P, 0, none⟩), .int .i64 id] u fun r u' => r = readRet d id ∧ Below u.heap.size u u' := by
  have X1 := Lib.hid (heap_alloc_new u (.cells #[.int .i64 0, .int .i64 0, .int .i64 0, .string ⟨#[]⟩] 41))
  have B1 := Lib.hid (balloc u (.cells #[.int .i64 0, .int .i64 0, .int .i64 0, .string ⟨#[]⟩] 41))
  have D1 := Lib.hid (h.below B1.out)
  obtain ⟨C, hC⟩ : ∃ C, C = u.heap.size := ⟨_, rfl⟩
  have HC : Hid (u.heap.size ≤ C) := Lib.hid (by omega)
  rw [← hC] at X1
  clear h
  have HH := Lib.hid (phas_any D1.out hn id)
  have EP : Hid (readPE d id = if id < 0 ∨ manyP d.n ≤ id then 3 else if d.down then 13 else if getE (pageS d id.toNat) = 0 then (if (getP (pageS d id.toNat)).id = id then 0 else 14) else getE (pageS d id.toNat)) := Lib.hid rfl
  cases hb : hasB d id with
  | false =>
    rw [hb] at HH
    have hq := hasB_false hb
    rw [if_pos hq] at EP
    have E := Lib.hid (readRet_bad EP.out (by decide))
    clear hb hq EP
    go_enter Tryz.func65, Tryz.ntmps65
    go_upto_region 1 with fail
    rw [← hC]
    generalize u.alloc (.cells #[.int .i64 0, .int .i64 0, .int .i64 0, .string ⟨#[]⟩] 41) = w1 at *
    clear hC
    go_wp2_with fail
    refine (HH.out).mono ?_
    rintro e w2 ⟨rfl, rfl⟩
    obtain ⟨x0, x1, x2, x3⟩ := four_cells X1.out
    have xf : ∀ q, w2.frozen? ⟨C, q, none⟩ = false := fun q => Lib.frozen_of_heap X1.out q
    go_wp2_with fail
    change bodyPost _ _ _ _ _ (World.setCells w2 C 0 [.int .i64 0, .int .i64 0, .int .i64 0, .string ⟨#[]⟩])
    obtain ⟨t0, t1, t2, t3⟩ := four_cells (put_four X1.out (.int .i64 0) (.int .i64 0) (.int .i64 0) (.string ⟨#[]⟩))
    have LZ := Lib.hid (B1.out.trans (put_below HC.out [.int .i64 0, .int .i64 0, .int .i64 0, .string ⟨#[]⟩] 0 w2))
    generalize World.setCells w2 C 0 [.int .i64 0, .int .i64 0, .int .i64 0, .string ⟨#[]⟩] = w9 at *
    exact bodyPost_ret (v := .tuple #[.agg #[.int .i64 0, .int .i64 0, .int .i64 0, .string ⟨#[]⟩], .int .i64 3]) (by simp [results, Tryz.results65, go_sem, t0, t1, t2, t3]) rfl ⟨by rw [E.out], LZ.out⟩
  | true =>
    rw [hb] at HH
    have hq := hasB_true hb
    rw [if_neg (by omega)] at EP
    obtain ⟨k, rfl⟩ : ∃ k : Nat, id = (k : Int) := ⟨id.toNat, by omega⟩
    have HF := Lib.hid (pfetch_any D1.out hn k hq.2)
    rw [Int.toNat_natCast] at EP
    unfold fetchRet at HF
    clear hb hq
    cases hd : d.down with
    | true =>
      rw [hd] at HF EP
      rw [if_pos rfl] at EP
      simp only [if_true] at HF
      have E := Lib.hid (readRet_bad EP.out (by decide))
      clear hd EP
      go_enter Tryz.func65, Tryz.ntmps65
      go_upto_region 1 with fail
      rw [← hC]
      generalize u.alloc (.cells #[.int .i64 0, .int .i64 0, .int .i64 0, .string ⟨#[]⟩] 41) = w1 at *
      clear hC
      go_wp2_with fail
      refine (HH.out).mono ?_
      rintro e w2 ⟨rfl, rfl⟩
      go_wp2_with fail
      refine (HF.out).mono ?_
      rintro e w3 ⟨rfl, hb⟩
      have X3 := Lib.hid (heap_stays X1.out hb)
      have B3 := Lib.hid (bthen B1.out hb)
      clear hb
      obtain ⟨x0, x1, x2, x3⟩ := four_cells X3.out
      have xf : ∀ q, w3.frozen? ⟨C, q, none⟩ = false := fun q => Lib.frozen_of_heap X3.out q
      go_wp2_with fail
      change bodyPost _ _ _ _ _ (World.setCells w3 C 0 [.int .i64 0, .int .i64 0, .int .i64 0, .string ⟨#[]⟩])
      obtain ⟨t0, t1, t2, t3⟩ := four_cells (put_four X3.out (.int .i64 0) (.int .i64 0) (.int .i64 0) (.string ⟨#[]⟩))
      have LZ := Lib.hid (B3.out.trans (put_below HC.out [.int .i64 0, .int .i64 0, .int .i64 0, .string ⟨#[]⟩] 0 w3))
      generalize World.setCells w3 C 0 [.int .i64 0, .int .i64 0, .int .i64 0, .string ⟨#[]⟩] = w9 at *
      exact bodyPost_ret (v := .tuple #[.agg #[.int .i64 0, .int .i64 0, .int .i64 0, .string ⟨#[]⟩], .int .i64 13]) (by simp [results, Tryz.results65, go_sem, t0, t1, t2, t3]) rfl ⟨by rw [E.out], LZ.out⟩
    | false =>
      rw [hd] at HF EP
      rw [if_neg (by decide)] at EP
      simp only [if_false, Bool.false_eq_true] at HF
      have HG := Lib.hid (fun w => pget_any (pageS d k) (by rw [pageS_size]; omega) w)
      have EO := Lib.hid (fun h : readPE d (k : Int) = 0 => readRet_ok (d := d) (id := (k : Int)) h)
      rw [Int.toNat_natCast] at EO
      clear hd
      unfold getRet at HG
      generalize pageS d k = s at *
      obtain ⟨g, hg⟩ : ∃ g, g = getP s := ⟨_, rfl⟩
      rw [← hg] at HG EO EP
      clear hg
      obtain ⟨n1, n2, n3, pb⟩ := g
      unfold pgV at HG EO
      dsimp only at HG EO EP
      obtain ⟨ge, hge⟩ : ∃ e, e = getE s := ⟨_, rfl⟩
      rw [← hge] at HG EP
      clear hge
      go_enter Tryz.func65, Tryz.ntmps65
      go_upto_region 1 with fail
      rw [← hC]
      generalize u.alloc (.cells #[.int .i64 0, .int .i64 0, .int .i64 0, .string ⟨#[]⟩] 41) = w1 at *
      clear hC
      go_wp2_with fail
      refine (HH.out).mono ?_
      rintro e w2 ⟨rfl, rfl⟩
      go_wp2_with fail
      refine (HF.out).mono ?_
      rintro e w3 ⟨rfl, hb⟩
      have X3 := Lib.hid (heap_stays X1.out hb)
      have B3 := Lib.hid (bthen B1.out hb)
      clear hb
      go_wp2_with fail
      refine (HG.out _).mono ?_
      rintro e w4 ⟨rfl, hb⟩
      have X4 := Lib.hid (heap_stays X3.out hb)
      have B4 := Lib.hid (bthen B3.out hb)
      clear hb
      have Y5 := Lib.hid (heap_alloc_new w4 (.cells #[.int .i64 n1, .int .i64 n2, .int .i64 n3, .string pb] 41))
      have X5 := Lib.hid (heap_stays X4.out (balloc w4 (.cells #[.int .i64 n1, .int .i64 n2, .int .i64 n3, .string pb] 41)))
      have B5 := Lib.hid (bthen B4.out (balloc w4 (.cells #[.int .i64 n1, .int .i64 n2, .int .i64 n3, .string pb] 41)))
      obtain ⟨D, hD⟩ : ∃ D, D = w4.heap.size := ⟨_, rfl⟩
      rw [← hD] at Y5
      go_upto_region 9 with fail
      rw [← hD]
      generalize w4.alloc (.cells #[.int .i64 n1, .int .i64 n2, .int .i64 n3, .string pb] 41) = w5 at *
      clear hD
      obtain ⟨y0, y1, y2, y3⟩ := four_cells Y5.out
      obtain ⟨x0, x1, x2, x3⟩ := four_cells X5.out
      have xf : ∀ q, w5.frozen? ⟨C, q, none⟩ = false := fun q => Lib.frozen_of_heap X5.out q
      by_cases hz : ge = 0
      · rw [if_pos hz] at EP
        subst hz
        by_cases hi : n1 = (k : Int)
        · rw [if_pos hi] at EP
          have E := Lib.hid (EO.out EP.out)
          have d2 : (n1 != (k : Int)) = false := by simp [hi]
          clear EO EP hi
          go_wp2_with fail
          change bodyPost _ _ _ _ _ (World.setCells w5 C 0 [.int .i64 n1, .int .i64 n2, .int .i64 n3, .string pb])
          obtain ⟨t0, t1, t2, t3⟩ := four_cells (put_four X5.out (.int .i64 n1) (.int .i64 n2) (.int .i64 n3) (.string pb))
          have LZ := Lib.hid (B5.out.trans (put_below HC.out [.int .i64 n1, .int .i64 n2, .int .i64 n3, .string pb] 0 w5))
          generalize World.setCells w5 C 0 [.int .i64 n1, .int .i64 n2, .int .i64 n3, .string pb] = w9 at *
          exact bodyPost_ret (v := .tuple #[.agg #[.int .i64 n1, .int .i64 n2, .int .i64 n3, .string pb], .int .i64 0]) (by simp [results, Tryz.results65, go_sem, t0, t1, t2, t3]) rfl ⟨by rw [E.out], LZ.out⟩
        · rw [if_neg hi] at EP
          have E := Lib.hid (readRet_bad EP.out (by decide))
          have d2 : (n1 != (k : Int)) = true := by simp [hi]
          clear EO EP hi
          go_wp2_with fail
          change bodyPost _ _ _ _ _ (World.setCells w5 C 0 [.int .i64 0, .int .i64 0, .int .i64 0, .string ⟨#[]⟩])
          obtain ⟨t0, t1, t2, t3⟩ := four_cells (put_four X5.out (.int .i64 0) (.int .i64 0) (.int .i64 0) (.string ⟨#[]⟩))
          have LZ := Lib.hid (B5.out.trans (put_below HC.out [.int .i64 0, .int .i64 0, .int .i64 0, .string ⟨#[]⟩] 0 w5))
          generalize World.setCells w5 C 0 [.int .i64 0, .int .i64 0, .int .i64 0, .string ⟨#[]⟩] = w9 at *
          exact bodyPost_ret (v := .tuple #[.agg #[.int .i64 0, .int .i64 0, .int .i64 0, .string ⟨#[]⟩], .int .i64 14]) (by simp [results, Tryz.results65, go_sem, t0, t1, t2, t3]) rfl ⟨by rw [E.out], LZ.out⟩
      · rw [if_neg hz] at EP
        have E := Lib.hid (readRet_bad EP.out hz)
        have d2 : (ge != 0) = true := by simp [hz]
        clear EO EP hz
        go_wp2_with fail
        change bodyPost _ _ _ _ _ (World.setCells w5 C 0 [.int .i64 0, .int .i64 0, .int .i64 0, .string ⟨#[]⟩])
        obtain ⟨t0, t1, t2, t3⟩ := four_cells (put_four X5.out (.int .i64 0) (.int .i64 0) (.int .i64 0) (.string ⟨#[]⟩))
        have LZ := Lib.hid (B5.out.trans (put_below HC.out [.int .i64 0, .int .i64 0, .int .i64 0, .string ⟨#[]⟩] 0 w5))
        generalize World.setCells w5 C 0 [.int .i64 0, .int .i64 0, .int .i64 0, .string ⟨#[]⟩] = w9 at *
        exact bodyPost_ret (v := .tuple #[.agg #[.int .i64 0, .int .i64 0, .int .i64 0, .string ⟨#[]⟩], .int .i64 ge]) (by simp [results, Tryz.results65, go_sem, t0, t1, t2, t3]) rfl ⟨by rw [E.out], LZ.out⟩

end Go.Proofs.YtdpmpmaepjgndaaGreat
