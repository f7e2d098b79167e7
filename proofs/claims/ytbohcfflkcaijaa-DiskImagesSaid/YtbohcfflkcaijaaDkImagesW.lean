/- The walk of the law DiskImages: a disk of an image has its bytes, and bytes 0 behind them, all safe. -/
import Derived.Test.YtbohcfflkcaijaaDkLaw1
import Derived.Deep.DeepCutAuto
namespace Go.Proofs.Ytbohcfflkcaijaa
open Go.RowKit Go.Deep Go.Maps
set_option linter.unusedVariables false
set_option linter.unusedSimpArgs false
set_option maxRecDepth 100000

theorem img_crash (s : ByteArray) (n : Nat) (keep : List Bool) (t b : Int) (i : Nat) (hi : i < n) : nowD (crashD (imgD s n n) keep t b) i = imgF s i := by
  show crashF (imgD s n n) keep t b i = imgF s i
  unfold crashF
  show (if i < n then imgF s i else fun _ => 0) = imgF s i
  rw [if_pos hi]
theorem byD_get (s : ByteArray) {i : Nat} (h : i < s.size) : byD s i = (s[i].toNat : Int) := by
  have hs : s.data.toList.length = s.size := by simp
  unfold byD
  rw [List.getD_eq_getElem?_getD, List.getElem?_eq_getElem (by omega)]
  rfl
set_option maxHeartbeats 6400000 in
theorem diskImages_walk (s0 : ByteArray) (keep : List Bool) (t b : Int) (v : Value) (W : World) (hs : s0.size ≤ maxLen) (hc : CrA W.heap.size keep t b v W) :
    Calls Try.prog 6 #[.string s0, .agg #[v, .int .i64 t, .int .i64 b]] W fun e w' => e = .returned (.bool true) ∧ Below W.heap.size W w' := by
  have X1 := Lib.hid (heap_alloc_new W (.cells #[v, .int .i64 t, .int .i64 b] 38))
  have B1 := Lib.hid (balloc W (.cells #[v, .int .i64 t, .int .i64 b] 38))
  have A1 := Lib.hid (hc.below B1.out)
  have HA : Hid (∀ w, Calls Try.prog 10 #[] w fun r u' => r = .returned (.bool true) ∧ Below w.heap.size w u') := Lib.hid fun w => awake_any w
  unfold maxLen at hs
  obtain ⟨C, hC⟩ : ∃ C, C = W.heap.size := ⟨_, rfl⟩
  rw [← hC] at X1
  obtain ⟨s, hss⟩ : ∃ s, s = if 3000 < s0.size then s0.extract 0 3000 else s0 := ⟨_, rfl⟩
  have hs3 : s.size ≤ 3000 := by
    rw [hss]
    split
    · rw [ByteArray.size_extract]; omega
    · omega
  have HSS := Lib.hid hss
  clear hc hss
  go_enter Try.func6, Try.ntmps6
  go_upto_region 1 with fail
  rw [← hC]
  generalize W.alloc (.cells #[v, .int .i64 t, .int .i64 b] 38) = w1 at *
  have HCW := Lib.hid hC
  clear hC
  go_upto_if 14 with fail
  go_cut [0] from 12 to 17 (fun c wx => c = .string s ∧ wx = w1)
  case first =>
    by_cases h3 : 3000 < s0.size
    · have d1 : decide (3000 < (s0.size : Int)) = true := by simp; omega
      have E := Lib.hid (show s0.extract 0 3000 = s by rw [HSS.out, if_pos h3])
      go_wp2_with fail
      go_meet
      exact ⟨by rw [← E.out], rfl⟩
    · have d1 : decide (3000 < (s0.size : Int)) = false := by simp; omega
      have E := Lib.hid (show s0 = s by rw [HSS.out, if_neg h3])
      go_wp2_with fail
      go_meet
      exact ⟨by rw [← E.out], rfl⟩
  case rest =>
  obtain ⟨rfl, hw⟩ := hcut
  rw [hw]
  clear hw
  by_cases h0 : s.size = 0
  · have G := Lib.hid (pofi_none s h0 w1)
    have d0 : ((s.size : Int) == 0) = true := by rw [h0]; rfl
    go_wp2_with fail
    refine (G.out).mono ?_
    rintro e w2 ⟨rfl, rfl⟩
    go_wp2_with fail
    refine (HA.out _).mono ?_
    rintro e w3 ⟨rfl, k3⟩
    have K3 := Lib.hid (bthen B1.out k3)
    clear k3
    go_wp2_with fail
    go_ret
    exact ⟨rfl, K3.out⟩
  · have d0 : ((s.size : Int) == 0) = false := by rw [beq_eq_false_iff_ne]; omega
    obtain ⟨k, hk⟩ : ∃ k, k = (s.size + 63) / 64 := ⟨_, rfl⟩
    have G := Lib.hid (pofi_any s (by omega) (by omega) k hk w1)
    have hkb : k ≤ 47 ∧ s.size ≤ 64 * k ∧ 64 * k < s.size + 64 := by omega
    clear hk
    go_wp2_with fail
    refine (G.out).mono ?_
    rintro e w2 ⟨P, bS, bm, cS, rfl, p2, k2⟩
    have P2 := Lib.hid (p2.mono (base2 := W.heap.size) B1.out.size)
    have K2 := Lib.hid (bthen B1.out k2)
    have X2 := Lib.hid ((k2.block _ (lt_of_block X1.out)).trans X1.out)
    have x0 : w2.cell? ⟨C, 0, none⟩ = some v := by rw [Lib.cell_of_heap X2.out]; rfl
    have x1 : w2.cell? ⟨C, 1, none⟩ = some (.int .i64 t) := by rw [Lib.cell_of_heap X2.out]; rfl
    have x2 : w2.cell? ⟨C, 2, none⟩ = some (.int .i64 b) := by rw [Lib.cell_of_heap X2.out]; rfl
    have GC := Lib.hid (pcrash_any P2.out (by show k ≤ 4096; omega) K2.out.size (A1.out.below (Below.mono k2 B1.out.size)))
    clear p2 k2 G
    go_wp2_with fail
    refine (GC.out).mono ?_
    rintro e w3 ⟨rfl, ⟨bm3, hlt3, p3⟩, k3⟩
    have P3' := Lib.hid p3
    have K3 := Lib.hid (K2.out.trans (P2.out.bot k3 K2.out.size))
    have SEC : Hid (∀ i, i < k → readS (crashD (imgD s k k) keep t b) (i : Int) = sec (imgF s i) ∧ readE (crashD (imgD s k k) keep t b) (i : Int) = 0) := Lib.hid fun i hi => by
      have hn : (crashD (imgD s k k) keep t b).n = k := rfl
      have hd : (crashD (imgD s k k) keep t b).down = false := rfl
      constructor
      · unfold readS
        rw [if_neg (by rw [hd]; decide), if_neg (by rw [hn]; omega), Int.toNat_natCast, img_crash _ _ _ _ _ _ hi]
      · unfold readE
        rw [if_neg (by rw [hd]; decide), if_neg (by rw [hn]; omega)]
    have DN : Hid ((crashD (imgD s k k) keep t b).n = k) := Lib.hid rfl
    generalize crashD (imgD s k k) keep t b = D at *
    clear p3 k3 hlt3 GC P2 K2 X2 x0 x1 x2
    go_wp2_with fail
    go_loopw [7, 8] (fun a iv wr => ∃ j : Nat, j ≤ k ∧ iv = .int .i64 j ∧ a = .string (allF (imgF s) j) ∧ wr = w3) (fun _ iv _ => k - (intOf iv).toNat)
    case atStart => exact ⟨0, by omega, rfl, rfl, rfl⟩
    case round =>
      obtain ⟨j, hj, rfl, rfl, hw⟩ := hrel
      rw [hw]
      clear hw
      have hj0 : (0 : Int) ≤ (j : Int) := by omega
      have GS := Lib.hid (psectors_any P3'.out)
      rw [DN.out] at GS
      have hsz := allF_size (imgF s) j
      have hsz2 := sec_size (imgF s j)
      obtain ⟨aj, haj⟩ : ∃ a, a = allF (imgF s) j := ⟨_, rfl⟩
      rw [← haj] at hsz
      by_cases hlt : j < k
      · have e1 : decide ((j : Int) < (k : Int)) = true := by simp [hlt]
        have GR := Lib.hid (pread_any P3'.out (by rw [DN.out]; omega) (j : Int))
        rw [(SEC.out j hlt).1, (SEC.out j hlt).2] at GR
        have HAJ : Hid (aj ++ sec (imgF s j) = allF (imgF s) (j + 1)) := Lib.hid (by rw [haj]; rfl)
        rw [← haj]
        clear haj
        obtain ⟨sj, hsj⟩ : ∃ a, a = sec (imgF s j) := ⟨_, rfl⟩
        rw [← hsj] at hsz2 GR HAJ
        clear hsj
        have hz : ¬ 9223372036854775807 < aj.size + sj.size := by omega
        have HJ := Lib.hid hlt
        go_wp2_with fail
        refine (GS.out).mono ?_
        rintro e w5 ⟨rfl, hw5⟩
        rw [hw5]
        clear hw5
        go_wp2_with fail
        refine (GR.out).mono ?_
        rintro e w6 ⟨rfl, hw6⟩
        rw [hw6]
        clear hw6
        go_wp2_with fail
        go_roundw
        case rel => exact ⟨j + 1, HJ.out, by go_num, by rw [← HAJ.out], trivial⟩
        case measure => have := HJ.out; simp [intOf]; omega
      · have e1 : decide ((j : Int) < (k : Int)) = false := by simp; omega
        obtain rfl : j = k := by omega
        have AI : Hid (aj.extract 0 s.size = s) := Lib.hid (by rw [haj]; exact all_img s j hkb.2.1)
        have AZ : Hid (∀ q, s.size ≤ q → q < 64 * j → byD aj q = 0) := Lib.hid fun q h1 h2 => by rw [haj]; exact all_zero s j q h1 h2
        rw [← haj]
        clear haj
        have e2 : decide ((aj.size : Int) < (s.size : Int)) = false := by simp; omega
        have e3 : decide ((s.size : Int) + 64 ≤ (aj.size : Int)) = false := by simp; omega
        have ai := AI.out
        have h9 : (s.size : Int) ≤ (aj.size : Int) ∧ (aj.size : Int) ≤ 4000 := by omega
        go_wp2_with fail
        refine (GS.out).mono ?_
        rintro e w5 ⟨rfl, hw5⟩
        rw [hw5]
        clear hw5
        go_wp2_with fail
        go_loopw [11] (fun iv wr => ∃ q : Nat, s.size ≤ q ∧ q ≤ aj.size ∧ iv = .int .i64 (q : Int) ∧ wr = w3) (fun iv _ => aj.size - (intOf iv).toNat)
        case atStart => exact ⟨s.size, Nat.le_refl _, by omega, rfl, rfl⟩
        case round =>
          obtain ⟨q, hq1, hq2, rfl, hw⟩ := hrel
          rw [hw]
          clear hw
          have hq0 : (0 : Int) ≤ (q : Int) := by omega
          by_cases hlq : q < aj.size
          · have e4 : decide ((q : Int) < (aj.size : Int)) = true := by simp [hlq]
            have hlq2 : (q : Int) < (aj.size : Int) := by omega
            have ez : ((aj[q].toNat : Int) != 0) = false := by
              have := AZ.out q hq1 (by omega)
              rw [byD_get aj hlq] at this
              simp [this]
            have HLQ := Lib.hid hlq
            go_wp2_with fail
            go_roundw
            case rel => exact ⟨q + 1, by omega, by have := HLQ.out; omega, by go_num, trivial⟩
            case measure => have := HLQ.out; simp [intOf]; omega
          · have e4 : decide ((q : Int) < (aj.size : Int)) = false := by simp; omega
            go_wp2_with fail
            refine (HA.out _).mono ?_
            rintro e w9 ⟨rfl, k9⟩
            have K9 := Lib.hid (bthen K3.out k9)
            clear k9
            go_wp2_with fail
            go_ret
            exact ⟨rfl, K9.out⟩

end Go.Proofs.Ytbohcfflkcaijaa
