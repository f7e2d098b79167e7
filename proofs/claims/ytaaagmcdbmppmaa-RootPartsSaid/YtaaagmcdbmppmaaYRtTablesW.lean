/- The walk of the law RootTables, whatever the program's root blocks are made of. -/
import Derived.Test.YtaaagmcdbmppmaaYRtLaw0
namespace Go.Proofs.Ytaaagmcdbmppmaa
open Go.RowKit Go.Deep
set_option linter.unusedVariables false
set_option linter.unusedSimpArgs false
set_option maxRecDepth 100000

/-- the parts ahead of the k-th -/
def allT (l : List Int) (k : Nat) : List Int := (l.take (116 * k)).map clampP
theorem allT_len (l : List Int) (k : Nat) : (allT l k).length = min (116 * k) l.length := by unfold allT; rw [List.length_map, List.length_take]
theorem allT_succ (l : List Int) (k : Nat) : allT l (k + 1) = allT l k ++ (partT l k).map clampP := (parts_all l k).symm
theorem allT_end (l : List Int) (k : Nat) (h : l.length ≤ 116 * k) : allT l k = l.map clampP := by unfold allT; rw [List.take_of_length_le h]
theorem intV_len (l : List Int) : (intV l).length = l.length := by unfold intV; rw [List.length_map]
theorem own_lst {b : Nat} {l : List Int} {v : Value} {u : World} (h : u.ownsRow b 3 1 v l.length (intV l)) : LstI l v u := LstI.of h
theorem LstI.cells {l : List Int} {v : Value} {u : World} (h : LstI l v u) (hn : 0 < l.length) : ∃ B o c, v = .slice (some ⟨B, o, none⟩) l.length c ∧ l.length ≤ c ∧ c ≤ 9223372036854775807 ∧ ∀ i, i < l.length → u.cell? ⟨B, o + i, none⟩ = some (.int .i64 (l.getD i 0)) := by
  obtain ⟨ao, cap, e, h1, h2, h3⟩ := h
  obtain ⟨B, o, e2, hA⟩ := h3 hn
  exact ⟨B, o, cap, by rw [e, e2], h1, h2, fun i hi => hA.one i hi⟩
set_option maxHeartbeats 12800000 in
theorem tables13_walk (I : Rt13) (l : List Int) (ao : Option Addr) (cap : Nat) (W : World) (hv : LstI l (.slice ao l.length cap) W) : Calls Try.prog 5 #[.slice ao l.length cap] W fun r u' => r = .returned (.bool true) ∧ Below W.heap.size W u' := by
  obtain ⟨i0, hi0, hz0, hz1, hz2⟩ := info_parts infoInt13
  have HA := Lib.hid (fun w => awake13_any I w)
  have HI := Lib.hid I
  obtain ⟨n, hn⟩ : ∃ n, n = l.length := ⟨_, rfl⟩
  have HN := Lib.hid hn
  have VL := Lib.hid hv
  have mA : n ≤ 9223372036854775807 := by obtain ⟨_, _, e, h1, h2, _⟩ := hv; omega
  rw [← hn] at VL ⊢
  clear I hv hn
  by_cases q1 : 700 < n
  · have d1 : decide ((700 : Int) < (n : Int)) = true := by simp; omega
    go_enter Try.func5, Try.ntmps5
    go_wp2_with fail
    refine (HA.out _).mono ?_
    rintro e w8 ⟨rfl, hb⟩
    have B8 := Lib.hid hb
    clear hb
    go_wp2_with fail
    go_ret
    exact ⟨rfl, B8.out⟩
  have d1 : decide ((700 : Int) < (n : Int)) = false := by simp; omega
  obtain ⟨q, hq⟩ : ∃ q : Nat, (q : Int) = needR (n : Int) := ⟨(needR (n : Int)).toNat, by have := (need_bd (n := n) (by omega)).1; omega⟩
  have ND : Hid (∀ w, Calls Try.prog 17 #[.int .i64 (n : Int)] w fun r u' => r = .returned (.int .i64 (q : Int)) ∧ Below w.heap.size w u') := Lib.hid (fun w => by rw [hq]; exact HI.out.need _ w (by unfold big64; omega))
  have A1 : Hid (n ≤ 116 * q) := Lib.hid (by have := (need_all (n := n)).1; omega)
  have A2 : Hid (∀ k : Nat, k < q → 116 * k < n) := Lib.hid (fun k hk => (need_all (n := n)).2 k (by omega))
  have A3 : Hid (q ≤ 7) := Lib.hid (by unfold needR at hq; split at hq <;> omega)
  have HQ := Lib.hid hq
  clear hq
  go_enter Try.func5, Try.ntmps5
  go_wp2_with fail
  go_loopw [3, 4] (fun v i wr => ∃ j : Nat, j ≤ q ∧ i = .int .i64 (j : Int) ∧ Hid (wr.ownsRow W.heap.size 3 1 v (allT l j).length (intV (allT l j))) ∧ Hid (Below W.heap.size W wr)) (fun _ i _ => q - (intOf i).toNat)
  case atStart => exact ⟨0, Nat.zero_le _, rfl, Lib.hid (by
    have : allT l 0 = [] := by unfold allT; simp
    rw [this]; exact World.ownsRow_nil _ _ _ _), Lib.hid (Below.refl _ _)⟩
  case round =>
    obtain ⟨j, hj, rfl, HO, HB⟩ := hrel
    go_wp2_with fail
    refine (ND.out _).mono ?_
    rintro e w1 ⟨rfl, hb⟩
    have O1 := Lib.hid (own_below HO.out hb)
    have B1 := Lib.hid (bthen HB.out hb)
    clear hb HO HB
    by_cases hlt : j < q
    · have hj1 : (j : Int) < (q : Int) := by omega
      have d2 : decide ((j : Int) < (q : Int)) = true := by simp [hlt]
      have HJ := Lib.hid hlt
      have hjq : j < 7 := by have := A3.out; omega
      have V1 := Lib.hid (show LstI l (.slice ao n cap) w1 from VL.out.below B1.out)
      obtain ⟨m, hm⟩ : ∃ m, m = (partT l j).length := ⟨_, rfl⟩
      have HM := Lib.hid hm
      have hm2 : m = min 116 (n - 116 * j) := by rw [hm, partT_len, HN.out]
      have GP := Lib.hid (HI.out.putPart l _ (j : Int) w1 V1.out (by rw [← HN.out]; omega) (by unfold big64; omega))
      have A4 := A2.out j hlt
      by_cases hbig : ∃ x ∈ partT l j, 1023 < x
      · have E2 : partE l (j : Int) = 2 := by
          unfold partE
          rw [if_neg (by rw [← HN.out, ← HQ.out]; omega), Int.toNat_natCast, if_pos hbig]
        have E3 : partO l (j : Int) = ⟨#[]⟩ := by unfold partO; rw [E2, if_neg (by decide)]
        rw [E2, E3] at GP
        clear E2 E3 hbig hm2
        go_wp2_with fail
        refine (GP.out).mono ?_
        rintro e w2 ⟨rfl, hb⟩
        have B2 := Lib.hid (bthen B1.out hb)
        clear hb
        go_wp2_with fail
        refine (HA.out _).mono ?_
        rintro e w3 ⟨rfl, hb⟩
        have B3 := Lib.hid (bthen B2.out hb)
        clear hb
        go_wp2_with fail
        go_ret
        exact ⟨rfl, B3.out⟩
      · have hx : ∀ x ∈ partT l j, x ≤ 1023 := fun x hx => by
          rcases Int.lt_or_le 1023 x with h | h
          · exact absurd ⟨x, hx, h⟩ hbig
          · exact h
        have E2 : partE l (j : Int) = 0 := by
          unfold partE
          rw [if_neg (by rw [← HN.out, ← HQ.out]; omega), Int.toNat_natCast, if_neg hbig]
        have E3 : partO l (j : Int) = partS l j := by unfold partO; rw [E2, if_pos rfl, Int.toNat_natCast]
        rw [E2, E3] at GP
        obtain ⟨pb1, pb2⟩ := part_back hx
        rw [← hm] at pb1 pb2
        have PSZ : (partS l j).size = 2 * m := by rw [partS_size, hm]
        have GG : Hid (∀ w, Calls Try.prog 14 #[.string (partS l j), .int .i64 (m : Int)] w fun r u' => ∃ v, r = .returned (.tuple #[v, .int .i64 0]) ∧ LstI ((partT l j).map clampP) v u' ∧ Below w.heap.size w u') := Lib.hid (fun w => by
          have h := HI.out.getPart (partS l j) (m : Int) w (by omega) (by unfold big64; omega)
          rw [pb1, show getL (partS l j) (m : Int) = (partT l j).map clampP from by unfold getL; rw [if_pos pb1, Int.toNat_natCast]; exact pb2] at h
          exact h)
        clear E2 E3 hbig hx pb1 pb2
        obtain ⟨ps, hps⟩ : ∃ s, s = partS l j := ⟨_, rfl⟩
        rw [← hps] at GP GG PSZ
        clear hps
        obtain ⟨a, ha⟩ : ∃ a, a = 116 * j := ⟨_, rfl⟩
        obtain ⟨r, hr⟩ : ∃ r, r = n - a := ⟨_, rfl⟩
        have e0 : (j : Int) * 116 = (a : Int) := by omega
        have e1 : (n : Int) - (a : Int) = (r : Int) := by omega
        have hm0 : 0 < m := by omega
        have hm3 : m ≤ 116 := by omega
        have hmr : r < 116 ∧ m = r ∨ ¬ r < 116 ∧ m = 116 := by omega
        have em : (if (r : Int) < 116 then (r : Int) else 116) = (m : Int) := by split <;> omega
        clear ha hr hm2 A4 hm
        go_wp2_with fail
        refine (GP.out).mono ?_
        rintro e w2 ⟨rfl, hb⟩
        have B2 := Lib.hid (bthen B1.out hb)
        have O2 := Lib.hid (own_below O1.out hb)
        clear hb O1 B1 GP V1
        go_wp2_with fail
        refine (GG.out _).mono ?_
        rintro e w3 ⟨v3, rfl, hl3, hb⟩
        have B3 := Lib.hid (bthen B2.out hb)
        have O3 := Lib.hid (own_below O2.out hb)
        obtain ⟨PM, hPM⟩ : ∃ p, p = (partT l j).map clampP := ⟨_, rfl⟩
        have HPM := Lib.hid hPM
        have pml : PM.length = m := by rw [hPM, List.length_map, HM.out]
        rw [← hPM] at hl3
        obtain ⟨B, o, c, rfl, hc1, hc2, hcell⟩ := hl3.cells (by omega)
        have HC := Lib.hid hcell
        have HPL := Lib.hid pml
        have SZ := Lib.hid B3.out.size
        have AL : Hid ((allT l j).length ≤ 700) := Lib.hid (by rw [allT_len, ← HN.out]; omega)
        rw [pml] at hc1 ⊢
        clear hb hl3 hPM hcell pml O2 B2 GG hmr em e1 e0
        have hal := AL.out
        generalize hAL : (allT l j).length = al at *
        have HAL := Lib.hid hAL
        clear hAL
        have CELLS : Hid (∀ k u, (intV PM)[k]? = some u → w3.cell? ((⟨B, o, none⟩ : Addr).add k) = some u) := Lib.hid (fun k u hk => by
            have hk2 : k < PM.length := by
              rcases Nat.lt_or_ge k PM.length with h | h
              · exact h
              · rw [List.getElem?_eq_none (by rw [intV_len]; exact h)] at hk; cases hk
            rw [add_plain, HC.out k hk2, ← hk]
            unfold intV
            rw [List.getElem?_map, List.getElem?_eq_getElem hk2, List.getD_eq_getElem?_getD, List.getElem?_eq_getElem hk2]
            rfl)
        go_wp2_with (at_builtin; refine wpList_append_own _ rfl _ _ 22 rfl W.heap.size 3 i0 (.int .i64 0) 1 8 Try.underlying22 hi0 hz0 hz1 hz2 rfl (by decide) _ al _ rfl O3.out ⟨B, o, none⟩ m c (intV PM) rfl (by rw [intV_len, HPL.out, Nat.mul_one]) CELLS.out (by intro x hx; unfold intV at hx; obtain ⟨y, _, rfl⟩ := List.mem_map.1 hx; rfl) (by unfold maxLen; omega) (by omega) SZ.out ?_)
        intro v4 w4 ho4 hg4 _
        have O4 : Hid (w4.ownsRow W.heap.size 3 1 v4 (allT l (j + 1)).length (intV (allT l (j + 1)))) := Lib.hid (by
          rw [allT_succ, List.length_append, HAL.out, ← HPM.out, HPL.out]
          unfold intV at ho4 ⊢
          rw [List.map_append]
          exact ho4)
        have W4 := Lib.hid (B3.out.trans ((Below.refl _ _).grown hg4 SZ.out (fun g hg => (O3.out.lt g hg).1)))
        clear ho4 hg4
        go_wp2_with fail
        go_roundw
        case rel => exact ⟨j + 1, HJ.out, by go_num, O4, W4⟩
        case measure => have := HJ.out; simp [intOf]; omega
    · obtain rfl : j = q := by omega
      have d2 : decide ((j : Int) < (j : Int)) = false := by simp
      have EE := Lib.hid (allT_end l j (by rw [← HN.out]; exact A1.out))
      have L1 : Hid (LstI (l.map clampP) u3 w1) := Lib.hid (by rw [← EE.out]; exact LstI.of O1.out)
      clear O1 EE
      obtain ⟨a3, c3, rfl, l3, m3, k3⟩ := L1.out
      rw [List.length_map, ← HN.out] at l3 k3 ⊢
      have K3 := Lib.hid k3
      have VT := Lib.hid (VL.out.below B1.out)
      clear k3 L1
      go_wp2_with fail
      go_loopw [10] (fun i wx => ∃ k : Nat, k ≤ n ∧ i = .int .i64 (k : Int) ∧ Hid (Below w1.heap.size w1 wx)) (fun i _ => n - (intOf i).toNat)
      case atStart => exact ⟨0, Nat.zero_le _, rfl, Lib.hid (Below.refl _ _)⟩
      case round =>
        obtain ⟨k, hk, rfl, HX⟩ := hrel
        by_cases hkn : k < n
        · have f1 : decide ((k : Int) < (n : Int)) = true := by simp [hkn]
          have f2 : (k : Int) < (n : Int) := by omega
          have f3 : (0 : Int) ≤ (k : Int) := by omega
          obtain ⟨B3, o3, rfl, hA3⟩ := K3.out (by omega)
          obtain ⟨aT, cT, e4, l4, m4, k4⟩ := VT.out
          simp only [Value.slice.injEq] at e4
          obtain ⟨rfl, e5, rfl⟩ := e4
          obtain ⟨B4, o4, rfl, hA4⟩ := k4 (by omega)
          have z3 := (hA3.below HX.out).one k hkn
          have z4 := (hA4.below HX.out).one k (by omega)
          dsimp only [gW] at z3 z4
          have ez : (l.map clampP).getD k 0 = clampP (l.getD k 0) := by
            rw [List.getD_eq_getElem?_getD, List.getElem?_map, List.getD_eq_getElem?_getD, List.getElem?_eq_getElem (by rw [← HN.out]; exact hkn)]
            rfl
          rw [ez] at z3
          generalize l.getD k 0 = z at z3 z4
          have HK := Lib.hid hkn
          clear ez hA3 hA4 k4 e5 l4
          by_cases hz : z < -1
          · rw [show clampP z = -1 from by unfold clampP; rw [if_pos (by omega)]] at z3
            have f4 : (if z < -1 then (-1 : Int) else z) = -1 := by rw [if_pos hz]
            go_upto_region 18 with fail
            go_region
            all_goals
              have HX2 := Lib.hid (bthen HX.out (bdrew _))
              go_wp2_with fail
              go_roundw
              case rel => exact ⟨k + 1, HK.out, by go_num, HX2⟩
              case measure => have := HK.out; simp [intOf]; omega
          · rw [show clampP z = z from by unfold clampP; split <;> omega] at z3
            have f4 : (if z < -1 then (-1 : Int) else z) = z := by rw [if_neg hz]
            go_upto_region 18 with fail
            go_region
            all_goals
              have HX2 := Lib.hid (bthen HX.out (bdrew _))
              go_wp2_with fail
              go_roundw
              case rel => exact ⟨k + 1, HK.out, by go_num, HX2⟩
              case measure => have := HK.out; simp [intOf]; omega
        · obtain rfl : k = n := by omega
          have f1 : decide ((k : Int) < (k : Int)) = false := by simp
          have BX := Lib.hid (bthen B1.out HX.out)
          go_wp2_with fail
          refine (HA.out _).mono ?_
          rintro e w9 ⟨rfl, hb⟩
          have B9 := Lib.hid (bthen BX.out hb)
          clear hb
          go_wp2_with fail
          go_ret
          exact ⟨rfl, B9.out⟩

end Go.Proofs.Ytaaagmcdbmppmaa
