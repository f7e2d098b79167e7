/- The program's PutPart. -/
import Derived.Test.YtaaagmcdbmppmaaYRtP4
import Derived.Test.YtaaagmcdbmppmaaYRtLaw0
import Derived.Test.YtaaagmcdbmppmaaYRtR2
namespace Go.Proofs.Ytaaagmcdbmppmaa
open Go.RowKit Go.Deep
set_option linter.unusedVariables false
set_option linter.unusedSimpArgs false
set_option maxRecDepth 100000

theorem pputpart_bad (l : List Int) (v : Value) (p : Int) (w : World) (hv : LstI l v w) (hp : -9223372036854775808 ≤ p ∧ p ≤ 9223372036854775807) (h : p < 0 ∨ needR (l.length : Int) ≤ p) :
    Calls Try.prog 12 #[v, .int .i64 p] w fun r w' => r = .returned (.tuple #[.string ⟨#[]⟩, .int .i64 3]) ∧ w' = w := by
  obtain ⟨ao, cap, rfl, h1, h2, _⟩ := hv
  generalize hn : l.length = n at *
  have HN := Lib.hid (fun w => pneed_any (n : Int) (by omega) w)
  have hb := need_bd (n := n) (by omega)
  generalize needR (n : Int) = q at *
  clear hn
  by_cases h0 : p < 0
  · have d : decide (p < 0) = true := by simp [h0]
    go_enter Try.func12, Try.ntmps12
    go_wp2_with fail
    go_ret2
    exact ⟨rfl, rfl⟩
  · have d : decide (p < 0) = false := by simp; omega
    have d2 : decide (q ≤ p) = true := by simp; omega
    go_enter Try.func12, Try.ntmps12
    go_wp2_with fail
    refine (HN.out _).mono ?_
    rintro e w1 ⟨rfl, rfl⟩
    go_wp2_with fail
    go_ret2
    exact ⟨rfl, rfl⟩
set_option maxHeartbeats 3200000 in
theorem pputpart_go (l : List Int) (v : Value) (p : Nat) (w : World) (hv : LstI l v w) (hl : l.length ≤ 1048576) (h : (p : Int) < needR (l.length : Int)) :
    Calls Try.prog 12 #[v, .int .i64 (p : Int)] w fun r w' => r = .returned (.tuple #[.string (partO l p), .int .i64 (partE l p)]) ∧ Below w.heap.size w w' := by
  obtain ⟨ao, cap, rfl, h1, h2, h3⟩ := hv
  have hlt0 := need_all.2 p h
  obtain ⟨B, o, rfl, hA⟩ := h3 (by omega)
  obtain ⟨K, hK⟩ : ∃ K, K = (partT l p).length := ⟨_, rfl⟩
  have hK2 : K = min 116 (l.length - 116 * p) := by rw [hK]; exact partT_len l p
  have HP : Hid (∀ j, j < K → (partT l p)[j]? = some (l.getD (116 * p + j) 0)) := Lib.hid (fun j hj => by
    have hj2 : j < (partT l p).length := by omega
    rw [List.getElem?_eq_getElem hj2, partT_at l p j hj2, List.getD_eq_getElem?_getD, List.getElem?_eq_getElem (by omega)]
    rfl)
  have HPI : Hid (∀ x ∈ partT l p, ∃ j, j < K ∧ x = l.getD (116 * p + j) 0) := Lib.hid (fun x hx => by
    obtain ⟨j, hj, rfl⟩ := List.getElem_of_mem hx
    refine ⟨j, by omega, ?_⟩
    rw [partT_at l p j hj, List.getD_eq_getElem?_getD, List.getElem?_eq_getElem (by omega)]
    rfl)
  have E : Hid (partE l (p : Int) = if ∃ x ∈ partT l p, 1023 < x then 2 else 0) := Lib.hid (by
    unfold partE
    rw [if_neg (by omega), Int.toNat_natCast])
  have EO : Hid (partO l (p : Int) = if ∃ x ∈ partT l p, 1023 < x then ⟨#[]⟩ else partS l p) := Lib.hid (by
    unfold partO
    rw [E.out, Int.toNat_natCast]
    split <;> simp)
  have EA : Hid (strOfNums (ppN l p K) = partS l p) := Lib.hid (by rw [hK]; exact ppN_all l p)
  have ES : Hid (∀ j, j < K → ppN l p (j + 1) = ppN l p j ++ beI 2 (clampP (l.getD (116 * p + j) 0) + 1)) := Lib.hid (fun j hj => ppN_succ (by omega))
  have EN : Hid (∀ j, j ≤ K → (ppN l p j).length = 2 * j) := Lib.hid (fun j hj => ppN_len (by omega))
  obtain ⟨n, hn⟩ : ∃ n, n = l.length := ⟨_, rfl⟩
  rw [← hn] at h h1 hlt0 hK2 hl ⊢
  have HN := Lib.hid (fun w => pneed_any (n : Int) (by omega) w)
  have hb := need_bd (n := n) (by omega)
  rw [← hn] at hA
  have HA := Lib.hid hA
  generalize needR (n : Int) = q at *
  obtain ⟨a, ha⟩ : ∃ a, a = 116 * p := ⟨_, rfl⟩
  have e0 : (p : Int) * 116 = (a : Int) := by omega
  rw [← ha] at HP ES hK2 hlt0 HPI
  have hKa : K ≤ 116 := by omega
  have hKb : a + K ≤ n := by omega
  have hKc : Hid (K = 116 ∨ a + K = n) := Lib.hid (by omega)
  have d : decide ((p : Int) < 0) = false := by simp
  have d2 : decide (q ≤ (p : Int)) = false := by simp; omega
  have hmin : (if (n : Int) < (a : Int) + 116 then (n : Int) else (a : Int) + 116) = ((a + K : Nat) : Int) := by have := hKc.out; split <;> omega
  have k1 : (a : Int) ≤ ((a + K : Nat) : Int) := by omega
  have k2 : ((a + K : Nat) : Int) ≤ (cap : Int) := by omega
  have k3 : (0 : Int) ≤ (a : Int) := by omega
  have k4 : (((a + K : Nat) : Int) - (a : Int)).toNat = K := by omega
  have L0 : Hid (Bl13 w.heap.size (ppN l p 0) (w.alloc (.cells #[.pointer none, .slice none 0 0] 58)) ∧ Below w.heap.size w (w.alloc (.cells #[.pointer none, .slice none 0 0] 58))) := Lib.hid ⟨Bl13.new w, balloc w _⟩
  have HMIN := Lib.hid hmin
  clear hA h3 hn ha hK h hK2 hmin
  go_enter Try.func12, Try.ntmps12
  go_wp2_with fail
  refine (HN.out _).mono ?_
  rintro e w1 ⟨rfl, hw⟩
  subst w1
  clear HN
  have em : min ((a : Int) + 116) (n : Int) = ((a + K : Nat) : Int) := by have := hKc.out; omega
  have ek : a + K - a = K := by omega
  go_upto_region 6 with fail
  rw [ek]
  clear em ek k1 k2 k3 k4 HMIN
  generalize hb0 : w.heap.size = b0 at *
  generalize w.alloc (.cells #[.pointer none, .slice none 0 0] 58) = w2 at *
  have HB0 := Lib.hid hb0
  clear hb0
  go_wp2_with fail
  go_loopw [32] (fun i wr => ∃ j : Nat, j ≤ K ∧ i = .int .i64 j ∧ Hid (∀ x, x < j → l.getD (a + x) 0 ≤ 1023) ∧ Hid (Bl13 b0 (ppN l p j) wr ∧ Below b0 w wr)) (fun i _ => K - (intOf i).toNat)
  case atStart => exact ⟨0, Nat.zero_le _, by go_num, Lib.hid (fun x hx => absurd hx (Nat.not_lt_zero x)), L0⟩
  case round =>
    clear L0
    obtain ⟨j, hj, rfl, HG, HO⟩ := hrel
    by_cases hlt : j < K
    · have c1 : decide ((j : Int) < (K : Int)) = true := by simp; omega
      have c4 : (j : Int) < (K : Int) := by omega
      have c5 : (0 : Int) ≤ (j : Int) := by omega
      have hx0 : wr.cell? ⟨B, o + a + j, none⟩ = some (.int .i64 (l.getD (a + j) 0)) := by
        have := ((HA.out.below (HB0.out ▸ HO.out.2)).one (a + j) (by omega))
        rw [← Nat.add_assoc] at this
        exact this
      obtain ⟨z, hz⟩ : ∃ z, z = l.getD (a + j) 0 := ⟨_, rfl⟩
      have HZ := Lib.hid hz
      rw [← hz] at hx0
      clear hz
      by_cases hbig : 1023 < z
      · have d5 : decide (1023 < z) = true := by simp [hbig]
        have X : ∃ x ∈ partT l p, 1023 < x := by
          have := HP.out j hlt
          obtain ⟨hj2, he⟩ := List.getElem?_eq_some_iff.1 this
          exact ⟨_, List.getElem_mem hj2, by rw [he, ← HZ.out]; exact hbig⟩
        have E2 : Hid (partE l (p : Int) = 2) := Lib.hid (by rw [E.out, if_pos X])
        have E3 : Hid (partO l (p : Int) = ⟨#[]⟩) := Lib.hid (by rw [EO.out, if_pos X])
        have W1 := Lib.hid HO.out.2
        clear X hbig
        go_wp2_with fail
        go_ret2
        exact ⟨by rw [E2.out, E3.out]; rfl, by rw [HB0.out]; exact W1.out⟩
      · have d5 : decide (1023 < z) = false := by simp; omega
        have HJ := Lib.hid hlt
        have HG2 : Hid (∀ x, x < j + 1 → l.getD (a + x) 0 ≤ 1023) := Lib.hid (fun x hx => by
          rcases Nat.lt_succ_iff_lt_or_eq.1 hx with h | rfl
          · exact HG.out x h
          · rw [← HZ.out]; omega)
        have hc : clampP z = max z (-1) := clampP_max z
        have HS : Hid (∀ w, Calls Try.prog 29 #[.int .i64 (max z (-1) + 1)] w fun e w' => e = .returned (.string (strOfNums (beI 2 (clampP z + 1)))) ∧ Below w.heap.size w w') := Lib.hid (fun w => by
          rw [hc]
          exact pshort_any _ (by omega) (by omega) w)
        have ESJ : Hid (ppN l p (j + 1) = ppN l p j ++ beI 2 (clampP z + 1)) := Lib.hid (by rw [ES.out j hlt, ← HZ.out])
        have hm1 : wrap64 (max z (-1) + 1) = max z (-1) + 1 := by unfold wrap64; omega
        have hsz : Hid (b0 ≤ wr.heap.size) := Lib.hid (by rw [← HB0.out]; exact HO.out.2.size)
        have hlen : Hid ((ppN l p j).length + (beI 2 (clampP z + 1)).length ≤ 100000) := Lib.hid (by rw [EN.out j hj, beI_len]; omega)
        clear hc hbig hlt
        go_wp2_with fail
        refine (HS.out _).mono ?_
        rintro e w3 ⟨rfl, hb⟩
        have HW := Lib.hid ((HO.out.1.below hb).write (by have := hb.size; have := hsz.out; omega) (beI 2 (clampP z + 1)) hlen.out)
        have B3 := Lib.hid (HO.out.2.trans (hb.mono hsz.out))
        clear hb HS HO
        generalize clampP z = cz at *
        go_wp2_with fail
        refine (HW.out).mono ?_
        rintro e w4 ⟨⟨ve, rfl⟩, h4, hb4⟩
        have O4 : Hid (Bl13 b0 (ppN l p (j + 1)) w4 ∧ Below b0 w w4) := Lib.hid ⟨ESJ.out ▸ h4, B3.out.trans hb4⟩
        clear h4 hb4 HW B3
        go_wp2_with fail
        go_roundw
        case rel => have := HJ.out; exact ⟨j + 1, by omega, by go_num, HG2, O4⟩
        case measure => have := HJ.out; simp [intOf]; omega
    · obtain rfl : j = K := by omega
      have c1 : decide ((j : Int) < (j : Int)) = false := by simp
      have X : ¬ ∃ x ∈ partT l p, 1023 < x := fun ⟨x, hx, hgt⟩ => by
        obtain ⟨i, hi, rfl⟩ := HPI.out x hx
        have := HG.out i hi
        omega
      have E2 : Hid (partE l (p : Int) = 0) := Lib.hid (by rw [E.out, if_neg X])
      have E3 : Hid (partO l (p : Int) = strOfNums (ppN l p j)) := Lib.hid (by rw [EO.out, if_neg X, EA.out])
      have HX := Lib.hid (HO.out.1.text (by rw [← HB0.out]; exact HO.out.2.size))
      clear X
      go_wp2_with fail
      refine (HX.out).mono ?_
      rintro e w3 ⟨rfl, hb⟩
      have B3 := Lib.hid (HO.out.2.trans hb)
      clear hb HX
      go_wp2_with fail
      go_ret2
      exact ⟨by rw [E2.out, E3.out]; rfl, by rw [HB0.out]; exact B3.out⟩
theorem pputpart_any (l : List Int) (v : Value) (p : Int) (u : World) (hv : LstI l v u) (hl : l.length ≤ 700) (hp : big64 p) : Calls Try.prog 12 #[v, .int .i64 p] u fun r u' => r = .returned (.tuple #[.string (partO l p), .int .i64 (partE l p)]) ∧ Below u.heap.size u u' := by
  by_cases h : p < 0 ∨ needR (l.length : Int) ≤ p
  · have E : partE l p = 3 := by unfold partE; rw [if_pos h]
    have EO : partO l p = ⟨#[]⟩ := by unfold partO; rw [E]; rfl
    refine (pputpart_bad l v p u hv hp h).mono ?_
    rintro r u' ⟨rfl, rfl⟩
    exact ⟨by rw [E, EO], Below.refl _ _⟩
  · obtain ⟨k, rfl⟩ : ∃ k : Nat, p = (k : Int) := ⟨p.toNat, by omega⟩
    exact pputpart_go l v k u hv (by omega) (by omega)

end Go.Proofs.Ytaaagmcdbmppmaa
