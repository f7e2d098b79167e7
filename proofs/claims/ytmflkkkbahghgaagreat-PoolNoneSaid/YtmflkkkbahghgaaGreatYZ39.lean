/- The program's PutPart. The program's partWriter: the function that writes the parts of a table. -/
import Derived.Test.YtmflkkkbahghgaaGreatYZ38
import Derived.Test.YtmflkkkbahghgaaGreatYZ7
import Derived.Test.YtmflkkkbahghgaaGreatYZ16
import Derived.Test.YtmflkkkbahghgaaGreatYZ17
namespace Go.Proofs.YtmflkkkbahghgaaGreat
open Go.RowKit Go.Deep
set_option linter.unusedVariables false
set_option linter.unusedSimpArgs false
set_option maxRecDepth 100000

theorem pputpart_bad (l : List Int) (v : Value) (p : Int) (w : World) (hv : LstI l v w) (hp : -9223372036854775808 ≤ p ∧ p ≤ 9223372036854775807) (h : p < 0 ∨ needR (l.length : Int) ≤ p) :
    Calls Tryz.prog 169 #[v, .int .i64 p] w fun r w' => r = .returned (.tuple #[.string ⟨#[]⟩, .int .i64 3]) ∧ w' = w := by
  obtain ⟨ao, cap, rfl, h1, h2, _⟩ := hv
  generalize hn : l.length = n at *
  have HN := Lib.hid (fun w => pneed_any (n : Int) (by omega) w)
  have hb := need_bd (n := n) (by omega)
  generalize needR (n : Int) = q at *
  clear hn
  by_cases h0 : p < 0
  · have d : decide (p < 0) = true := by simp [h0]
    go_enter Tryz.func169, Tryz.ntmps169
    go_wp2_with fail
    go_ret2
    exact ⟨rfl, rfl⟩
  · have d : decide (p < 0) = false := by simp; omega
    have d2 : decide (q ≤ p) = true := by simp; omega
    go_enter Tryz.func169, Tryz.ntmps169
    go_wp2_with fail
    refine (HN.out _).mono ?_
    rintro e w1 ⟨rfl, rfl⟩
    go_wp2_with fail
    go_ret2
    exact ⟨rfl, rfl⟩
set_option maxHeartbeats 3200000 in
theorem pputpart_go (l : List Int) (v : Value) (p : Nat) (w : World) (hv : LstI l v w) (hl : l.length ≤ 1048576) (h : (p : Int) < needR (l.length : Int)) :
    Calls Tryz.prog 169 #[v, .int .i64 (p : Int)] w fun r w' => r = .returned (.tuple #[.string (partO l p), .int .i64 (partE l p)]) ∧ Below w.heap.size w w' := by
  obtain ⟨ao, cap, rfl, h1, h2, h3⟩ := hv
  have hlt0 := need_all.2 p h
  obtain ⟨B, o, rfl, hA⟩ := h3 (by omega)
  obtain ⟨K, hK⟩ : ∃ K, K = (partT l p).length := ⟨_, rfl⟩
  have hK2 : K = min 116 (l.length - 116 * p) := by rw [hK]; exact partT_len l p
  have HP : Hid (∀ j, j < K → (partT l p)[j]? = some (l.getD (116 * p + j) 0)) := Lib.hid (fun j hj => by
    have hj2 : j < (partT l p).length := by omega
    rw [List.getElem?_eq_getElem hj2, partT_at l p j hj2, List.getD_eq_getElem?_getD, List.getElem?_eq_getElem (by omega)]
    rfl)
  have HPI : Hid (∀ x ∈ partT l p, ∃ j, j < K ∧ x = l.getD (116 * p + j) 0) := Lib.hid (fun x hx => by
    obtain ⟨j, hj, rfl⟩ := List.getElem_of_mem hx
    refine ⟨j, by omega, ?_⟩
    rw [partT_at l p j hj, List.getD_eq_getElem?_getD, List.getElem?_eq_getElem (by omega)]
    rfl)
  have E : Hid (partE l (p : Int) = if ∃ x ∈ partT l p, 1023 < x then 2 else 0) := Lib.hid (by
    unfold partE
    rw [if_neg (by omega), Int.toNat_natCast])
  have EO : Hid (partO l (p : Int) = if ∃ x ∈ partT l p, 1023 < x then ⟨#[]⟩ else partS l p) := Lib.hid (by
    unfold partO
    rw [E.out, Int.toNat_natCast]
    split <;> simp)
  have EA : Hid (strOfNums (ppN l p K) = partS l p) := Lib.hid (by rw [hK]; exact ppN_all l p)
  have ES : Hid (∀ j, j < K → ppN l p (j + 1) = ppN l p j ++ beI 2 (clampP (l.getD (116 * p + j) 0) + 1)) := Lib.hid (fun j hj => ppN_succ (by omega))
  have EN : Hid (∀ j, j ≤ K → (ppN l p j).length = 2 * j) := Lib.hid (fun j hj => ppN_len (by omega))
  obtain ⟨n, hn⟩ : ∃ n, n = l.length := ⟨_, rfl⟩
  rw [← hn] at h h1 hlt0 hK2 hl ⊢
  have HN := Lib.hid (fun w => pneed_any (n : Int) (by omega) w)
  have hb := need_bd (n := n) (by omega)
  rw [← hn] at hA
  have HA := Lib.hid hA
  generalize needR (n : Int) = q at *
  obtain ⟨a, ha⟩ : ∃ a, a = 116 * p := ⟨_, rfl⟩
  have e0 : (p : Int) * 116 = (a : Int) := by omega
  rw [← ha] at HP ES hK2 hlt0 HPI
  have hKa : K ≤ 116 := by omega
  have hKb : a + K ≤ n := by omega
  have hKc : Hid (K = 116 ∨ a + K = n) := Lib.hid (by omega)
  have d : decide ((p : Int) < 0) = false := by simp
  have d2 : decide (q ≤ (p : Int)) = false := by simp; omega
  have hmin : (if (n : Int) < (a : Int) + 116 then (n : Int) else (a : Int) + 116) = ((a + K : Nat) : Int) := by have := hKc.out; split <;> omega
  have k1 : (a : Int) ≤ ((a + K : Nat) : Int) := by omega
  have k2 : ((a + K : Nat) : Int) ≤ (cap : Int) := by omega
  have k3 : (0 : Int) ≤ (a : Int) := by omega
  have k4 : (((a + K : Nat) : Int) - (a : Int)).toNat = K := by omega
  have L0 : Hid (Bl13 w.heap.size (ppN l p 0) (w.alloc (.cells #[.pointer none, .slice none 0 0] 161)) ∧ Below w.heap.size w (w.alloc (.cells #[.pointer none, .slice none 0 0] 161))) := Lib.hid ⟨Bl13.new w, balloc w _⟩
  have HMIN := Lib.hid hmin
  clear hA h3 hn ha hK h hK2 hmin
  go_enter Tryz.func169, Tryz.ntmps169
  go_wp2_with fail
  refine (HN.out _).mono ?_
  rintro e w1 ⟨rfl, hw⟩
  subst w1
  clear HN
  have em : min ((a : Int) + 116) (n : Int) = ((a + K : Nat) : Int) := by have := hKc.out; omega
  have ek : a + K - a = K := by omega
  go_upto_region 6 with fail
  rw [ek]
  clear em ek k1 k2 k3 k4 HMIN
  generalize hb0 : w.heap.size = b0 at *
  generalize w.alloc (.cells #[.pointer none, .slice none 0 0] 161) = w2 at *
  have HB0 := Lib.hid hb0
  clear hb0
  go_wp2_with fail
  go_loopw [32] (fun i wr => ∃ j : Nat, j ≤ K ∧ i = .int .i64 j ∧ Hid (∀ x, x < j → l.getD (a + x) 0 ≤ 1023) ∧ Hid (Bl13 b0 (ppN l p j) wr ∧ Below b0 w wr)) (fun i _ => K - (intOf i).toNat)
  case atStart => exact ⟨0, Nat.zero_le _, by go_num, Lib.hid (fun x hx => absurd hx (Nat.not_lt_zero x)), L0⟩
  case round =>
    clear L0
    obtain ⟨j, hj, rfl, HG, HO⟩ := hrel
    by_cases hlt : j < K
    · have c1 : decide ((j : Int) < (K : Int)) = true := by simp; omega
      have c4 : (j : Int) < (K : Int) := by omega
      have c5 : (0 : Int) ≤ (j : Int) := by omega
      have hx0 : wr.cell? ⟨B, o + a + j, none⟩ = some (.int .i64 (l.getD (a + j) 0)) := by
        have := ((HA.out.below (HB0.out ▸ HO.out.2)).one (a + j) (by omega))
        rw [← Nat.add_assoc] at this
        exact this
      obtain ⟨z, hz⟩ : ∃ z, z = l.getD (a + j) 0 := ⟨_, rfl⟩
      have HZ := Lib.hid hz
      rw [← hz] at hx0
      clear hz
      by_cases hbig : 1023 < z
      · have d5 : decide (1023 < z) = true := by simp [hbig]
        have X : ∃ x ∈ partT l p, 1023 < x := by
          have := HP.out j hlt
          obtain ⟨hj2, he⟩ := List.getElem?_eq_some_iff.1 this
          exact ⟨_, List.getElem_mem hj2, by rw [he, ← HZ.out]; exact hbig⟩
        have E2 : Hid (partE l (p : Int) = 2) := Lib.hid (by rw [E.out, if_pos X])
        have E3 : Hid (partO l (p : Int) = ⟨#[]⟩) := Lib.hid (by rw [EO.out, if_pos X])
        have W1 := Lib.hid HO.out.2
        clear X hbig
        go_wp2_with fail
        go_ret2
        exact ⟨by rw [E2.out, E3.out]; rfl, by rw [HB0.out]; exact W1.out⟩
      · have d5 : decide (1023 < z) = false := by simp; omega
        have HJ := Lib.hid hlt
        have HG2 : Hid (∀ x, x < j + 1 → l.getD (a + x) 0 ≤ 1023) := Lib.hid (fun x hx => by
          rcases Nat.lt_succ_iff_lt_or_eq.1 hx with h | rfl
          · exact HG.out x h
          · rw [← HZ.out]; omega)
        have hc : clampP z = max z (-1) := clampP_max z
        have HS : Hid (∀ w, Calls Tryz.prog 150 #[.int .i64 (max z (-1) + 1)] w fun e w' => e = .returned (.string (strOfNums (beI 2 (clampP z + 1)))) ∧ Below w.heap.size w w') := Lib.hid (fun w => by
          rw [hc]
          exact pshort_any _ (by omega) (by omega) w)
        have ESJ : Hid (ppN l p (j + 1) = ppN l p j ++ beI 2 (clampP z + 1)) := Lib.hid (by rw [ES.out j hlt, ← HZ.out])
        have hm1 : wrap64 (max z (-1) + 1) = max z (-1) + 1 := by unfold wrap64; omega
        have hsz : Hid (b0 ≤ wr.heap.size) := Lib.hid (by rw [← HB0.out]; exact HO.out.2.size)
        have hlen : Hid ((ppN l p j).length + (beI 2 (clampP z + 1)).length ≤ 100000) := Lib.hid (by rw [EN.out j hj, beI_len]; omega)
        clear hc hbig hlt
        go_wp2_with fail
        refine (HS.out _).mono ?_
        rintro e w3 ⟨rfl, hb⟩
        have HW := Lib.hid ((HO.out.1.below hb).write (by have := hb.size; have := hsz.out; omega) (beI 2 (clampP z + 1)) hlen.out)
        have B3 := Lib.hid (HO.out.2.trans (hb.mono hsz.out))
        clear hb HS HO
        generalize clampP z = cz at *
        go_wp2_with fail
        refine (HW.out).mono ?_
        rintro e w4 ⟨⟨ve, rfl⟩, h4, hb4⟩
        have O4 : Hid (Bl13 b0 (ppN l p (j + 1)) w4 ∧ Below b0 w w4) := Lib.hid ⟨ESJ.out ▸ h4, B3.out.trans hb4⟩
        clear h4 hb4 HW B3
        go_wp2_with fail
        go_roundw
        case rel => have := HJ.out; exact ⟨j + 1, by omega, by go_num, HG2, O4⟩
        case measure => have := HJ.out; simp [intOf]; omega
    · obtain rfl : j = K := by omega
      have c1 : decide ((j : Int) < (j : Int)) = false := by simp
      have X : ¬ ∃ x ∈ partT l p, 1023 < x := fun ⟨x, hx, hgt⟩ => by
        obtain ⟨i, hi, rfl⟩ := HPI.out x hx
        have := HG.out i hi
        omega
      have E2 : Hid (partE l (p : Int) = 0) := Lib.hid (by rw [E.out, if_neg X])
      have E3 : Hid (partO l (p : Int) = strOfNums (ppN l p j)) := Lib.hid (by rw [EO.out, if_neg X, EA.out])
      have HX := Lib.hid (HO.out.1.text (by rw [← HB0.out]; exact HO.out.2.size))
      clear X
      go_wp2_with fail
      refine (HX.out).mono ?_
      rintro e w3 ⟨rfl, hb⟩
      have B3 := Lib.hid (HO.out.2.trans hb)
      clear hb HX
      go_wp2_with fail
      go_ret2
      exact ⟨by rw [E2.out, E3.out]; rfl, by rw [HB0.out]; exact B3.out⟩
theorem pputpart_any (l : List Int) (v : Value) (p : Int) (u : World) (hv : LstI l v u) (hl : l.length ≤ 700) (hp : big64 p) : Calls Tryz.prog 169 #[v, .int .i64 p] u fun r u' => r = .returned (.tuple #[.string (partO l p), .int .i64 (partE l p)]) ∧ Below u.heap.size u u' := by
  by_cases h : p < 0 ∨ needR (l.length : Int) ≤ p
  · have E : partE l p = 3 := by unfold partE; rw [if_pos h]
    have EO : partO l p = ⟨#[]⟩ := by unfold partO; rw [E]; rfl
    refine (pputpart_bad l v p u hv hp h).mono ?_
    rintro r u' ⟨rfl, rfl⟩
    exact ⟨by rw [E, EO], Below.refl _ _⟩
  · obtain ⟨k, rfl⟩ : ∃ k : Nat, p = (k : Int) := ⟨p.toNat, by omega⟩
    exact pputpart_go l v k u hv (by omega) (by omega)

end Go.Proofs.YtmflkkkbahghgaaGreat
namespace Go.Proofs.YtmflkkkbahghgaaGreat
open Go.RowKit Go.Deep
set_option linter.unusedVariables false
set_option linter.unusedSimpArgs false
set_option maxRecDepth 100000

/-- what the writer of parts has: the table's first pages, the store, the root -/
structure PwAt (P : Nat) (lg : Nat) (ep : Int) (v : Value) (b5 b2 b3 : Nat) (w : World) : Prop where
  t : w.heap[b5]? = some (.cells #[.slice (some ⟨P, 1, none⟩) lg 512] 38 (0, 0))
  s : w.heap[b2]? = some (.cells #[.pointer (some ⟨P, 0, none⟩)] 63 (0, 0))
  r : w.heap[b3]? = some (.cells #[.int .i64 ep, .int .i64 (lg : Int), v] 98 (0, 0))
def pwV (b5 b2 b3 : Nat) : Value := .func (.func 168) #[] #[.pointer (some ⟨b5, 0, none⟩), .pointer (some ⟨b2, 0, none⟩), .pointer (some ⟨b3, 0, none⟩)]
section
variable {base D P a : Nat} {x : Stt} {M bS bm cS : Nat} {d : Dk} {n : Nat} {K K2 : Nat → Nat} {tb tb0 : Nat → Int} {ot parts : List Int} {slot : Nat} {vp : Value} {SK : Nat → Bool} {u u2 : World}
set_option maxHeartbeats 1600000 in
theorem spwmake_any (P lg : Nat) (ep : Int) (v : Value) (u : World) (hlg : lg ≤ 512) : Calls Tryz.prog 137 #[.pointer (some ⟨P, 0, none⟩), rtV ep (lg : Int) v] u fun r u' => ∃ b5 b2 b3, r = .returned (pwV b5 b2 b3) ∧ u.heap.size ≤ b5 ∧ u.heap.size ≤ b2 ∧ u.heap.size ≤ b3 ∧ PwAt P lg ep v b5 b2 b3 u' ∧ Below u.heap.size u u' := by
  have hmf : ∀ (fn : Fn) (first cap : Array Value) (w : World), (Instr.makeFunc fn first cap).run Tryz.prog w = .ok (.func fn first cap) w := fun _ _ _ _ => rfl
  have g0 : (0 : Int) ≤ (lg : Int) := by omega
  have g1 : (lg : Int) ≤ 512 := by omega
  have X2 := heap_alloc_new u (.cells #[.pointer (some ⟨P, 0, none⟩)] 63)
  have B2 := balloc u (.cells #[.pointer (some ⟨P, 0, none⟩)] 63)
  have X3 := heap_alloc_new (u.alloc (.cells #[.pointer (some ⟨P, 0, none⟩)] 63)) (.cells #[.int .i64 ep, .int .i64 (lg : Int), v] 98)
  have B3 := balloc (u.alloc (.cells #[.pointer (some ⟨P, 0, none⟩)] 63)) (.cells #[.int .i64 ep, .int .i64 (lg : Int), v] 98)
  have BB := Lib.hid (bthen B2 B3)
  have Y2 := Lib.hid (heap_stays X2 B3)
  rw [World.size_alloc] at X3
  obtain ⟨b2, hb2⟩ : ∃ b2, b2 = u.heap.size := ⟨_, rfl⟩
  obtain ⟨b3, hb3⟩ : ∃ b3, b3 = u.heap.size + 1 := ⟨_, rfl⟩
  have HB2 : Hid (u.heap.size ≤ b2) := Lib.hid (by omega)
  have HB3 : Hid (u.heap.size ≤ b3) := Lib.hid (by omega)
  have Y3 := Lib.hid X3
  rw [← hb2] at Y2
  rw [← hb3] at Y3
  clear X2 X3 B2 B3
  unfold rtV
  go_enter Tryz.func137, Tryz.ntmps137
  go_upto_region 1 with fail
  rw [← hb3, ← hb2]
  generalize (u.alloc (.cells #[.pointer (some ⟨P, 0, none⟩)] 63)).alloc (.cells #[.int .i64 ep, .int .i64 (lg : Int), v] 98) = w1 at *
  clear hb2 hb3
  have r1 : w1.cell? ⟨b3, 1, none⟩ = some (.int .i64 (lg : Int)) := (three_of Y3.out).2.1
  have s0 : w1.cell? ⟨b2, 0, none⟩ = some (.pointer (some ⟨P, 0, none⟩)) := by rw [Lib.cell_of_heap Y2.out]; rfl
  refine wp_region_held_drew (S := (fun w' => w'.cell? ⟨b2, 0, none⟩ = some (.pointer (some ⟨P, 0, none⟩)) ∧ w'.cell? ⟨b3, 1, none⟩ = some (.int .i64 (lg : Int)))) (by kernel_rfl) ⟨s0, r1⟩ (fun hHeld => ?_)
  change wpAnyH _ _ _ _ _ _ _ _ (World.drew w1)
  have D2 := Lib.hid (heap_stays Y2.out (bdrew w1))
  have D3 := Lib.hid (heap_stays Y3.out (bdrew w1))
  have BD := Lib.hid (bthen BB.out (bdrew w1))
  clear r1 s0
  generalize World.drew w1 = wd at *
  first | refine tq0 0 rfl ?_ | refine tq1 0 rfl ?_
  try go_frame
  first | refine tq0 1 rfl ?_ | refine tq1 1 rfl ?_
  try go_frame
  first | refine tq0 2 rfl ?_ | refine tq1 2 rfl ?_
  try go_frame
  first | refine tq0 3 rfl ?_ | refine tq1 3 rfl ?_
  try go_frame
  first | refine tq0 4 rfl ?_ | refine tq1 4 rfl ?_
  try go_frame
  first | refine tq0 5 rfl ?_ | refine tq1 5 rfl ?_
  try go_frame
  have Z4 := Lib.hid (heap_alloc_new wd (.cells #[.slice none 0 0] 38))
  have B4 := Lib.hid (balloc wd (.cells #[.slice none 0 0] 38))
  have E2 := Lib.hid (heap_stays D2.out B4.out)
  have E3 := Lib.hid (heap_stays D3.out B4.out)
  have BE := Lib.hid (bthen BD.out B4.out)
  have SZ := Lib.hid BD.out.size
  refine wpAnyH_ready (rs := [6]) (by kernel_rfl) (by simp) ?_
  refine AllReadyH.cons (o := ⟨_, _, _, _, _, _⟩) rfl (fun Kx hKx => ?_) AllReadyH.nil
  go_simp
  refine hKx.out _ _ ⟨by rw [Lib.cell_of_heap E2.out]; rfl, (three_of E3.out).2.1⟩ (fun hHeld => ?_)
  clear hKx Kx
  try simp only [Act.put, List.setIfInBounds_toArray, List.set_cons_zero, List.set_cons_succ]
  obtain ⟨b5, hb5⟩ : ∃ b5, b5 = wd.heap.size := ⟨_, rfl⟩
  rw [← hb5] at Z4 ⊢
  have HB5 : Hid (u.heap.size ≤ b5) := Lib.hid (by have := SZ.out; omega)
  have N2 : Hid (b2 ≠ b5) := Lib.hid (by have := lt_of_block D2.out; omega)
  have N3 : Hid (b3 ≠ b5) := Lib.hid (by have := lt_of_block D3.out; omega)
  generalize wd.alloc (.cells #[.slice none 0 0] 38) = we at *
  clear hb5
  have z0 : we.cell? ⟨b5, 0, none⟩ = some (.slice none 0 0) := by rw [Lib.cell_of_heap Z4.out]; rfl
  have zf : we.frozen? ⟨b5, 0, none⟩ = false := Lib.frozen_of_heap Z4.out 0
  have F5 := Lib.hid (Joins.block_setCell (i := 0) Z4.out (.slice (some ⟨P, 1, none⟩) lg 512))
  have F2 := Lib.hid ((set_else (P := b5) (o := 0) (w := we) (.slice (some ⟨P, 1, none⟩) lg 512) N2.out).trans E2.out)
  have F3 := Lib.hid ((set_else (P := b5) (o := 0) (w := we) (.slice (some ⟨P, 1, none⟩) lg 512) N3.out).trans E3.out)
  have BF := Lib.hid (BE.out.trans ((Below.refl _ _).setCell (p := ⟨b5, 0, none⟩) HB5.out (.slice (some ⟨P, 1, none⟩) lg 512)))
  refine wpAnyH_ready (rs := [7]) (by kernel_rfl) (by simp) ?_
  refine AllReadyH.cons (o := ⟨_, _, _, _, _, _⟩) rfl (fun Kx hKx => ?_) AllReadyH.nil
  go_simp
  refine hKx.out _ _ ⟨by rw [Lib.cell_of_heap F2.out]; rfl, (three_of F3.out).2.1⟩ (fun hHeld => ?_)
  clear hKx Kx z0 zf
  try simp only [Act.put, List.setIfInBounds_toArray, List.set_cons_zero, List.set_cons_succ]
  generalize we.setCell ⟨b5, 0, none⟩ (.slice (some ⟨P, 1, none⟩) lg 512) = wf at *
  refine wpAnyH_done (by kernel_rfl) ?_ _
  clear hHeld
  go_wp2_with fail
  go_ret
  exact ⟨b5, b2, b3, rfl, HB5.out, HB2.out, HB3.out, ⟨F5.out, F2.out, F3.out⟩, BF.out⟩
/-- what writing part i leaves -/
def PwO (base D P : Nat) (x : Stt) (M bS bm cS : Nat) (d : Dk) (n : Nat) (K : Nat → Nat) (tb : Nat → Int) (ot parts : List Int) (slot : Nat) (vp : Value) (SK : Nat → Bool) (p : Pg) (nxt : List Slt) (r : Ending) (u u' : World) : Prop :=
  KpS (P3 D bS bm) u u' ∧
      ((r = .returned (.tuple #[]) ∧ (writeP d p).2 = 0 ∧ StoM base D P M bS bm cS (writeP d p).1 n K x.ep slot tb ot parts vp SK u') ∨
       (r = .panicked (gaveV 13) ∧ d.arm ≠ 0 ∧ StoM base D P M bS bm cS (writeP d p).1 n K x.ep slot tb ot parts vp SK u' ∧ FallP (writeP d p).1 x nxt ∧ (writeP d p).1.calls ≤ d.calls + 4 ∧ (writeP d p).1.n ≤ 4096))
theorem part_size (l : List Int) (i : Nat) : (partS l i).size ≤ 232 := by rw [partS_size, partT_len]; omega
theorem partE_in {l : List Int} {i : Nat} (h : (i : Int) < needR (l.length : Int)) (hx : ∀ y ∈ l, y ≤ 1023) : partE l (i : Int) = 0 := by
  unfold partE
  rw [if_neg (by omega), if_neg]
  rintro ⟨y, hy, hgt⟩
  rw [Int.toNat_natCast] at hy
  have := hx y (List.mem_of_mem_drop (List.mem_of_mem_take hy))
  omega
set_option maxHeartbeats 3200000 in
theorem spw_any {tl ps : List Int} {v : Value} {b5 b2 b3 : Nat} (m : StoM base D P M bS bm cS d n K2 x.ep slot tb ot parts vp SK u) (h : HoldP d x n K tb0 ot parts slot) (hn : d.n ≤ 4096) (hc : d.calls < 950000) (ha : d.arm ≤ 9223372036854775807) (hx : OkX x)
    (hw : PwAt P tl.length (x.ep + 1) v b5 b2 b3 u) (hps : LstI ps v u) (h512 : tl.length ≤ 512) (htl : ∀ l, l < tl.length → tl.getD l 0 = tb l) (hbd : ∀ y ∈ tl, y ≤ 1023) (hpl : (ps.length : Int) = needR (tl.length : Int)) (hpin : ∀ p ∈ ps, 0 ≤ p ∧ p < (n : Int) ∧ K p.toNat = 0) (hb2 : P3 D bS bm b2 = false) (hb3 : P3 D bS bm b3 = false) (hv : ∀ g, v.ownBlock = some g → P3 D bS bm g = false) {i : Nat} (hi : i < ps.length) (nxt : List Slt) :
    Calls Tryz.prog 168 #[.int .i64 (i : Int), .pointer (some ⟨b5, 0, none⟩), .pointer (some ⟨b2, 0, none⟩), .pointer (some ⟨b3, 0, none⟩)] u fun r u' => PwO base D P x M bS bm cS d n K2 tb ot parts slot vp SK ⟨ps.getD i 0, x.ep + 1, 1, partS tl i⟩ nxt r u u' := by
  have hLT : LstI tl (.slice (some ⟨P, 1, none⟩) tl.length 512) u := ⟨some ⟨P, 1, none⟩, 512, rfl, h512, by omega, fun _ => ⟨P, 1, rfl, m.plt, fun l hl j hj => by
    obtain rfl : j = 0 := by omega
    rw [Nat.mul_one, Nat.add_zero, m.now.cell (by omega)]
    show _ = some (Value.int .i64 (tl.getD l 0))
    rw [htl l hl]⟩⟩
  have HPP := Lib.hid (pputpart_any tl _ (i : Int) u hLT (by omega) ⟨by omega, by have := need_le (n := (tl.length : Int)) (by omega); omega⟩)
  have e0 := partE_in (l := tl) (i := i) (by omega) hbd
  have eO : partO tl (i : Int) = partS tl i := by unfold partO; rw [if_pos e0, Int.toNat_natCast]
  rw [e0, eO] at HPP
  have hpm := hpin _ (List.getElem_mem hi)
  have hgd : ps.getD i 0 = ps[i] := by rw [List.getD_eq_getElem?_getD, List.getElem?_eq_getElem hi]; rfl
  rw [← hgd] at hpm
  obtain ⟨ao, cap, rfl, _, _, hsl⟩ := hps
  obtain ⟨b, o, rfl, hA⟩ := hsl (by omega)
  have hcell : u.cell? ⟨b, o + i, none⟩ = some (.int .i64 (ps.getD i 0)) := hA.one i hi
  have hvb : P3 D bS bm b = false := hv b rfl
  obtain ⟨id, hid⟩ : ∃ id, ps.getD i 0 = id := ⟨_, rfl⟩
  rw [hid] at hpm hcell ⊢
  have hxe := hx.ep
  have hE : putE ⟨id, x.ep + 1, 1, partS tl i⟩ = 0 := putE_zero.2 ⟨⟨hpm.1, by show 0 ≤ x.ep + 1; omega, by show x.ep + 1 ≤ _; omega, by show (0 : Int) ≤ 1; omega, by show (1 : Int) ≤ _; omega⟩, part_size tl i⟩
  have HLY := Lib.hid (fun w (q : StoM base D P M bS bm cS d n K2 x.ep slot tb ot parts vp SK w) => slay_any q h hn hc ha hx id 1 (partS tl i) hE hpm.2.1 (.inl hpm.2.2) nxt)
  have MM := Lib.hid m
  have HW := Lib.hid hw
  have HB2 := Lib.hid hb2
  have HB3 := Lib.hid hb3
  have HVB := Lib.hid hvb
  have HCELL := Lib.hid hcell
  have HBLT : Hid (b < u.heap.size) := Lib.hid hA.1
  have HM0 := Lib.hid (fun w => smust_ok w)
  have HMB := Lib.hid (fun w => smust_bad 13 (by decide) w)
  have i0 : (0 : Int) ≤ (i : Int) := by omega
  have i1 : (i : Int) < (ps.length : Int) := by omega
  have t0 : u.cell? ⟨b5, 0, none⟩ = some (.slice (some ⟨P, 1, none⟩) tl.length 512) := by rw [Lib.cell_of_heap hw.t]; rfl
  generalize partS tl i = pay at *
  clear m h hw hx hE hpm hA hsl hcell hLT htl hbd hpin hv hb2 hb3 hvb hid hgd hxe e0 eO hpl
  go_enter Tryz.func168, Tryz.ntmps168
  go_wp2_with fail
  refine (HPP.out).mono ?_
  rintro r w1 ⟨rfl, hb1⟩
  have B1 := Lib.hid hb1
  have M1 := Lib.hid (MM.out.below hb1)
  have R2 := Lib.hid (heap_stays HW.out.s hb1)
  have R3 := Lib.hid (heap_stays HW.out.r hb1)
  have C1 := Lib.hid ((hb1.cell (p := ⟨b, o + i, none⟩) HBLT.out).trans HCELL.out)
  clear hb1 t0 HPP
  go_wp2_with fail
  refine (HM0.out _).mono ?_
  rintro r w9 ⟨rfl, hw9⟩
  rw [hw9]
  clear hw9 w9
  have s0 : w1.cell? ⟨b2, 0, none⟩ = some (.pointer (some ⟨P, 0, none⟩)) := by rw [Lib.cell_of_heap R2.out]; rfl
  have s1 : w1.cell? ⟨b3, 2, none⟩ = some (.slice (some ⟨b, o, none⟩) ps.length cap) := (three_of R3.out).2.2
  have s2 := C1.out
  go_upto_region 2 with fail
  refine wp_region_held_drew (S := (fun w' => w'.cell? ⟨b2, 0, none⟩ = some (.pointer (some ⟨P, 0, none⟩)) ∧ w'.cell? ⟨b3, 2, none⟩ = some (.slice (some ⟨b, o, none⟩) ps.length cap) ∧ w'.cell? ⟨b, o + i, none⟩ = some (.int .i64 id))) (by kernel_rfl) ⟨s0, s1, s2⟩ (fun hHeld => ?_)
  change wpAnyH _ _ _ _ _ _ _ _ (World.drew w1)
  have MD := Lib.hid (M1.out.below (bdrew w1))
  have BD := Lib.hid (bthen B1.out (bdrew w1))
  have D2 := Lib.hid (heap_stays R2.out (bdrew w1))
  have D3 := Lib.hid (heap_stays R3.out (bdrew w1))
  have CD := Lib.hid (((bdrew w1).cell (p := ⟨b, o + i, none⟩) (Nat.lt_of_lt_of_le HBLT.out B1.out.size)).trans C1.out)
  have SBD := Lib.hid BD.out.size
  clear s0 s1 s2
  generalize World.drew w1 = wd at *
  first | refine tq0 0 rfl ?_ | refine tq1 0 rfl ?_
  try go_frame
  first | refine tq0 1 rfl ?_ | refine tq1 1 rfl ?_
  try go_frame
  first | refine tq0 2 rfl ?_ | refine tq1 2 rfl ?_
  try go_frame
  first | refine tq0 3 rfl ?_ | refine tq1 3 rfl ?_
  try go_frame
  first | refine tq0 4 rfl ?_ | refine tq1 4 rfl ?_
  try go_frame
  first | refine tq0 5 rfl ?_ | refine tq1 5 rfl ?_
  try go_frame
  first | refine tq0 6 rfl ?_ | refine tq1 6 rfl ?_
  try go_frame
  have HL := Lib.hid (HLY.out wd MD.out)
  refine wpAnyH_ready (rs := [7]) (by kernel_rfl) (by simp) ?_
  refine AllReadyH.cons (o := ⟨_, _, _, _, _, _⟩) rfl (fun Kx hKx => ?_) AllReadyH.nil
  go_simp
  go_at_call 144
  refine (HL.out).mono ?_
  rintro e9 w7 ⟨ee, rfl, kd, hcase⟩
  have KD := Lib.hid kd
  have hS : w7.cell? ⟨b2, 0, none⟩ = some (.pointer (some ⟨P, 0, none⟩)) ∧ w7.cell? ⟨b3, 2, none⟩ = some (.slice (some ⟨b, o, none⟩) ps.length cap) ∧ w7.cell? ⟨b, o + i, none⟩ = some (.int .i64 id) := by
    refine ⟨?_, ?_, ?_⟩
    · rw [Lib.cell_of_heap ((kd.blk (lt_of_block D2.out) HB2.out).trans D2.out)]; rfl
    · exact (three_of ((kd.blk (lt_of_block D3.out) HB3.out).trans D3.out)).2.2
    · rw [World.cell?_of_block (kd.blk (Nat.lt_of_lt_of_le HBLT.out SBD.out) HVB.out)]
      exact CD.out
  refine hKx.out _ _ hS (fun hHeld => ?_)
  clear hKx Kx kd
  try simp only [Act.put, List.setIfInBounds_toArray, List.set_cons_zero, List.set_cons_succ]
  refine wpAnyH_ready (rs := [8]) (by kernel_rfl) (by simp) ?_
  refine AllReadyH.cons (o := ⟨_, _, _, _, _, _⟩) rfl (fun Kx hKx => ?_) AllReadyH.nil
  rcases hcase with ⟨rfl, he, hm⟩ | ⟨rfl, he, ha9, hd, hf, hc4, hn4⟩
  · have HE := Lib.hid he
    have HM := Lib.hid hm
    clear he hm
    go_simp
    go_at_call 65
    refine (HM0.out _).mono ?_
    rintro r w9 ⟨rfl, hw9⟩
    rw [hw9]
    clear hw9 w9
    refine hKx.out _ _ hHeld (fun hHeld => ?_)
    clear hKx Kx
    try simp only [Act.put, List.setIfInBounds_toArray, List.set_cons_zero, List.set_cons_succ]
    refine wpAnyH_done (by kernel_rfl) ?_ _
    clear hHeld hS
    go_wp2_with fail
    go_end0
    exact ⟨(KpS.of BD.out).trans KD.out, .inl ⟨rfl, HE.out, HM.out⟩⟩
  · have HE := Lib.hid (And.intro ha9 (And.intro hd (And.intro hf (And.intro hc4 hn4))))
    clear he ha9 hd hf hc4 hn4
    go_simp
    go_at_call 65
    refine (HMB.out _).mono ?_
    rintro r w9 ⟨rfl, hw9⟩
    rw [hw9]
    clear hw9 w9
    exact ⟨rfl, (KpS.of BD.out).trans KD.out, .inr ⟨rfl, HE.out⟩⟩
end

end Go.Proofs.YtmflkkkbahghgaaGreat
