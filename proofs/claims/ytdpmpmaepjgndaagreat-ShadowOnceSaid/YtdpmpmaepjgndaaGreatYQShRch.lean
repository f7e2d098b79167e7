/- The program's store: Reach. -/
import Derived.Maps.AppendAt
import Derived.Test.YtdpmpmaepjgndaaGreatYZ31
import Derived.Test.YtdpmpmaepjgndaaGreatYQShSort
import Derived.Test.YtdpmpmaepjgndaaGreatYQCloneI
namespace Go.Proofs.YtdpmpmaepjgndaaGreat
open Go.RowKit Go.Deep
set_option linter.unusedVariables false
set_option linter.unusedSimpArgs false
set_option maxRecDepth 100000

/-- what Reach puts together -/
def allR (ot parts : List Int) (l : List Nat) : List Int := parts ++ l.map (atL ot)
section
variable {base D P M bS bm cS n : Nat} {d : Dk} {K : Nat → Nat} {ep : Int} {slot : Nat} {tb : Nat → Int} {ot parts : List Int} {vp : Value} {SK : Nat → Bool} {u u2 : World}
set_option maxHeartbeats 1600000 in
theorem sreach_m (h : StoM base D P M bS bm cS d n K ep slot tb ot parts vp SK u) (hp : parts.length ≤ 1000) : Calls Tryz.prog 14 #[.pointer (some ⟨P, 0, none⟩)] u fun r u' => ∃ v, r = .returned v ∧ u'.ownsRow u.heap.size 3 1 v (upI (allR ot parts (listT (atL ot) 512))).length (intV (upI (allR ot parts (listT (atL ot) 512)))) ∧ Below u.heap.size u u' := by
  obtain ⟨i0, hi0, hz0, hz1, hz2⟩ := info_parts infoIntC
  have HC := Lib.hid (cloneI_any parts vp u h.par (by omega))
  have HT := Lib.hid (fun w (k : Below u.heap.size u w) => tthere_any (h.was.below k))
  have HW := Lib.hid (fun w (k : Below u.heap.size u w) => h.was.below k)
  have hl : (listT (atL ot) 512).length ≤ 512 := listT_len _ _
  have hm : ∀ l ∈ listT (atL ot) 512, l < 512 := fun l hl => (mem_listT.1 hl).1
  have HP := Lib.hid hp
  obtain ⟨L, hL⟩ : ∃ L, L = listT (atL ot) 512 := ⟨_, rfl⟩
  rw [← hL] at HT hl hm ⊢
  have HM := Lib.hid hm
  have HL := Lib.hid hl
  obtain ⟨c0, c3, c4, c5, c6, c7, cf⟩ := h.look
  have HX : Hid (∀ w, Below u.heap.size u w → w.cell? ⟨P, 1028, none⟩ = some vp) := Lib.hid (fun w k => (k.cell (p := ⟨P, 1028, none⟩) h.plt).trans c6)
  clear h hp hl hm hL c0 c3 c4 c5 c7 cf
  go_enter Tryz.func14, Tryz.ntmps14
  go_wp2_with fail
  refine (HC.out).mono ?_
  rintro e w1 ⟨v2, rfl, ho, hb⟩
  have O1 := Lib.hid ho
  have B1 := Lib.hid hb
  have HT1 := Lib.hid (HT.out w1 hb)
  clear ho hb HC c6 HT
  go_wp2_with fail
  refine (HT1.out).mono ?_
  rintro e w2 ⟨v3, rfl, hn, hb2⟩
  have N2 := Lib.hid hn
  have S2 := Lib.hid hb2.size
  have O2 := Lib.hid (own_below O1.out hb2)
  have B2 := Lib.hid (B1.out.trans (hb2.mono B1.out.size))
  have LO : Hid (∀ g, v3.ownBlock = some g → w1.heap.size ≤ g ∧ g < w2.heap.size) := Lib.hid hn.lo
  obtain ⟨ao, cap, rfl, hc1, hc2, hsl⟩ := hn.sl
  have OW1 : Hid (∀ g, v2.ownBlock = some g → g < w1.heap.size) := Lib.hid (fun g hg => (O1.out.lt g hg).2)
  clear hn hb2 HT1 hsl
  go_wp2_with fail
  go_loopw [3, 18] (fun v i wr => ∃ j : Nat, j ≤ L.length ∧ i = .int .i64 j ∧ Hid (wr.ownsRow u.heap.size 3 1 v (allR ot parts (L.take j)).length (intV (allR ot parts (L.take j)))) ∧ Hid (NewL w1.heap.size L (.slice ao L.length cap) wr) ∧ Hid (∀ g, v.ownBlock = some g → (Value.slice ao L.length cap).ownBlock ≠ some g) ∧ Hid (Below u.heap.size u wr)) (fun _ i _ => L.length - (intOf i).toNat)
  case atStart => exact ⟨0, Nat.zero_le _, rfl, Lib.hid (by rw [List.take_zero]; unfold allR; rw [List.map_nil, List.append_nil]; exact O2.out), N2, Lib.hid (fun g hg e => by
    have h1 := OW1.out g hg
    have := (LO.out g e).1
    omega), B2⟩
  case round =>
    obtain ⟨j, hj, rfl, HO, HN, HA, HB⟩ := hrel
    by_cases hlt : j < L.length
    · have hj1 : (j : Int) < (L.length : Int) := by omega
      have hj2 : (0 : Int) ≤ (j : Int) := by omega
      have d1 : decide ((j : Int) < (L.length : Int)) = true := by rw [decide_eq_true_eq]; omega
      have d2 : decide (j < L.length) = true := by rw [decide_eq_true_eq]; omega
      have HLT := Lib.hid hlt
      obtain ⟨_, _, e9, _, _, hsl⟩ := HN.out.sl
      obtain ⟨b, o, hao, hA⟩ := hsl (by omega)
      simp only [Value.slice.injEq, true_and] at e9
      obtain ⟨rfl, rfl⟩ := e9
      subst hao
      have hcell : wr.cell? ⟨b, o + j, none⟩ = some (.int .i64 (L.getD j 0 : Nat)) := hA.one j hlt
      obtain ⟨l, hle⟩ : ∃ l, l = L.getD j 0 := ⟨_, rfl⟩
      have hlj : L[j] = l := by rw [hle, List.getD_eq_getElem?_getD, List.getElem?_eq_getElem hlt]; rfl
      rw [← hle] at hcell
      have hl5 : l < 512 := by rw [← hlj]; exact HM.out _ (List.getElem_mem hlt)
      have ET : Hid (allR ot parts (L.take (j + 1)) = allR ot parts (L.take j) ++ [atL ot l]) := Lib.hid (by
        unfold allR
        rw [List.take_add_one, List.getElem?_eq_getElem hlt, show L[j] = l from hlj, List.map_append, List.append_assoc]
        rfl)
      have hc9 := (HW.out wr HB.out).cell hl5
      have hc8 : wr.cell? ⟨P, l + 513, none⟩ = some (.int .i64 (atL ot l)) := by rw [Nat.add_comm]; exact hc9
      have l0 : (0 : Int) ≤ (l : Int) := by omega
      have l1 : (l : Int) < 512 := by omega
      have hlen : (allR ot parts (L.take j)).length ≤ 2000 := by
        unfold allR
        have := HP.out
        have := HL.out
        rw [List.length_append, List.length_map, List.length_take]
        omega
      generalize atL ot l = z at *
      have B1 := balloc wr (.cells #[.int .i64 z] 3)
      have O1 := Lib.hid (own_below HO.out B1)
      have W1 := Lib.hid (HB.out.trans (B1.mono HB.out.size))
      have NL1 := Lib.hid (HN.out.below B1)
      have SZ := Lib.hid (Nat.le_trans HB.out.size B1.size)
      have hone := lit_cells12 wr (.int .i64 z)
      clear hle hlj hA B1 hlt
      go_wp2_with (at_builtin; refine wpList_append_own_at _ rfl _ _ 38 rfl u.heap.size 3 i0 (.int .i64 0) 1 8 Tryz.underlying38 hi0 hz0 hz1 hz2 rfl (by decide) _ (allR ot parts (L.take j)).length _ rfl O1.out ⟨wr.heap.size, 0, none⟩ 1 1 [.int .i64 z] rfl rfl hone (by intro q hq; simp only [List.mem_cons, List.not_mem_nil, or_false] at hq; subst hq; rfl) (by unfold maxLen; omega) (by omega) SZ.out ?_)
      intro v4 w4 ho4 hg4 _ hb4
      have O4 : Hid (w4.ownsRow u.heap.size 3 1 v4 (allR ot parts (L.take (j + 1))).length (intV (allR ot parts (L.take (j + 1))))) := Lib.hid (by
        rw [ET.out, List.length_append, List.length_singleton]
        unfold intV at ho4 ⊢
        rw [List.map_append]
        exact ho4)
      have W4 := Lib.hid (W1.out.trans ((Below.refl _ _).grown hg4 SZ.out (fun g hg => (O1.out.lt g hg).1)))
      have kg : KpS (obB u3) (wr.alloc (.cells #[.int .i64 z] 3)) w4 := by
        cases c : u3.ownBlock with
        | none => rw [c] at hg4; exact KpS.of ((Below.refl _ _).grown hg4 (Nat.le_refl _) (by simp))
        | some b => rw [c] at hg4; exact KpS.grown hg4 (obB_iff.2 c)
      have N4 : Hid (NewL w1.heap.size L (.slice (some ⟨b, o, none⟩) L.length cap) w4) := Lib.hid (NL1.out.kept (fun g hg => by
        cases c : obB u3 g with
        | false => rfl
        | true => exact absurd hg (HA.out g (obB_iff.1 c))) kg)
      have A4 : Hid (∀ g, v4.ownBlock = some g → (Value.slice (some ⟨b, o, none⟩) L.length cap).ownBlock ≠ some g) := Lib.hid (fun g hg e => by
        rcases hb4 with h1 | h1
        · exact HA.out g (by rw [← h1]; exact hg) e
        · rw [h1] at hg
          have e5 := Option.some.inj hg
          have h9 := (NL1.out.lo g e).2
          rw [World.size_alloc] at h9
          omega)
      clear ho4 hg4 hb4 kg
      go_wp2_with fail
      go_roundw
      case rel => have := HLT.out; exact ⟨j + 1, by omega, by go_num, O4, N4, A4, W4⟩
      case measure => have := HLT.out; simp [intOf]; omega
    · have ej : j = L.length := by omega
      have d1 : decide ((j : Int) < (L.length : Int)) = false := by rw [decide_eq_false_iff_not]; omega
      have d2 : decide (j < L.length) = false := by rw [decide_eq_false_iff_not]; omega
      rw [ej, List.take_length] at HO
      have hlen : (allR ot parts L).length ≤ 100000 := by
        unfold allR
        have := HP.out
        have := HL.out
        rw [List.length_append, List.length_map]
        omega
      have HSO := Lib.hid (sort_any _ HO.out hlen HB.out.size)
      clear hlt ej hj
      go_wp2_with fail
      refine (HSO.out).mono ?_
      rintro e w5 ⟨rfl, h1, h2⟩
      have H1 := Lib.hid h1
      have H2 := Lib.hid (HB.out.trans h2)
      clear h1 h2 HSO
      go_wp2_with fail
      go_ret
      exact ⟨_, rfl, H1.out, H2.out⟩
end

end Go.Proofs.YtdpmpmaepjgndaaGreat
