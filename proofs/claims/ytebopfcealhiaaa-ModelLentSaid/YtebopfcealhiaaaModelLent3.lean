/- The walk of the law ModelLent. -/
import Derived.Test.YtebopfcealhiaaaModelLent2
namespace Go.Proofs.Ytebopfcealhiaaa
open Go.RowKit
set_option linter.unusedVariables false

set_option maxRecDepth 100000 in
set_option maxHeartbeats 3200000 in
theorem modelLent_core (m : Mdl) (vd vp vl vi : Value) (w : World) (sd : m.nd ≤ 1000) (sp : m.np ≤ 1000) (sl : m.nl ≤ 1000) (si : m.ni ≤ 1000) (SPL : Hid (∀ i, i < m.np → m.pl i ≤ 1000)) (SWL : Hid (∀ i, i < m.nl → m.wl i ≤ 1000))
    (HLi : Hid (∀ w2, Below w.heap.size w w2 → Calls Try.prog 9 #[.agg #[.int .i64 m.seed, .float .f64 m.fin, vd, vp, vl, vi]] w2 fun e w' => e = .returned (.bool true) ∧ Below w2.heap.size w2 w'))
    (HCp : Hid (∀ w2, Below w.heap.size w w2 → Calls Try.prog 14 #[.agg #[.int .i64 m.seed, .float .f64 m.fin, vd, vp, vl, vi]] w2 fun e w' => ∃ a b c d, e = .returned (.agg #[.int .i64 m.seed, .float .f64 m.fin, a, b, c, d]) ∧ NewM m a b c d w2.heap.size w' ∧ Below w2.heap.size w2 w'))
    (HS : Hid (∀ a b c d top W, NewU m a b c d top W → Below w.heap.size w W → Calls Try.prog 15 #[.agg #[.int .i64 m.seed, .float .f64 m.fin, a, b, c, d], .agg #[.int .i64 m.seed, .float .f64 m.fin, vd, vp, vl, vi]] W fun e w' => e = .returned (.bool true) ∧ Below W.heap.size W w')) :
    Calls Try.prog 7 #[.agg #[.int .i64 m.seed, .float .f64 m.fin, vd, vp, vl, vi]] w fun e w' => e = .returned (.bool true) ∧ Below w.heap.size w w' := by
  have HA := Lib.hid (balloc w (.cells #[.int .i64 m.seed, .float .f64 m.fin, vd, vp, vl, vi] 28))
  have HN := Lib.hid (heap_alloc_new w (.cells #[.int .i64 m.seed, .float .f64 m.fin, vd, vp, vl, vi] 28))
  have hsf := store_float
  go_enter Try.func7, Try.ntmps7
  go_wp2_with fail
  refine (HLi.out _ HA.out).mono ?_
  rintro e w1 ⟨rfl, hb1⟩
  have HBw : Hid (Below w.heap.size w w1.drew) := bthen (bthen HA.out hb1) (bdrew _)
  have HBx : Hid (w1.drew.heap[w.heap.size]? = some (.cells #[.int .i64 m.seed, .float .f64 m.fin, vd, vp, vl, vi] 28 (0, 0))) := (hb1.block _ (lt_of_block HN.out)).trans HN.out
  clear hb1
  go_wp2_with fail
  rename_i Q0 K0 hK0
  have cont : ∀ (Ba Bb top : Nat) (va pa la ia : Value) (aD aP aL aI : Option Addr) (W : World), Lent w m #[.int .i64 m.seed, .float .f64 m.fin, vd, vp, vl, vi] Ba Bb top va pa la ia (.slice aD m.nd m.nd) (.slice aP m.np m.np) (.slice aL m.nl m.nl) (.slice aI m.ni m.ni) W →
      K0 { tmps := #[.agg #[.int .i64 m.seed, .float .f64 m.fin, vd, vp, vl, vi], .pointer (some ⟨w.heap.size, 0, none⟩), .bool false, .pointer (some ⟨Ba, 0, none⟩), .pointer (some ⟨Bb, 0, none⟩), undef, undef, undef, undef, undef, undef, .agg #[.int .i64 m.seed, .float .f64 m.fin, vd, vp, vl, vi], .bool true, .bool false, undef, .agg #[.int .i64 m.seed, .float .f64 m.fin, vd, vp, vl, vi], .agg #[.int .i64 m.seed, .float .f64 m.fin, va, pa, la, ia], .agg #[.int .i64 m.seed, .float .f64 m.fin, vd, vp, vl, vi], .agg #[.int .i64 m.seed, .float .f64 m.fin, .slice aD m.nd m.nd, .slice aP m.np m.np, .slice aL m.nl m.nl, .slice aI m.ni m.ni], undef, undef, undef, undef, undef, undef, undef, undef, undef, undef, undef, undef, undef, undef, undef, undef, undef, undef, undef, undef, undef, undef, undef, undef, undef, undef, undef, undef, undef, undef, undef, undef, undef, undef, undef, undef, undef, undef, undef, undef, undef, undef, undef, undef, undef, undef, undef, undef, undef, undef, undef, undef, undef, undef, undef, undef, undef, undef, undef, undef, undef, undef, undef, undef, undef, undef, undef, undef, undef, undef, undef, undef, undef, undef, undef, undef, undef, undef, undef, undef, undef, undef, undef, undef, undef], defers := [] } W := by
    intro Ba Bb top va pa la ia aD aP aL aI W hl0
    refine hK0 _ _ ?_
    clear HBw HBx HA HN HLi HCp hK0
    have HL0 := Lib.hid hl0
    clear hl0
    go_wp2_with fail
    go_loopw [5] (fun i wr => ∃ j : Nat, j ≤ m.nd ∧ i = .int .i64 j ∧ Lent w m #[.int .i64 m.seed, .float .f64 m.fin, vd, vp, vl, vi] Ba Bb top va pa la ia (.slice aD m.nd m.nd) (.slice aP m.np m.np) (.slice aL m.nl m.nl) (.slice aI m.ni m.ni) wr) (fun i _ => m.nd - (intOf i).toNat)
    case atStart => exact ⟨0, by omega, rfl, HL0.out⟩
    case round =>
      clear HL0
      obtain ⟨j, hj, rfl, hl⟩ := hrel
      have HL := Lib.hid hl
      obtain ⟨_, x0, x1, x2, x3, x4, x5⟩ := box6_of hl.hb
      have hj0 : (0 : Int) ≤ (j : Int) := by omega
      by_cases hlt : j < m.nd
      · obtain ⟨b, hm⟩ := hl.bd.may (by omega) hlt
        have HM := Lib.hid hm
        obtain ⟨rfl, _, _, hc, hf⟩ := hm
        obtain ⟨u, c0⟩ := hc 0 (by omega)
        rw [show j * 1 + 0 = j by omega] at c0
        have f0 := hf j
        have hj2 : (j : Int) < (m.nd : Int) := by omega
        clear hl hc hf
        go_wp2_with fail
        go_roundw
        case rel => exact ⟨j + 1, by omega, by go_num, HL.out.put HM.out (by decide) (by decide) (by decide) _ _⟩
        case measure => simp [intOf]; omega
      have hje : (j : Int) = (m.nd : Int) := by omega
      have hjn : ¬ (j : Int) < (m.nd : Int) := by omega
      clear hl
      go_wp2_with fail
      clear x0 x1 x2 x3 x4 x5 hje hjn
      go_loopw [6] (fun i wr => ∃ j : Nat, j ≤ m.np ∧ i = .int .i64 j ∧ Lent w m #[.int .i64 m.seed, .float .f64 m.fin, vd, vp, vl, vi] Ba Bb top va pa la ia (.slice aD m.nd m.nd) (.slice aP m.np m.np) (.slice aL m.nl m.nl) (.slice aI m.ni m.ni) wr) (fun i _ => m.np - (intOf i).toNat)
      case atStart => exact ⟨0, by omega, rfl, HL.out⟩
      case round =>
        clear HL hlt hj hj0
        obtain ⟨j, hj, rfl, hl⟩ := hrel
        have HL := Lib.hid hl
        obtain ⟨_, x0, x1, x2, x3, x4, x5⟩ := box6_of hl.hb
        have hj0 : (0 : Int) ≤ (j : Int) := by omega
        by_cases hlt : j < m.np
        · have hj2 : (j : Int) < (m.np : Int) := by omega
          have hpl := SPL.out j hlt
          obtain ⟨BP, a0, rfl, _, _⟩ := hl.prog hlt
          clear hl
          go_wp2_with fail
          clear x0 x1 x2 x3 x4 x5
          go_loopw [7] (fun i wr => ∃ k : Nat, k ≤ m.pl j ∧ i = .int .i64 k ∧ Lent w m #[.int .i64 m.seed, .float .f64 m.fin, vd, vp, vl, vi] Ba Bb top va pa la ia (.slice aD m.nd m.nd) (.slice (some ⟨BP, 0, none⟩) m.np m.np) (.slice aL m.nl m.nl) (.slice aI m.ni m.ni) wr) (fun i _ => m.pl j - (intOf i).toNat)
          case atStart => exact ⟨0, by omega, rfl, HL.out⟩
          case round =>
            clear HL
            obtain ⟨k, hk, rfl, hl⟩ := hrel
            have HL := Lib.hid hl
            obtain ⟨_, x0, x1, x2, x3, x4, x5⟩ := box6_of hl.hb
            obtain ⟨BP2, a2, eBP, c0, hmay⟩ := hl.prog hlt
            obtain rfl : BP = BP2 := by simpa using eBP
            have hk0 : (0 : Int) ≤ (k : Int) := by omega
            by_cases hltk : k < m.pl j
            · have hk2 : (k : Int) < (m.pl j : Int) := by omega
              obtain ⟨b, hm⟩ := hmay k hltk
              have HM := Lib.hid hm
              obtain ⟨rfl, _, _, hc, hf⟩ := hm
              obtain ⟨u0, d0⟩ := hc 0 (by omega)
              obtain ⟨u1, d1⟩ := hc 1 (by omega)
              obtain ⟨u2, d2⟩ := hc 2 (by omega)
              obtain ⟨u3, d3⟩ := hc 3 (by omega)
              rw [Nat.add_zero] at d0
              clear hl hc hmay eBP
              go_wp2_with fail
              go_roundw
              case rel => exact ⟨k + 1, by omega, by go_num, HL.out.put4 HM.out _ _ _ _ _ _ _ _⟩
              case measure => simp [intOf]; omega
            · have hkn : ¬ (k : Int) < (m.pl j : Int) := by omega
              clear hl hmay eBP
              go_wp2_with fail
              go_roundw
              case rel => exact ⟨j + 1, by omega, by go_num, HL.out⟩
              case measure => simp [intOf]; omega
        have hjn : ¬ (j : Int) < (m.np : Int) := by omega
        clear hl
        go_wp2_with fail
        clear x0 x1 x2 x3 x4 x5 hjn
        go_loopw [8] (fun i wr => ∃ j : Nat, j ≤ m.nl ∧ i = .int .i64 j ∧ Lent w m #[.int .i64 m.seed, .float .f64 m.fin, vd, vp, vl, vi] Ba Bb top va pa la ia (.slice aD m.nd m.nd) (.slice aP m.np m.np) (.slice aL m.nl m.nl) (.slice aI m.ni m.ni) wr) (fun i _ => m.nl - (intOf i).toNat)
        case atStart => exact ⟨0, by omega, rfl, HL.out⟩
        case round =>
          clear HL hlt hj hj0
          obtain ⟨j, hj, rfl, hl⟩ := hrel
          have HL := Lib.hid hl
          obtain ⟨_, x0, x1, x2, x3, x4, x5⟩ := box6_of hl.hb
          have hj0 : (0 : Int) ≤ (j : Int) := by omega
          by_cases hlt : j < m.nl
          · have hj2 : (j : Int) < (m.nl : Int) := by omega
            have hwl := SWL.out j hlt
            obtain ⟨BL, a0, rfl, _, _, _, _, _⟩ := hl.proc hlt
            clear hl
            go_wp2_with fail
            clear x0 x1 x2 x3 x4 x5
            go_loopw [9] (fun i wr => ∃ k : Nat, k ≤ m.wl j ∧ i = .int .i64 k ∧ Lent w m #[.int .i64 m.seed, .float .f64 m.fin, vd, vp, vl, vi] Ba Bb top va pa la ia (.slice aD m.nd m.nd) (.slice aP m.np m.np) (.slice (some ⟨BL, 0, none⟩) m.nl m.nl) (.slice aI m.ni m.ni) wr) (fun i _ => m.wl j - (intOf i).toNat)
            case atStart => exact ⟨0, by omega, rfl, HL.out⟩
            case round =>
              clear HL
              obtain ⟨k, hk, rfl, hl⟩ := hrel
              have HL := Lib.hid hl
              obtain ⟨_, x0, x1, x2, x3, x4, x5⟩ := box6_of hl.hb
              obtain ⟨BL2, a2, eBL, ⟨uu, cc⟩, c0, hfz, hmay, hput⟩ := hl.proc hlt
              obtain rfl : BL = BL2 := by simpa using eBL
              have hk0 : (0 : Int) ≤ (k : Int) := by omega
              have HPut := Lib.hid hput
              clear hput
              by_cases hltk : k < m.wl j
              · have hk2 : (k : Int) < (m.wl j : Int) := by omega
                obtain ⟨b, hm⟩ := hmay k hltk
                have HM := Lib.hid hm
                obtain ⟨rfl, _, _, hc, hf⟩ := hm
                obtain ⟨u0, d0⟩ := hc 0 (by omega)
                rw [show k * 1 + 0 = k by omega] at d0
                have f0 := hf k
                clear hl hc hmay eBL hfz hf
                go_wp2_with fail
                go_roundw
                case rel => exact ⟨k + 1, by omega, by go_num, HL.out.put HM.out (by decide) (by decide) (by decide) _ _⟩
                case measure => simp [intOf]; omega
              · have hkn : ¬ (k : Int) < (m.wl j : Int) := by omega
                have f0 := hfz (j * 2)
                clear hl hmay eBL hfz
                go_wp2_with fail
                go_roundw
                case rel => exact ⟨j + 1, by omega, by go_num, HPut.out _⟩
                case measure => simp [intOf]; omega
          have hjn : ¬ (j : Int) < (m.nl : Int) := by omega
          clear hl
          go_wp2_with fail
          clear x0 x1 x2 x3 x4 x5 hjn
          go_loopw [10] (fun i wr => ∃ j : Nat, j ≤ m.ni ∧ i = .int .i64 j ∧ Lent w m #[.int .i64 m.seed, .float .f64 m.fin, vd, vp, vl, vi] Ba Bb top va pa la ia (.slice aD m.nd m.nd) (.slice aP m.np m.np) (.slice aL m.nl m.nl) (.slice aI m.ni m.ni) wr) (fun i _ => m.ni - (intOf i).toNat)
          case atStart => exact ⟨0, by omega, rfl, HL.out⟩
          case round =>
            clear HL hlt hj hj0
            obtain ⟨j, hj, rfl, hl⟩ := hrel
            have HL := Lib.hid hl
            obtain ⟨_, x0, x1, x2, x3, x4, x5⟩ := box6_of hl.hb
            have hj0 : (0 : Int) ≤ (j : Int) := by omega
            by_cases hlt : j < m.ni
            · obtain ⟨b, hm⟩ := hl.bi.may (by omega) hlt
              have HM := Lib.hid hm
              obtain ⟨rfl, _, _, hc, hf⟩ := hm
              obtain ⟨u, c0⟩ := hc 1 (by omega)
              have f0 := hf (j * 3 + 1)
              have hj2 : (j : Int) < (m.ni : Int) := by omega
              clear hl hc hf
              go_wp2_with fail
              go_roundw
              case rel => exact ⟨j + 1, by omega, by go_num, HL.out.put HM.out (by decide) (by decide) (by decide) _ _⟩
              case measure => simp [intOf]; omega
            have hjn : ¬ (j : Int) < (m.ni : Int) := by omega
            clear hl
            go_wp2_with (first
              | (go_at_call 8; refine (awake5_any _).mono ?_; rintro e w8 ⟨rfl, hb8⟩; have HL8 := Lib.hid (HL.out.below hb8); clear hb8; obtain ⟨_, y0, y1, y2, y3, y4, y5⟩ := box6_of HL8.out.ha; obtain ⟨_, z0, z1, z2, z3, z4, z5⟩ := box6_of HL8.out.box)
              | (go_at_call 15; refine (HS.out _ _ _ _ _ _ HL8.out.a HL8.out.bel).mono ?_; rintro e w9 ⟨rfl, hb9⟩))
            go_ret
            exact ⟨rfl, bthen HL8.out.bel hb9⟩
  have HCont := Lib.hid cont
  clear cont hK0
  refine wp_region_held_drew (S := (fun w' => w'.cell? ⟨w.heap.size, 0, none⟩ = some (.int .i64 m.seed) ∧ w'.cell? ⟨w.heap.size, 1, none⟩ = some (.float .f64 m.fin) ∧ w'.cell? ⟨w.heap.size, 2, none⟩ = some (vd) ∧ w'.cell? ⟨w.heap.size, 3, none⟩ = some (vp) ∧ w'.cell? ⟨w.heap.size, 4, none⟩ = some (vl) ∧ w'.cell? ⟨w.heap.size, 5, none⟩ = some (vi))) (by kernel_rfl) ?_ (fun hHeld => ?_)
  · exact (box6_of HBx.out).2
  first
    | (refine wpAnyH_take (i := 0) (oi := ⟨_, _, _, _, _, _⟩) (v := undef) rfl (by kernel_rfl) (by kernel_rfl) (by kernel_rfl) (fun _ _ _ h => h) (Or.inr ⟨by rfl, rfl⟩) (by assumption) ?_
       try simp only [Act.put, List.setIfInBounds_toArray, List.set_cons_zero, List.set_cons_succ])
    | (refine wpAnyH_take (i := 0) (oi := ⟨_, _, _, _, _, _⟩) (v := ?_) rfl (by kernel_rfl) (by kernel_rfl) (by kernel_rfl) (fun _ _ _ h => h) (Or.inl ⟨by rfl, ?_⟩) (by assumption) ?_
       rotate_left
       · intro w5 hSw
         try dsimp only at hSw
         go_simp
         try with_reducible rfl
       try simp only [Act.put, List.setIfInBounds_toArray, List.set_cons_zero, List.set_cons_succ])
  first
    | (refine wpAnyH_take (i := 2) (oi := ⟨_, _, _, _, _, _⟩) (v := undef) rfl (by kernel_rfl) (by kernel_rfl) (by kernel_rfl) (fun _ _ _ h => h) (Or.inr ⟨by rfl, rfl⟩) (by assumption) ?_
       try simp only [Act.put, List.setIfInBounds_toArray, List.set_cons_zero, List.set_cons_succ])
    | (refine wpAnyH_take (i := 2) (oi := ⟨_, _, _, _, _, _⟩) (v := ?_) rfl (by kernel_rfl) (by kernel_rfl) (by kernel_rfl) (fun _ _ _ h => h) (Or.inl ⟨by rfl, ?_⟩) (by assumption) ?_
       rotate_left
       · intro w5 hSw
         try dsimp only at hSw
         go_simp
         try with_reducible rfl
       try simp only [Act.put, List.setIfInBounds_toArray, List.set_cons_zero, List.set_cons_succ])
  generalize w1.drew = w0 at *
  refine wpAnyH_ready (rs := [1, 4, 5]) (by kernel_rfl) (by simp) ?_
  refine AllReadyH.cons (o := ⟨_, _, _, _, _, _⟩) rfl (fun K hK => ?_) (AllReadyH.cons (o := ⟨_, _, _, _, _, _⟩) rfl (fun K hK => ?_) (AllReadyH.cons (o := ⟨_, _, _, _, _, _⟩) rfl (fun K hK => ?_) AllReadyH.nil))
  · go_simp
    go_at_call 14
    refine (HCp.out _ HBw.out).mono ?_
    rintro e wn1 ⟨g1, g2, g3, g4, rfl, hn, hb⟩
    obtain ⟨z11, z12, z13, z14, rfl, rfl, rfl, rfl⟩ := newM_forms hn
    have HFa := Lib.hid hn
    replace HBw := Lib.hid (bthen HBw.out hb)
    replace HBx := Lib.hid ((hb.block _ (lt_of_block HBx.out)).trans HBx.out)
    clear hn hb
    refine hK.out _ _ ?_ (fun hHeld => ?_)
    · exact (box6_of HBx.out).2
    clear hK K
    try simp only [Act.put, List.setIfInBounds_toArray, List.set_cons_zero, List.set_cons_succ]
    refine wpAnyH_ready (rs := [3, 4, 5]) (by kernel_rfl) (by simp) ?_
    refine AllReadyH.cons (o := ⟨_, _, _, _, _, _⟩) rfl (fun K hK => ?_) (AllReadyH.cons (o := ⟨_, _, _, _, _, _⟩) rfl (fun K hK => ?_) (AllReadyH.cons (o := ⟨_, _, _, _, _, _⟩) rfl (fun K hK => ?_) AllReadyH.nil))
    · go_simp
      go_at_call 14
      refine (HCp.out _ HBw.out).mono ?_
      rintro e wn2 ⟨g1, g2, g3, g4, rfl, hn, hb⟩
      obtain ⟨z31, z32, z33, z34, rfl, rfl, rfl, rfl⟩ := newM_forms hn
      have HTw := Lib.hid HBw.out.size
      have HUa := Lib.hid (HFa.out.u.below hb)
      have HFb := Lib.hid hn
      clear HFa
      replace HBw := Lib.hid (bthen HBw.out hb)
      replace HBx := Lib.hid ((hb.block _ (lt_of_block HBx.out)).trans HBx.out)
      clear hn hb
      refine hK.out _ _ ?_ (fun hHeld => ?_)
      · exact (box6_of HBx.out).2
      clear hK K
      try simp only [Act.put, List.setIfInBounds_toArray, List.set_cons_zero, List.set_cons_succ]
      refine wpAnyH_ready (rs := [4, 5]) (by kernel_rfl) (by simp) ?_
      refine AllReadyH.cons (o := ⟨_, _, _, _, _, _⟩) rfl (fun K hK => ?_) (AllReadyH.cons (o := ⟨_, _, _, _, _, _⟩) rfl (fun K hK => ?_) AllReadyH.nil)
      · go_simp
        have hb := balloc (wn2) (.cells #[.int .i64 0, .float .f64 0, .slice none 0 0, .slice none 0 0, .slice none 0 0, .slice none 0 0] 28)
        have H4 := Lib.hid (heap_alloc_new (wn2) (.cells #[.int .i64 0, .float .f64 0, .slice none 0 0, .slice none 0 0, .slice none 0 0, .slice none 0 0] 28))
        have HL4 := Lib.hid (lt_of_block HBx.out)
        replace HBw := Lib.hid (bthen HBw.out hb)
        replace HBx := Lib.hid ((hb.block _ (lt_of_block HBx.out)).trans HBx.out)
        replace HUa := Lib.hid (HUa.out.below hb)
        replace HFb := Lib.hid (HFb.out.below hb)
        clear hb
        generalize (wn2).alloc (.cells #[.int .i64 0, .float .f64 0, .slice none 0 0, .slice none 0 0, .slice none 0 0, .slice none 0 0] 28) = wn3 at *
        refine hK.out _ _ ?_ (fun hHeld => ?_)
        · exact (box6_of HBx.out).2
        clear hK K
        try simp only [Act.put, List.setIfInBounds_toArray, List.set_cons_zero, List.set_cons_succ]
        refine wpAnyH_ready (rs := [5]) (by kernel_rfl) (by simp) ?_
        refine AllReadyH.cons (o := ⟨_, _, _, _, _, _⟩) rfl (fun K hK => ?_) AllReadyH.nil
        · go_simp
          have hb := balloc (wn3) (.cells #[.int .i64 0, .float .f64 0, .slice none 0 0, .slice none 0 0, .slice none 0 0, .slice none 0 0] 28)
          have H5 := Lib.hid (heap_alloc_new (wn3) (.cells #[.int .i64 0, .float .f64 0, .slice none 0 0, .slice none 0 0, .slice none 0 0, .slice none 0 0] 28))
          have HL5 := Lib.hid (lt_of_block HBx.out)
          have HNe := Lib.hid (lt_of_block H4.out)
          replace HBw := Lib.hid (bthen HBw.out hb)
          replace HBx := Lib.hid ((hb.block _ (lt_of_block HBx.out)).trans HBx.out)
          replace HUa := Lib.hid (HUa.out.below hb)
          replace HFb := Lib.hid (HFb.out.below hb)
          replace H4 := Lib.hid ((hb.block _ (lt_of_block H4.out)).trans H4.out)
          clear hb
          generalize (wn3).alloc (.cells #[.int .i64 0, .float .f64 0, .slice none 0 0, .slice none 0 0, .slice none 0 0, .slice none 0 0] 28) = wn4 at *
          refine hK.out _ _ ?_ (fun hHeld => ?_)
          · exact (box6_of HBx.out).2
          clear hK K
          try simp only [Act.put, List.setIfInBounds_toArray, List.set_cons_zero, List.set_cons_succ]
          have hne : (wn2).heap.size ≠ (wn3).heap.size := Nat.ne_of_lt HNe.out
          obtain ⟨_, t0, t1, t2, t3, t4, t5⟩ := box6_of H4.out
          have fz4 : ∀ q, (wn4).frozen? ⟨(wn2).heap.size, q, none⟩ = false := fun q => Lib.frozen_of_heap H4.out q
          have HSt := Lib.hid (Lent.start HBw.out HTw.out HBx.out H4.out H5.out HL4.out HL5.out hne HUa.out HFb.out)
          have HBx6 := Lib.hid ((six_other (W := wn4) (B := (wn2).heap.size) (show w.heap.size ≠ (wn2).heap.size from Nat.ne_of_lt HL4.out) (.int .i64 m.seed) (.float .f64 m.fin) (.slice z11 m.nd m.nd) (.slice z12 m.np m.np) (.slice z13 m.nl m.nl) (.slice z14 m.ni m.ni)).trans HBx.out)
          have H56 := Lib.hid ((six_other (W := wn4) (B := (wn2).heap.size) (show (wn3).heap.size ≠ (wn2).heap.size from hne.symm) (.int .i64 m.seed) (.float .f64 m.fin) (.slice z11 m.nd m.nd) (.slice z12 m.np m.np) (.slice z13 m.nl m.nl) (.slice z14 m.ni m.ni)).trans H5.out)
          clear hne
          refine wpAnyH_ready (rs := [6]) (by kernel_rfl) (by simp) ?_
          refine AllReadyH.cons (o := ⟨_, _, _, _, _, _⟩) rfl (fun K hK => ?_) AllReadyH.nil
          go_simp
          change K _ (six (wn4) (wn2).heap.size (.int .i64 m.seed) (.float .f64 m.fin) (.slice z11 m.nd m.nd) (.slice z12 m.np m.np) (.slice z13 m.nl m.nl) (.slice z14 m.ni m.ni))
          generalize six (wn4) (wn2).heap.size (.int .i64 m.seed) (.float .f64 m.fin) (.slice z11 m.nd m.nd) (.slice z12 m.np m.np) (.slice z13 m.nl m.nl) (.slice z14 m.ni m.ni) = ws at *
          refine hK.out _ _ ?_ (fun hHeld => ?_)
          · exact (box6_of HBx6.out).2
          clear hK K t0 t1 t2 t3 t4 t5 fz4
          try simp only [Act.put, List.setIfInBounds_toArray, List.set_cons_zero, List.set_cons_succ]
          obtain ⟨_, t0, t1, t2, t3, t4, t5⟩ := box6_of H56.out
          have fz5 : ∀ q, ws.frozen? ⟨(wn3).heap.size, q, none⟩ = false := fun q => Lib.frozen_of_heap H56.out q
          refine wpAnyH_ready (rs := [7]) (by kernel_rfl) (by simp) ?_
          refine AllReadyH.cons (o := ⟨_, _, _, _, _, _⟩) rfl (fun K hK => ?_) AllReadyH.nil
          go_simp
          change K _ (six ws (wn3).heap.size (.int .i64 m.seed) (.float .f64 m.fin) (.slice z31 m.nd m.nd) (.slice z32 m.np m.np) (.slice z33 m.nl m.nl) (.slice z34 m.ni m.ni))
          refine hK.out _ _ ?_ (fun hHeld => ?_)
          · exact (box6_of HSt.out.box).2
          clear hK K
          try simp only [Act.put, List.setIfInBounds_toArray, List.set_cons_zero, List.set_cons_succ]
          refine wpAnyH_done (by kernel_rfl) ?_ _
          exact HCont.out _ _ _ _ _ _ _ _ _ _ _ _ HSt.out
      · go_simp
        have hb := balloc (wn2) (.cells #[.int .i64 0, .float .f64 0, .slice none 0 0, .slice none 0 0, .slice none 0 0, .slice none 0 0] 28)
        have H5 := Lib.hid (heap_alloc_new (wn2) (.cells #[.int .i64 0, .float .f64 0, .slice none 0 0, .slice none 0 0, .slice none 0 0, .slice none 0 0] 28))
        have HL5 := Lib.hid (lt_of_block HBx.out)
        replace HBw := Lib.hid (bthen HBw.out hb)
        replace HBx := Lib.hid ((hb.block _ (lt_of_block HBx.out)).trans HBx.out)
        replace HUa := Lib.hid (HUa.out.below hb)
        replace HFb := Lib.hid (HFb.out.below hb)
        clear hb
        generalize (wn2).alloc (.cells #[.int .i64 0, .float .f64 0, .slice none 0 0, .slice none 0 0, .slice none 0 0, .slice none 0 0] 28) = wn5 at *
        refine hK.out _ _ ?_ (fun hHeld => ?_)
        · exact (box6_of HBx.out).2
        clear hK K
        try simp only [Act.put, List.setIfInBounds_toArray, List.set_cons_zero, List.set_cons_succ]
        refine wpAnyH_ready (rs := [4]) (by kernel_rfl) (by simp) ?_
        refine AllReadyH.cons (o := ⟨_, _, _, _, _, _⟩) rfl (fun K hK => ?_) AllReadyH.nil
        · go_simp
          have hb := balloc (wn5) (.cells #[.int .i64 0, .float .f64 0, .slice none 0 0, .slice none 0 0, .slice none 0 0, .slice none 0 0] 28)
          have H4 := Lib.hid (heap_alloc_new (wn5) (.cells #[.int .i64 0, .float .f64 0, .slice none 0 0, .slice none 0 0, .slice none 0 0, .slice none 0 0] 28))
          have HL4 := Lib.hid (lt_of_block HBx.out)
          have HNe := Lib.hid (lt_of_block H5.out)
          replace HBw := Lib.hid (bthen HBw.out hb)
          replace HBx := Lib.hid ((hb.block _ (lt_of_block HBx.out)).trans HBx.out)
          replace HUa := Lib.hid (HUa.out.below hb)
          replace HFb := Lib.hid (HFb.out.below hb)
          replace H5 := Lib.hid ((hb.block _ (lt_of_block H5.out)).trans H5.out)
          clear hb
          generalize (wn5).alloc (.cells #[.int .i64 0, .float .f64 0, .slice none 0 0, .slice none 0 0, .slice none 0 0, .slice none 0 0] 28) = wn6 at *
          refine hK.out _ _ ?_ (fun hHeld => ?_)
          · exact (box6_of HBx.out).2
          clear hK K
          try simp only [Act.put, List.setIfInBounds_toArray, List.set_cons_zero, List.set_cons_succ]
          have hne : (wn5).heap.size ≠ (wn2).heap.size := (Nat.ne_of_lt HNe.out).symm
          obtain ⟨_, t0, t1, t2, t3, t4, t5⟩ := box6_of H4.out
          have fz4 : ∀ q, (wn6).frozen? ⟨(wn5).heap.size, q, none⟩ = false := fun q => Lib.frozen_of_heap H4.out q
          have HSt := Lib.hid (Lent.start HBw.out HTw.out HBx.out H4.out H5.out HL4.out HL5.out hne HUa.out HFb.out)
          have HBx6 := Lib.hid ((six_other (W := wn6) (B := (wn5).heap.size) (show w.heap.size ≠ (wn5).heap.size from Nat.ne_of_lt HL4.out) (.int .i64 m.seed) (.float .f64 m.fin) (.slice z11 m.nd m.nd) (.slice z12 m.np m.np) (.slice z13 m.nl m.nl) (.slice z14 m.ni m.ni)).trans HBx.out)
          have H56 := Lib.hid ((six_other (W := wn6) (B := (wn5).heap.size) (show (wn2).heap.size ≠ (wn5).heap.size from hne.symm) (.int .i64 m.seed) (.float .f64 m.fin) (.slice z11 m.nd m.nd) (.slice z12 m.np m.np) (.slice z13 m.nl m.nl) (.slice z14 m.ni m.ni)).trans H5.out)
          clear hne
          refine wpAnyH_ready (rs := [6]) (by kernel_rfl) (by simp) ?_
          refine AllReadyH.cons (o := ⟨_, _, _, _, _, _⟩) rfl (fun K hK => ?_) AllReadyH.nil
          go_simp
          change K _ (six (wn6) (wn5).heap.size (.int .i64 m.seed) (.float .f64 m.fin) (.slice z11 m.nd m.nd) (.slice z12 m.np m.np) (.slice z13 m.nl m.nl) (.slice z14 m.ni m.ni))
          generalize six (wn6) (wn5).heap.size (.int .i64 m.seed) (.float .f64 m.fin) (.slice z11 m.nd m.nd) (.slice z12 m.np m.np) (.slice z13 m.nl m.nl) (.slice z14 m.ni m.ni) = ws at *
          refine hK.out _ _ ?_ (fun hHeld => ?_)
          · exact (box6_of HBx6.out).2
          clear hK K t0 t1 t2 t3 t4 t5 fz4
          try simp only [Act.put, List.setIfInBounds_toArray, List.set_cons_zero, List.set_cons_succ]
          obtain ⟨_, t0, t1, t2, t3, t4, t5⟩ := box6_of H56.out
          have fz5 : ∀ q, ws.frozen? ⟨(wn2).heap.size, q, none⟩ = false := fun q => Lib.frozen_of_heap H56.out q
          refine wpAnyH_ready (rs := [7]) (by kernel_rfl) (by simp) ?_
          refine AllReadyH.cons (o := ⟨_, _, _, _, _, _⟩) rfl (fun K hK => ?_) AllReadyH.nil
          go_simp
          change K _ (six ws (wn2).heap.size (.int .i64 m.seed) (.float .f64 m.fin) (.slice z31 m.nd m.nd) (.slice z32 m.np m.np) (.slice z33 m.nl m.nl) (.slice z34 m.ni m.ni))
          refine hK.out _ _ ?_ (fun hHeld => ?_)
          · exact (box6_of HSt.out.box).2
          clear hK K
          try simp only [Act.put, List.setIfInBounds_toArray, List.set_cons_zero, List.set_cons_succ]
          refine wpAnyH_done (by kernel_rfl) ?_ _
          exact HCont.out _ _ _ _ _ _ _ _ _ _ _ _ HSt.out
    · go_simp
      have hb := balloc (wn1) (.cells #[.int .i64 0, .float .f64 0, .slice none 0 0, .slice none 0 0, .slice none 0 0, .slice none 0 0] 28)
      have H4 := Lib.hid (heap_alloc_new (wn1) (.cells #[.int .i64 0, .float .f64 0, .slice none 0 0, .slice none 0 0, .slice none 0 0, .slice none 0 0] 28))
      have HL4 := Lib.hid (lt_of_block HBx.out)
      replace HBw := Lib.hid (bthen HBw.out hb)
      replace HBx := Lib.hid ((hb.block _ (lt_of_block HBx.out)).trans HBx.out)
      replace HFa := Lib.hid (HFa.out.below hb)
      clear hb
      generalize (wn1).alloc (.cells #[.int .i64 0, .float .f64 0, .slice none 0 0, .slice none 0 0, .slice none 0 0, .slice none 0 0] 28) = wn7 at *
      refine hK.out _ _ ?_ (fun hHeld => ?_)
      · exact (box6_of HBx.out).2
      clear hK K
      try simp only [Act.put, List.setIfInBounds_toArray, List.set_cons_zero, List.set_cons_succ]
      refine wpAnyH_ready (rs := [3, 5]) (by kernel_rfl) (by simp) ?_
      refine AllReadyH.cons (o := ⟨_, _, _, _, _, _⟩) rfl (fun K hK => ?_) (AllReadyH.cons (o := ⟨_, _, _, _, _, _⟩) rfl (fun K hK => ?_) AllReadyH.nil)
      · go_simp
        go_at_call 14
        refine (HCp.out _ HBw.out).mono ?_
        rintro e wn8 ⟨g1, g2, g3, g4, rfl, hn, hb⟩
        obtain ⟨z31, z32, z33, z34, rfl, rfl, rfl, rfl⟩ := newM_forms hn
        have HTw := Lib.hid HBw.out.size
        have HUa := Lib.hid (HFa.out.u.below hb)
        have HFb := Lib.hid hn
        clear HFa
        replace HBw := Lib.hid (bthen HBw.out hb)
        replace HBx := Lib.hid ((hb.block _ (lt_of_block HBx.out)).trans HBx.out)
        replace H4 := Lib.hid ((hb.block _ (lt_of_block H4.out)).trans H4.out)
        clear hn hb
        refine hK.out _ _ ?_ (fun hHeld => ?_)
        · exact (box6_of HBx.out).2
        clear hK K
        try simp only [Act.put, List.setIfInBounds_toArray, List.set_cons_zero, List.set_cons_succ]
        refine wpAnyH_ready (rs := [5]) (by kernel_rfl) (by simp) ?_
        refine AllReadyH.cons (o := ⟨_, _, _, _, _, _⟩) rfl (fun K hK => ?_) AllReadyH.nil
        · go_simp
          have hb := balloc (wn8) (.cells #[.int .i64 0, .float .f64 0, .slice none 0 0, .slice none 0 0, .slice none 0 0, .slice none 0 0] 28)
          have H5 := Lib.hid (heap_alloc_new (wn8) (.cells #[.int .i64 0, .float .f64 0, .slice none 0 0, .slice none 0 0, .slice none 0 0, .slice none 0 0] 28))
          have HL5 := Lib.hid (lt_of_block HBx.out)
          have HNe := Lib.hid (lt_of_block H4.out)
          replace HBw := Lib.hid (bthen HBw.out hb)
          replace HBx := Lib.hid ((hb.block _ (lt_of_block HBx.out)).trans HBx.out)
          replace HUa := Lib.hid (HUa.out.below hb)
          replace HFb := Lib.hid (HFb.out.below hb)
          replace H4 := Lib.hid ((hb.block _ (lt_of_block H4.out)).trans H4.out)
          clear hb
          generalize (wn8).alloc (.cells #[.int .i64 0, .float .f64 0, .slice none 0 0, .slice none 0 0, .slice none 0 0, .slice none 0 0] 28) = wn9 at *
          refine hK.out _ _ ?_ (fun hHeld => ?_)
          · exact (box6_of HBx.out).2
          clear hK K
          try simp only [Act.put, List.setIfInBounds_toArray, List.set_cons_zero, List.set_cons_succ]
          have hne : (wn1).heap.size ≠ (wn8).heap.size := Nat.ne_of_lt HNe.out
          obtain ⟨_, t0, t1, t2, t3, t4, t5⟩ := box6_of H4.out
          have fz4 : ∀ q, (wn9).frozen? ⟨(wn1).heap.size, q, none⟩ = false := fun q => Lib.frozen_of_heap H4.out q
          have HSt := Lib.hid (Lent.start HBw.out HTw.out HBx.out H4.out H5.out HL4.out HL5.out hne HUa.out HFb.out)
          have HBx6 := Lib.hid ((six_other (W := wn9) (B := (wn1).heap.size) (show w.heap.size ≠ (wn1).heap.size from Nat.ne_of_lt HL4.out) (.int .i64 m.seed) (.float .f64 m.fin) (.slice z11 m.nd m.nd) (.slice z12 m.np m.np) (.slice z13 m.nl m.nl) (.slice z14 m.ni m.ni)).trans HBx.out)
          have H56 := Lib.hid ((six_other (W := wn9) (B := (wn1).heap.size) (show (wn8).heap.size ≠ (wn1).heap.size from hne.symm) (.int .i64 m.seed) (.float .f64 m.fin) (.slice z11 m.nd m.nd) (.slice z12 m.np m.np) (.slice z13 m.nl m.nl) (.slice z14 m.ni m.ni)).trans H5.out)
          clear hne
          refine wpAnyH_ready (rs := [6]) (by kernel_rfl) (by simp) ?_
          refine AllReadyH.cons (o := ⟨_, _, _, _, _, _⟩) rfl (fun K hK => ?_) AllReadyH.nil
          go_simp
          change K _ (six (wn9) (wn1).heap.size (.int .i64 m.seed) (.float .f64 m.fin) (.slice z11 m.nd m.nd) (.slice z12 m.np m.np) (.slice z13 m.nl m.nl) (.slice z14 m.ni m.ni))
          generalize six (wn9) (wn1).heap.size (.int .i64 m.seed) (.float .f64 m.fin) (.slice z11 m.nd m.nd) (.slice z12 m.np m.np) (.slice z13 m.nl m.nl) (.slice z14 m.ni m.ni) = ws at *
          refine hK.out _ _ ?_ (fun hHeld => ?_)
          · exact (box6_of HBx6.out).2
          clear hK K t0 t1 t2 t3 t4 t5 fz4
          try simp only [Act.put, List.setIfInBounds_toArray, List.set_cons_zero, List.set_cons_succ]
          obtain ⟨_, t0, t1, t2, t3, t4, t5⟩ := box6_of H56.out
          have fz5 : ∀ q, ws.frozen? ⟨(wn8).heap.size, q, none⟩ = false := fun q => Lib.frozen_of_heap H56.out q
          refine wpAnyH_ready (rs := [7]) (by kernel_rfl) (by simp) ?_
          refine AllReadyH.cons (o := ⟨_, _, _, _, _, _⟩) rfl (fun K hK => ?_) AllReadyH.nil
          go_simp
          change K _ (six ws (wn8).heap.size (.int .i64 m.seed) (.float .f64 m.fin) (.slice z31 m.nd m.nd) (.slice z32 m.np m.np) (.slice z33 m.nl m.nl) (.slice z34 m.ni m.ni))
          refine hK.out _ _ ?_ (fun hHeld => ?_)
          · exact (box6_of HSt.out.box).2
          clear hK K
          try simp only [Act.put, List.setIfInBounds_toArray, List.set_cons_zero, List.set_cons_succ]
          refine wpAnyH_done (by kernel_rfl) ?_ _
          exact HCont.out _ _ _ _ _ _ _ _ _ _ _ _ HSt.out
      · go_simp
        have hb := balloc (wn7) (.cells #[.int .i64 0, .float .f64 0, .slice none 0 0, .slice none 0 0, .slice none 0 0, .slice none 0 0] 28)
        have H5 := Lib.hid (heap_alloc_new (wn7) (.cells #[.int .i64 0, .float .f64 0, .slice none 0 0, .slice none 0 0, .slice none 0 0, .slice none 0 0] 28))
        have HL5 := Lib.hid (lt_of_block HBx.out)
        have HNe := Lib.hid (lt_of_block H4.out)
        replace HBw := Lib.hid (bthen HBw.out hb)
        replace HBx := Lib.hid ((hb.block _ (lt_of_block HBx.out)).trans HBx.out)
        replace HFa := Lib.hid (HFa.out.below hb)
        replace H4 := Lib.hid ((hb.block _ (lt_of_block H4.out)).trans H4.out)
        clear hb
        generalize (wn7).alloc (.cells #[.int .i64 0, .float .f64 0, .slice none 0 0, .slice none 0 0, .slice none 0 0, .slice none 0 0] 28) = wn10 at *
        refine hK.out _ _ ?_ (fun hHeld => ?_)
        · exact (box6_of HBx.out).2
        clear hK K
        try simp only [Act.put, List.setIfInBounds_toArray, List.set_cons_zero, List.set_cons_succ]
        refine wpAnyH_ready (rs := [3]) (by kernel_rfl) (by simp) ?_
        refine AllReadyH.cons (o := ⟨_, _, _, _, _, _⟩) rfl (fun K hK => ?_) AllReadyH.nil
        · go_simp
          go_at_call 14
          refine (HCp.out _ HBw.out).mono ?_
          rintro e wn11 ⟨g1, g2, g3, g4, rfl, hn, hb⟩
          obtain ⟨z31, z32, z33, z34, rfl, rfl, rfl, rfl⟩ := newM_forms hn
          have HTw := Lib.hid HBw.out.size
          have HUa := Lib.hid (HFa.out.u.below hb)
          have HFb := Lib.hid hn
          clear HFa
          replace HBw := Lib.hid (bthen HBw.out hb)
          replace HBx := Lib.hid ((hb.block _ (lt_of_block HBx.out)).trans HBx.out)
          replace H4 := Lib.hid ((hb.block _ (lt_of_block H4.out)).trans H4.out)
          replace H5 := Lib.hid ((hb.block _ (lt_of_block H5.out)).trans H5.out)
          clear hn hb
          refine hK.out _ _ ?_ (fun hHeld => ?_)
          · exact (box6_of HBx.out).2
          clear hK K
          try simp only [Act.put, List.setIfInBounds_toArray, List.set_cons_zero, List.set_cons_succ]
          have hne : (wn1).heap.size ≠ (wn7).heap.size := Nat.ne_of_lt HNe.out
          obtain ⟨_, t0, t1, t2, t3, t4, t5⟩ := box6_of H4.out
          have fz4 : ∀ q, (wn11).frozen? ⟨(wn1).heap.size, q, none⟩ = false := fun q => Lib.frozen_of_heap H4.out q
          have HSt := Lib.hid (Lent.start HBw.out HTw.out HBx.out H4.out H5.out HL4.out HL5.out hne HUa.out HFb.out)
          have HBx6 := Lib.hid ((six_other (W := wn11) (B := (wn1).heap.size) (show w.heap.size ≠ (wn1).heap.size from Nat.ne_of_lt HL4.out) (.int .i64 m.seed) (.float .f64 m.fin) (.slice z11 m.nd m.nd) (.slice z12 m.np m.np) (.slice z13 m.nl m.nl) (.slice z14 m.ni m.ni)).trans HBx.out)
          have H56 := Lib.hid ((six_other (W := wn11) (B := (wn1).heap.size) (show (wn7).heap.size ≠ (wn1).heap.size from hne.symm) (.int .i64 m.seed) (.float .f64 m.fin) (.slice z11 m.nd m.nd) (.slice z12 m.np m.np) (.slice z13 m.nl m.nl) (.slice z14 m.ni m.ni)).trans H5.out)
          clear hne
          refine wpAnyH_ready (rs := [6]) (by kernel_rfl) (by simp) ?_
          refine AllReadyH.cons (o := ⟨_, _, _, _, _, _⟩) rfl (fun K hK => ?_) AllReadyH.nil
          go_simp
          change K _ (six (wn11) (wn1).heap.size (.int .i64 m.seed) (.float .f64 m.fin) (.slice z11 m.nd m.nd) (.slice z12 m.np m.np) (.slice z13 m.nl m.nl) (.slice z14 m.ni m.ni))
          generalize six (wn11) (wn1).heap.size (.int .i64 m.seed) (.float .f64 m.fin) (.slice z11 m.nd m.nd) (.slice z12 m.np m.np) (.slice z13 m.nl m.nl) (.slice z14 m.ni m.ni) = ws at *
          refine hK.out _ _ ?_ (fun hHeld => ?_)
          · exact (box6_of HBx6.out).2
          clear hK K t0 t1 t2 t3 t4 t5 fz4
          try simp only [Act.put, List.setIfInBounds_toArray, List.set_cons_zero, List.set_cons_succ]
          obtain ⟨_, t0, t1, t2, t3, t4, t5⟩ := box6_of H56.out
          have fz5 : ∀ q, ws.frozen? ⟨(wn7).heap.size, q, none⟩ = false := fun q => Lib.frozen_of_heap H56.out q
          refine wpAnyH_ready (rs := [7]) (by kernel_rfl) (by simp) ?_
          refine AllReadyH.cons (o := ⟨_, _, _, _, _, _⟩) rfl (fun K hK => ?_) AllReadyH.nil
          go_simp
          change K _ (six ws (wn7).heap.size (.int .i64 m.seed) (.float .f64 m.fin) (.slice z31 m.nd m.nd) (.slice z32 m.np m.np) (.slice z33 m.nl m.nl) (.slice z34 m.ni m.ni))
          refine hK.out _ _ ?_ (fun hHeld => ?_)
          · exact (box6_of HSt.out.box).2
          clear hK K
          try simp only [Act.put, List.setIfInBounds_toArray, List.set_cons_zero, List.set_cons_succ]
          refine wpAnyH_done (by kernel_rfl) ?_ _
          exact HCont.out _ _ _ _ _ _ _ _ _ _ _ _ HSt.out
    · go_simp
      have hb := balloc (wn1) (.cells #[.int .i64 0, .float .f64 0, .slice none 0 0, .slice none 0 0, .slice none 0 0, .slice none 0 0] 28)
      have H5 := Lib.hid (heap_alloc_new (wn1) (.cells #[.int .i64 0, .float .f64 0, .slice none 0 0, .slice none 0 0, .slice none 0 0, .slice none 0 0] 28))
      have HL5 := Lib.hid (lt_of_block HBx.out)
      replace HBw := Lib.hid (bthen HBw.out hb)
      replace HBx := Lib.hid ((hb.block _ (lt_of_block HBx.out)).trans HBx.out)
      replace HFa := Lib.hid (HFa.out.below hb)
      clear hb
      generalize (wn1).alloc (.cells #[.int .i64 0, .float .f64 0, .slice none 0 0, .slice none 0 0, .slice none 0 0, .slice none 0 0] 28) = wn12 at *
      refine hK.out _ _ ?_ (fun hHeld => ?_)
      · exact (box6_of HBx.out).2
      clear hK K
      try simp only [Act.put, List.setIfInBounds_toArray, List.set_cons_zero, List.set_cons_succ]
      refine wpAnyH_ready (rs := [3, 4]) (by kernel_rfl) (by simp) ?_
      refine AllReadyH.cons (o := ⟨_, _, _, _, _, _⟩) rfl (fun K hK => ?_) (AllReadyH.cons (o := ⟨_, _, _, _, _, _⟩) rfl (fun K hK => ?_) AllReadyH.nil)
      · go_simp
        go_at_call 14
        refine (HCp.out _ HBw.out).mono ?_
        rintro e wn13 ⟨g1, g2, g3, g4, rfl, hn, hb⟩
        obtain ⟨z31, z32, z33, z34, rfl, rfl, rfl, rfl⟩ := newM_forms hn
        have HTw := Lib.hid HBw.out.size
        have HUa := Lib.hid (HFa.out.u.below hb)
        have HFb := Lib.hid hn
        clear HFa
        replace HBw := Lib.hid (bthen HBw.out hb)
        replace HBx := Lib.hid ((hb.block _ (lt_of_block HBx.out)).trans HBx.out)
        replace H5 := Lib.hid ((hb.block _ (lt_of_block H5.out)).trans H5.out)
        clear hn hb
        refine hK.out _ _ ?_ (fun hHeld => ?_)
        · exact (box6_of HBx.out).2
        clear hK K
        try simp only [Act.put, List.setIfInBounds_toArray, List.set_cons_zero, List.set_cons_succ]
        refine wpAnyH_ready (rs := [4]) (by kernel_rfl) (by simp) ?_
        refine AllReadyH.cons (o := ⟨_, _, _, _, _, _⟩) rfl (fun K hK => ?_) AllReadyH.nil
        · go_simp
          have hb := balloc (wn13) (.cells #[.int .i64 0, .float .f64 0, .slice none 0 0, .slice none 0 0, .slice none 0 0, .slice none 0 0] 28)
          have H4 := Lib.hid (heap_alloc_new (wn13) (.cells #[.int .i64 0, .float .f64 0, .slice none 0 0, .slice none 0 0, .slice none 0 0, .slice none 0 0] 28))
          have HL4 := Lib.hid (lt_of_block HBx.out)
          have HNe := Lib.hid (lt_of_block H5.out)
          replace HBw := Lib.hid (bthen HBw.out hb)
          replace HBx := Lib.hid ((hb.block _ (lt_of_block HBx.out)).trans HBx.out)
          replace HUa := Lib.hid (HUa.out.below hb)
          replace HFb := Lib.hid (HFb.out.below hb)
          replace H5 := Lib.hid ((hb.block _ (lt_of_block H5.out)).trans H5.out)
          clear hb
          generalize (wn13).alloc (.cells #[.int .i64 0, .float .f64 0, .slice none 0 0, .slice none 0 0, .slice none 0 0, .slice none 0 0] 28) = wn14 at *
          refine hK.out _ _ ?_ (fun hHeld => ?_)
          · exact (box6_of HBx.out).2
          clear hK K
          try simp only [Act.put, List.setIfInBounds_toArray, List.set_cons_zero, List.set_cons_succ]
          have hne : (wn13).heap.size ≠ (wn1).heap.size := (Nat.ne_of_lt HNe.out).symm
          obtain ⟨_, t0, t1, t2, t3, t4, t5⟩ := box6_of H4.out
          have fz4 : ∀ q, (wn14).frozen? ⟨(wn13).heap.size, q, none⟩ = false := fun q => Lib.frozen_of_heap H4.out q
          have HSt := Lib.hid (Lent.start HBw.out HTw.out HBx.out H4.out H5.out HL4.out HL5.out hne HUa.out HFb.out)
          have HBx6 := Lib.hid ((six_other (W := wn14) (B := (wn13).heap.size) (show w.heap.size ≠ (wn13).heap.size from Nat.ne_of_lt HL4.out) (.int .i64 m.seed) (.float .f64 m.fin) (.slice z11 m.nd m.nd) (.slice z12 m.np m.np) (.slice z13 m.nl m.nl) (.slice z14 m.ni m.ni)).trans HBx.out)
          have H56 := Lib.hid ((six_other (W := wn14) (B := (wn13).heap.size) (show (wn1).heap.size ≠ (wn13).heap.size from hne.symm) (.int .i64 m.seed) (.float .f64 m.fin) (.slice z11 m.nd m.nd) (.slice z12 m.np m.np) (.slice z13 m.nl m.nl) (.slice z14 m.ni m.ni)).trans H5.out)
          clear hne
          refine wpAnyH_ready (rs := [6]) (by kernel_rfl) (by simp) ?_
          refine AllReadyH.cons (o := ⟨_, _, _, _, _, _⟩) rfl (fun K hK => ?_) AllReadyH.nil
          go_simp
          change K _ (six (wn14) (wn13).heap.size (.int .i64 m.seed) (.float .f64 m.fin) (.slice z11 m.nd m.nd) (.slice z12 m.np m.np) (.slice z13 m.nl m.nl) (.slice z14 m.ni m.ni))
          generalize six (wn14) (wn13).heap.size (.int .i64 m.seed) (.float .f64 m.fin) (.slice z11 m.nd m.nd) (.slice z12 m.np m.np) (.slice z13 m.nl m.nl) (.slice z14 m.ni m.ni) = ws at *
          refine hK.out _ _ ?_ (fun hHeld => ?_)
          · exact (box6_of HBx6.out).2
          clear hK K t0 t1 t2 t3 t4 t5 fz4
          try simp only [Act.put, List.setIfInBounds_toArray, List.set_cons_zero, List.set_cons_succ]
          obtain ⟨_, t0, t1, t2, t3, t4, t5⟩ := box6_of H56.out
          have fz5 : ∀ q, ws.frozen? ⟨(wn1).heap.size, q, none⟩ = false := fun q => Lib.frozen_of_heap H56.out q
          refine wpAnyH_ready (rs := [7]) (by kernel_rfl) (by simp) ?_
          refine AllReadyH.cons (o := ⟨_, _, _, _, _, _⟩) rfl (fun K hK => ?_) AllReadyH.nil
          go_simp
          change K _ (six ws (wn1).heap.size (.int .i64 m.seed) (.float .f64 m.fin) (.slice z31 m.nd m.nd) (.slice z32 m.np m.np) (.slice z33 m.nl m.nl) (.slice z34 m.ni m.ni))
          refine hK.out _ _ ?_ (fun hHeld => ?_)
          · exact (box6_of HSt.out.box).2
          clear hK K
          try simp only [Act.put, List.setIfInBounds_toArray, List.set_cons_zero, List.set_cons_succ]
          refine wpAnyH_done (by kernel_rfl) ?_ _
          exact HCont.out _ _ _ _ _ _ _ _ _ _ _ _ HSt.out
      · go_simp
        have hb := balloc (wn12) (.cells #[.int .i64 0, .float .f64 0, .slice none 0 0, .slice none 0 0, .slice none 0 0, .slice none 0 0] 28)
        have H4 := Lib.hid (heap_alloc_new (wn12) (.cells #[.int .i64 0, .float .f64 0, .slice none 0 0, .slice none 0 0, .slice none 0 0, .slice none 0 0] 28))
        have HL4 := Lib.hid (lt_of_block HBx.out)
        have HNe := Lib.hid (lt_of_block H5.out)
        replace HBw := Lib.hid (bthen HBw.out hb)
        replace HBx := Lib.hid ((hb.block _ (lt_of_block HBx.out)).trans HBx.out)
        replace HFa := Lib.hid (HFa.out.below hb)
        replace H5 := Lib.hid ((hb.block _ (lt_of_block H5.out)).trans H5.out)
        clear hb
        generalize (wn12).alloc (.cells #[.int .i64 0, .float .f64 0, .slice none 0 0, .slice none 0 0, .slice none 0 0, .slice none 0 0] 28) = wn15 at *
        refine hK.out _ _ ?_ (fun hHeld => ?_)
        · exact (box6_of HBx.out).2
        clear hK K
        try simp only [Act.put, List.setIfInBounds_toArray, List.set_cons_zero, List.set_cons_succ]
        refine wpAnyH_ready (rs := [3]) (by kernel_rfl) (by simp) ?_
        refine AllReadyH.cons (o := ⟨_, _, _, _, _, _⟩) rfl (fun K hK => ?_) AllReadyH.nil
        · go_simp
          go_at_call 14
          refine (HCp.out _ HBw.out).mono ?_
          rintro e wn16 ⟨g1, g2, g3, g4, rfl, hn, hb⟩
          obtain ⟨z31, z32, z33, z34, rfl, rfl, rfl, rfl⟩ := newM_forms hn
          have HTw := Lib.hid HBw.out.size
          have HUa := Lib.hid (HFa.out.u.below hb)
          have HFb := Lib.hid hn
          clear HFa
          replace HBw := Lib.hid (bthen HBw.out hb)
          replace HBx := Lib.hid ((hb.block _ (lt_of_block HBx.out)).trans HBx.out)
          replace H4 := Lib.hid ((hb.block _ (lt_of_block H4.out)).trans H4.out)
          replace H5 := Lib.hid ((hb.block _ (lt_of_block H5.out)).trans H5.out)
          clear hn hb
          refine hK.out _ _ ?_ (fun hHeld => ?_)
          · exact (box6_of HBx.out).2
          clear hK K
          try simp only [Act.put, List.setIfInBounds_toArray, List.set_cons_zero, List.set_cons_succ]
          have hne : (wn12).heap.size ≠ (wn1).heap.size := (Nat.ne_of_lt HNe.out).symm
          obtain ⟨_, t0, t1, t2, t3, t4, t5⟩ := box6_of H4.out
          have fz4 : ∀ q, (wn16).frozen? ⟨(wn12).heap.size, q, none⟩ = false := fun q => Lib.frozen_of_heap H4.out q
          have HSt := Lib.hid (Lent.start HBw.out HTw.out HBx.out H4.out H5.out HL4.out HL5.out hne HUa.out HFb.out)
          have HBx6 := Lib.hid ((six_other (W := wn16) (B := (wn12).heap.size) (show w.heap.size ≠ (wn12).heap.size from Nat.ne_of_lt HL4.out) (.int .i64 m.seed) (.float .f64 m.fin) (.slice z11 m.nd m.nd) (.slice z12 m.np m.np) (.slice z13 m.nl m.nl) (.slice z14 m.ni m.ni)).trans HBx.out)
          have H56 := Lib.hid ((six_other (W := wn16) (B := (wn12).heap.size) (show (wn1).heap.size ≠ (wn12).heap.size from hne.symm) (.int .i64 m.seed) (.float .f64 m.fin) (.slice z11 m.nd m.nd) (.slice z12 m.np m.np) (.slice z13 m.nl m.nl) (.slice z14 m.ni m.ni)).trans H5.out)
          clear hne
          refine wpAnyH_ready (rs := [6]) (by kernel_rfl) (by simp) ?_
          refine AllReadyH.cons (o := ⟨_, _, _, _, _, _⟩) rfl (fun K hK => ?_) AllReadyH.nil
          go_simp
          change K _ (six (wn16) (wn12).heap.size (.int .i64 m.seed) (.float .f64 m.fin) (.slice z11 m.nd m.nd) (.slice z12 m.np m.np) (.slice z13 m.nl m.nl) (.slice z14 m.ni m.ni))
          generalize six (wn16) (wn12).heap.size (.int .i64 m.seed) (.float .f64 m.fin) (.slice z11 m.nd m.nd) (.slice z12 m.np m.np) (.slice z13 m.nl m.nl) (.slice z14 m.ni m.ni) = ws at *
          refine hK.out _ _ ?_ (fun hHeld => ?_)
          · exact (box6_of HBx6.out).2
          clear hK K t0 t1 t2 t3 t4 t5 fz4
          try simp only [Act.put, List.setIfInBounds_toArray, List.set_cons_zero, List.set_cons_succ]
          obtain ⟨_, t0, t1, t2, t3, t4, t5⟩ := box6_of H56.out
          have fz5 : ∀ q, ws.frozen? ⟨(wn1).heap.size, q, none⟩ = false := fun q => Lib.frozen_of_heap H56.out q
          refine wpAnyH_ready (rs := [7]) (by kernel_rfl) (by simp) ?_
          refine AllReadyH.cons (o := ⟨_, _, _, _, _, _⟩) rfl (fun K hK => ?_) AllReadyH.nil
          go_simp
          change K _ (six ws (wn1).heap.size (.int .i64 m.seed) (.float .f64 m.fin) (.slice z31 m.nd m.nd) (.slice z32 m.np m.np) (.slice z33 m.nl m.nl) (.slice z34 m.ni m.ni))
          refine hK.out _ _ ?_ (fun hHeld => ?_)
          · exact (box6_of HSt.out.box).2
          clear hK K
          try simp only [Act.put, List.setIfInBounds_toArray, List.set_cons_zero, List.set_cons_succ]
          refine wpAnyH_done (by kernel_rfl) ?_ _
          exact HCont.out _ _ _ _ _ _ _ _ _ _ _ _ HSt.out
  · go_simp
    have hb := balloc (w0) (.cells #[.int .i64 0, .float .f64 0, .slice none 0 0, .slice none 0 0, .slice none 0 0, .slice none 0 0] 28)
    have H4 := Lib.hid (heap_alloc_new (w0) (.cells #[.int .i64 0, .float .f64 0, .slice none 0 0, .slice none 0 0, .slice none 0 0, .slice none 0 0] 28))
    have HL4 := Lib.hid (lt_of_block HBx.out)
    replace HBw := Lib.hid (bthen HBw.out hb)
    replace HBx := Lib.hid ((hb.block _ (lt_of_block HBx.out)).trans HBx.out)
    clear hb
    generalize (w0).alloc (.cells #[.int .i64 0, .float .f64 0, .slice none 0 0, .slice none 0 0, .slice none 0 0, .slice none 0 0] 28) = wn17 at *
    refine hK.out _ _ ?_ (fun hHeld => ?_)
    · exact (box6_of HBx.out).2
    clear hK K
    try simp only [Act.put, List.setIfInBounds_toArray, List.set_cons_zero, List.set_cons_succ]
    refine wpAnyH_ready (rs := [1, 5]) (by kernel_rfl) (by simp) ?_
    refine AllReadyH.cons (o := ⟨_, _, _, _, _, _⟩) rfl (fun K hK => ?_) (AllReadyH.cons (o := ⟨_, _, _, _, _, _⟩) rfl (fun K hK => ?_) AllReadyH.nil)
    · go_simp
      go_at_call 14
      refine (HCp.out _ HBw.out).mono ?_
      rintro e wn18 ⟨g1, g2, g3, g4, rfl, hn, hb⟩
      obtain ⟨z11, z12, z13, z14, rfl, rfl, rfl, rfl⟩ := newM_forms hn
      have HFa := Lib.hid hn
      replace HBw := Lib.hid (bthen HBw.out hb)
      replace HBx := Lib.hid ((hb.block _ (lt_of_block HBx.out)).trans HBx.out)
      replace H4 := Lib.hid ((hb.block _ (lt_of_block H4.out)).trans H4.out)
      clear hn hb
      refine hK.out _ _ ?_ (fun hHeld => ?_)
      · exact (box6_of HBx.out).2
      clear hK K
      try simp only [Act.put, List.setIfInBounds_toArray, List.set_cons_zero, List.set_cons_succ]
      refine wpAnyH_ready (rs := [3, 5]) (by kernel_rfl) (by simp) ?_
      refine AllReadyH.cons (o := ⟨_, _, _, _, _, _⟩) rfl (fun K hK => ?_) (AllReadyH.cons (o := ⟨_, _, _, _, _, _⟩) rfl (fun K hK => ?_) AllReadyH.nil)
      · go_simp
        go_at_call 14
        refine (HCp.out _ HBw.out).mono ?_
        rintro e wn19 ⟨g1, g2, g3, g4, rfl, hn, hb⟩
        obtain ⟨z31, z32, z33, z34, rfl, rfl, rfl, rfl⟩ := newM_forms hn
        have HTw := Lib.hid HBw.out.size
        have HUa := Lib.hid (HFa.out.u.below hb)
        have HFb := Lib.hid hn
        clear HFa
        replace HBw := Lib.hid (bthen HBw.out hb)
        replace HBx := Lib.hid ((hb.block _ (lt_of_block HBx.out)).trans HBx.out)
        replace H4 := Lib.hid ((hb.block _ (lt_of_block H4.out)).trans H4.out)
        clear hn hb
        refine hK.out _ _ ?_ (fun hHeld => ?_)
        · exact (box6_of HBx.out).2
        clear hK K
        try simp only [Act.put, List.setIfInBounds_toArray, List.set_cons_zero, List.set_cons_succ]
        refine wpAnyH_ready (rs := [5]) (by kernel_rfl) (by simp) ?_
        refine AllReadyH.cons (o := ⟨_, _, _, _, _, _⟩) rfl (fun K hK => ?_) AllReadyH.nil
        · go_simp
          have hb := balloc (wn19) (.cells #[.int .i64 0, .float .f64 0, .slice none 0 0, .slice none 0 0, .slice none 0 0, .slice none 0 0] 28)
          have H5 := Lib.hid (heap_alloc_new (wn19) (.cells #[.int .i64 0, .float .f64 0, .slice none 0 0, .slice none 0 0, .slice none 0 0, .slice none 0 0] 28))
          have HL5 := Lib.hid (lt_of_block HBx.out)
          have HNe := Lib.hid (lt_of_block H4.out)
          replace HBw := Lib.hid (bthen HBw.out hb)
          replace HBx := Lib.hid ((hb.block _ (lt_of_block HBx.out)).trans HBx.out)
          replace HUa := Lib.hid (HUa.out.below hb)
          replace HFb := Lib.hid (HFb.out.below hb)
          replace H4 := Lib.hid ((hb.block _ (lt_of_block H4.out)).trans H4.out)
          clear hb
          generalize (wn19).alloc (.cells #[.int .i64 0, .float .f64 0, .slice none 0 0, .slice none 0 0, .slice none 0 0, .slice none 0 0] 28) = wn20 at *
          refine hK.out _ _ ?_ (fun hHeld => ?_)
          · exact (box6_of HBx.out).2
          clear hK K
          try simp only [Act.put, List.setIfInBounds_toArray, List.set_cons_zero, List.set_cons_succ]
          have hne : (w0).heap.size ≠ (wn19).heap.size := Nat.ne_of_lt HNe.out
          obtain ⟨_, t0, t1, t2, t3, t4, t5⟩ := box6_of H4.out
          have fz4 : ∀ q, (wn20).frozen? ⟨(w0).heap.size, q, none⟩ = false := fun q => Lib.frozen_of_heap H4.out q
          have HSt := Lib.hid (Lent.start HBw.out HTw.out HBx.out H4.out H5.out HL4.out HL5.out hne HUa.out HFb.out)
          have HBx6 := Lib.hid ((six_other (W := wn20) (B := (w0).heap.size) (show w.heap.size ≠ (w0).heap.size from Nat.ne_of_lt HL4.out) (.int .i64 m.seed) (.float .f64 m.fin) (.slice z11 m.nd m.nd) (.slice z12 m.np m.np) (.slice z13 m.nl m.nl) (.slice z14 m.ni m.ni)).trans HBx.out)
          have H56 := Lib.hid ((six_other (W := wn20) (B := (w0).heap.size) (show (wn19).heap.size ≠ (w0).heap.size from hne.symm) (.int .i64 m.seed) (.float .f64 m.fin) (.slice z11 m.nd m.nd) (.slice z12 m.np m.np) (.slice z13 m.nl m.nl) (.slice z14 m.ni m.ni)).trans H5.out)
          clear hne
          refine wpAnyH_ready (rs := [6]) (by kernel_rfl) (by simp) ?_
          refine AllReadyH.cons (o := ⟨_, _, _, _, _, _⟩) rfl (fun K hK => ?_) AllReadyH.nil
          go_simp
          change K _ (six (wn20) (w0).heap.size (.int .i64 m.seed) (.float .f64 m.fin) (.slice z11 m.nd m.nd) (.slice z12 m.np m.np) (.slice z13 m.nl m.nl) (.slice z14 m.ni m.ni))
          generalize six (wn20) (w0).heap.size (.int .i64 m.seed) (.float .f64 m.fin) (.slice z11 m.nd m.nd) (.slice z12 m.np m.np) (.slice z13 m.nl m.nl) (.slice z14 m.ni m.ni) = ws at *
          refine hK.out _ _ ?_ (fun hHeld => ?_)
          · exact (box6_of HBx6.out).2
          clear hK K t0 t1 t2 t3 t4 t5 fz4
          try simp only [Act.put, List.setIfInBounds_toArray, List.set_cons_zero, List.set_cons_succ]
          obtain ⟨_, t0, t1, t2, t3, t4, t5⟩ := box6_of H56.out
          have fz5 : ∀ q, ws.frozen? ⟨(wn19).heap.size, q, none⟩ = false := fun q => Lib.frozen_of_heap H56.out q
          refine wpAnyH_ready (rs := [7]) (by kernel_rfl) (by simp) ?_
          refine AllReadyH.cons (o := ⟨_, _, _, _, _, _⟩) rfl (fun K hK => ?_) AllReadyH.nil
          go_simp
          change K _ (six ws (wn19).heap.size (.int .i64 m.seed) (.float .f64 m.fin) (.slice z31 m.nd m.nd) (.slice z32 m.np m.np) (.slice z33 m.nl m.nl) (.slice z34 m.ni m.ni))
          refine hK.out _ _ ?_ (fun hHeld => ?_)
          · exact (box6_of HSt.out.box).2
          clear hK K
          try simp only [Act.put, List.setIfInBounds_toArray, List.set_cons_zero, List.set_cons_succ]
          refine wpAnyH_done (by kernel_rfl) ?_ _
          exact HCont.out _ _ _ _ _ _ _ _ _ _ _ _ HSt.out
      · go_simp
        have hb := balloc (wn18) (.cells #[.int .i64 0, .float .f64 0, .slice none 0 0, .slice none 0 0, .slice none 0 0, .slice none 0 0] 28)
        have H5 := Lib.hid (heap_alloc_new (wn18) (.cells #[.int .i64 0, .float .f64 0, .slice none 0 0, .slice none 0 0, .slice none 0 0, .slice none 0 0] 28))
        have HL5 := Lib.hid (lt_of_block HBx.out)
        have HNe := Lib.hid (lt_of_block H4.out)
        replace HBw := Lib.hid (bthen HBw.out hb)
        replace HBx := Lib.hid ((hb.block _ (lt_of_block HBx.out)).trans HBx.out)
        replace HFa := Lib.hid (HFa.out.below hb)
        replace H4 := Lib.hid ((hb.block _ (lt_of_block H4.out)).trans H4.out)
        clear hb
        generalize (wn18).alloc (.cells #[.int .i64 0, .float .f64 0, .slice none 0 0, .slice none 0 0, .slice none 0 0, .slice none 0 0] 28) = wn21 at *
        refine hK.out _ _ ?_ (fun hHeld => ?_)
        · exact (box6_of HBx.out).2
        clear hK K
        try simp only [Act.put, List.setIfInBounds_toArray, List.set_cons_zero, List.set_cons_succ]
        refine wpAnyH_ready (rs := [3]) (by kernel_rfl) (by simp) ?_
        refine AllReadyH.cons (o := ⟨_, _, _, _, _, _⟩) rfl (fun K hK => ?_) AllReadyH.nil
        · go_simp
          go_at_call 14
          refine (HCp.out _ HBw.out).mono ?_
          rintro e wn22 ⟨g1, g2, g3, g4, rfl, hn, hb⟩
          obtain ⟨z31, z32, z33, z34, rfl, rfl, rfl, rfl⟩ := newM_forms hn
          have HTw := Lib.hid HBw.out.size
          have HUa := Lib.hid (HFa.out.u.below hb)
          have HFb := Lib.hid hn
          clear HFa
          replace HBw := Lib.hid (bthen HBw.out hb)
          replace HBx := Lib.hid ((hb.block _ (lt_of_block HBx.out)).trans HBx.out)
          replace H4 := Lib.hid ((hb.block _ (lt_of_block H4.out)).trans H4.out)
          replace H5 := Lib.hid ((hb.block _ (lt_of_block H5.out)).trans H5.out)
          clear hn hb
          refine hK.out _ _ ?_ (fun hHeld => ?_)
          · exact (box6_of HBx.out).2
          clear hK K
          try simp only [Act.put, List.setIfInBounds_toArray, List.set_cons_zero, List.set_cons_succ]
          have hne : (w0).heap.size ≠ (wn18).heap.size := Nat.ne_of_lt HNe.out
          obtain ⟨_, t0, t1, t2, t3, t4, t5⟩ := box6_of H4.out
          have fz4 : ∀ q, (wn22).frozen? ⟨(w0).heap.size, q, none⟩ = false := fun q => Lib.frozen_of_heap H4.out q
          have HSt := Lib.hid (Lent.start HBw.out HTw.out HBx.out H4.out H5.out HL4.out HL5.out hne HUa.out HFb.out)
          have HBx6 := Lib.hid ((six_other (W := wn22) (B := (w0).heap.size) (show w.heap.size ≠ (w0).heap.size from Nat.ne_of_lt HL4.out) (.int .i64 m.seed) (.float .f64 m.fin) (.slice z11 m.nd m.nd) (.slice z12 m.np m.np) (.slice z13 m.nl m.nl) (.slice z14 m.ni m.ni)).trans HBx.out)
          have H56 := Lib.hid ((six_other (W := wn22) (B := (w0).heap.size) (show (wn18).heap.size ≠ (w0).heap.size from hne.symm) (.int .i64 m.seed) (.float .f64 m.fin) (.slice z11 m.nd m.nd) (.slice z12 m.np m.np) (.slice z13 m.nl m.nl) (.slice z14 m.ni m.ni)).trans H5.out)
          clear hne
          refine wpAnyH_ready (rs := [6]) (by kernel_rfl) (by simp) ?_
          refine AllReadyH.cons (o := ⟨_, _, _, _, _, _⟩) rfl (fun K hK => ?_) AllReadyH.nil
          go_simp
          change K _ (six (wn22) (w0).heap.size (.int .i64 m.seed) (.float .f64 m.fin) (.slice z11 m.nd m.nd) (.slice z12 m.np m.np) (.slice z13 m.nl m.nl) (.slice z14 m.ni m.ni))
          generalize six (wn22) (w0).heap.size (.int .i64 m.seed) (.float .f64 m.fin) (.slice z11 m.nd m.nd) (.slice z12 m.np m.np) (.slice z13 m.nl m.nl) (.slice z14 m.ni m.ni) = ws at *
          refine hK.out _ _ ?_ (fun hHeld => ?_)
          · exact (box6_of HBx6.out).2
          clear hK K t0 t1 t2 t3 t4 t5 fz4
          try simp only [Act.put, List.setIfInBounds_toArray, List.set_cons_zero, List.set_cons_succ]
          obtain ⟨_, t0, t1, t2, t3, t4, t5⟩ := box6_of H56.out
          have fz5 : ∀ q, ws.frozen? ⟨(wn18).heap.size, q, none⟩ = false := fun q => Lib.frozen_of_heap H56.out q
          refine wpAnyH_ready (rs := [7]) (by kernel_rfl) (by simp) ?_
          refine AllReadyH.cons (o := ⟨_, _, _, _, _, _⟩) rfl (fun K hK => ?_) AllReadyH.nil
          go_simp
          change K _ (six ws (wn18).heap.size (.int .i64 m.seed) (.float .f64 m.fin) (.slice z31 m.nd m.nd) (.slice z32 m.np m.np) (.slice z33 m.nl m.nl) (.slice z34 m.ni m.ni))
          refine hK.out _ _ ?_ (fun hHeld => ?_)
          · exact (box6_of HSt.out.box).2
          clear hK K
          try simp only [Act.put, List.setIfInBounds_toArray, List.set_cons_zero, List.set_cons_succ]
          refine wpAnyH_done (by kernel_rfl) ?_ _
          exact HCont.out _ _ _ _ _ _ _ _ _ _ _ _ HSt.out
    · go_simp
      have hb := balloc (wn17) (.cells #[.int .i64 0, .float .f64 0, .slice none 0 0, .slice none 0 0, .slice none 0 0, .slice none 0 0] 28)
      have H5 := Lib.hid (heap_alloc_new (wn17) (.cells #[.int .i64 0, .float .f64 0, .slice none 0 0, .slice none 0 0, .slice none 0 0, .slice none 0 0] 28))
      have HL5 := Lib.hid (lt_of_block HBx.out)
      have HNe := Lib.hid (lt_of_block H4.out)
      replace HBw := Lib.hid (bthen HBw.out hb)
      replace HBx := Lib.hid ((hb.block _ (lt_of_block HBx.out)).trans HBx.out)
      replace H4 := Lib.hid ((hb.block _ (lt_of_block H4.out)).trans H4.out)
      clear hb
      generalize (wn17).alloc (.cells #[.int .i64 0, .float .f64 0, .slice none 0 0, .slice none 0 0, .slice none 0 0, .slice none 0 0] 28) = wn23 at *
      refine hK.out _ _ ?_ (fun hHeld => ?_)
      · exact (box6_of HBx.out).2
      clear hK K
      try simp only [Act.put, List.setIfInBounds_toArray, List.set_cons_zero, List.set_cons_succ]
      refine wpAnyH_ready (rs := [1]) (by kernel_rfl) (by simp) ?_
      refine AllReadyH.cons (o := ⟨_, _, _, _, _, _⟩) rfl (fun K hK => ?_) AllReadyH.nil
      · go_simp
        go_at_call 14
        refine (HCp.out _ HBw.out).mono ?_
        rintro e wn24 ⟨g1, g2, g3, g4, rfl, hn, hb⟩
        obtain ⟨z11, z12, z13, z14, rfl, rfl, rfl, rfl⟩ := newM_forms hn
        have HFa := Lib.hid hn
        replace HBw := Lib.hid (bthen HBw.out hb)
        replace HBx := Lib.hid ((hb.block _ (lt_of_block HBx.out)).trans HBx.out)
        replace H4 := Lib.hid ((hb.block _ (lt_of_block H4.out)).trans H4.out)
        replace H5 := Lib.hid ((hb.block _ (lt_of_block H5.out)).trans H5.out)
        clear hn hb
        refine hK.out _ _ ?_ (fun hHeld => ?_)
        · exact (box6_of HBx.out).2
        clear hK K
        try simp only [Act.put, List.setIfInBounds_toArray, List.set_cons_zero, List.set_cons_succ]
        refine wpAnyH_ready (rs := [3]) (by kernel_rfl) (by simp) ?_
        refine AllReadyH.cons (o := ⟨_, _, _, _, _, _⟩) rfl (fun K hK => ?_) AllReadyH.nil
        · go_simp
          go_at_call 14
          refine (HCp.out _ HBw.out).mono ?_
          rintro e wn25 ⟨g1, g2, g3, g4, rfl, hn, hb⟩
          obtain ⟨z31, z32, z33, z34, rfl, rfl, rfl, rfl⟩ := newM_forms hn
          have HTw := Lib.hid HBw.out.size
          have HUa := Lib.hid (HFa.out.u.below hb)
          have HFb := Lib.hid hn
          clear HFa
          replace HBw := Lib.hid (bthen HBw.out hb)
          replace HBx := Lib.hid ((hb.block _ (lt_of_block HBx.out)).trans HBx.out)
          replace H4 := Lib.hid ((hb.block _ (lt_of_block H4.out)).trans H4.out)
          replace H5 := Lib.hid ((hb.block _ (lt_of_block H5.out)).trans H5.out)
          clear hn hb
          refine hK.out _ _ ?_ (fun hHeld => ?_)
          · exact (box6_of HBx.out).2
          clear hK K
          try simp only [Act.put, List.setIfInBounds_toArray, List.set_cons_zero, List.set_cons_succ]
          have hne : (w0).heap.size ≠ (wn17).heap.size := Nat.ne_of_lt HNe.out
          obtain ⟨_, t0, t1, t2, t3, t4, t5⟩ := box6_of H4.out
          have fz4 : ∀ q, (wn25).frozen? ⟨(w0).heap.size, q, none⟩ = false := fun q => Lib.frozen_of_heap H4.out q
          have HSt := Lib.hid (Lent.start HBw.out HTw.out HBx.out H4.out H5.out HL4.out HL5.out hne HUa.out HFb.out)
          have HBx6 := Lib.hid ((six_other (W := wn25) (B := (w0).heap.size) (show w.heap.size ≠ (w0).heap.size from Nat.ne_of_lt HL4.out) (.int .i64 m.seed) (.float .f64 m.fin) (.slice z11 m.nd m.nd) (.slice z12 m.np m.np) (.slice z13 m.nl m.nl) (.slice z14 m.ni m.ni)).trans HBx.out)
          have H56 := Lib.hid ((six_other (W := wn25) (B := (w0).heap.size) (show (wn17).heap.size ≠ (w0).heap.size from hne.symm) (.int .i64 m.seed) (.float .f64 m.fin) (.slice z11 m.nd m.nd) (.slice z12 m.np m.np) (.slice z13 m.nl m.nl) (.slice z14 m.ni m.ni)).trans H5.out)
          clear hne
          refine wpAnyH_ready (rs := [6]) (by kernel_rfl) (by simp) ?_
          refine AllReadyH.cons (o := ⟨_, _, _, _, _, _⟩) rfl (fun K hK => ?_) AllReadyH.nil
          go_simp
          change K _ (six (wn25) (w0).heap.size (.int .i64 m.seed) (.float .f64 m.fin) (.slice z11 m.nd m.nd) (.slice z12 m.np m.np) (.slice z13 m.nl m.nl) (.slice z14 m.ni m.ni))
          generalize six (wn25) (w0).heap.size (.int .i64 m.seed) (.float .f64 m.fin) (.slice z11 m.nd m.nd) (.slice z12 m.np m.np) (.slice z13 m.nl m.nl) (.slice z14 m.ni m.ni) = ws at *
          refine hK.out _ _ ?_ (fun hHeld => ?_)
          · exact (box6_of HBx6.out).2
          clear hK K t0 t1 t2 t3 t4 t5 fz4
          try simp only [Act.put, List.setIfInBounds_toArray, List.set_cons_zero, List.set_cons_succ]
          obtain ⟨_, t0, t1, t2, t3, t4, t5⟩ := box6_of H56.out
          have fz5 : ∀ q, ws.frozen? ⟨(wn17).heap.size, q, none⟩ = false := fun q => Lib.frozen_of_heap H56.out q
          refine wpAnyH_ready (rs := [7]) (by kernel_rfl) (by simp) ?_
          refine AllReadyH.cons (o := ⟨_, _, _, _, _, _⟩) rfl (fun K hK => ?_) AllReadyH.nil
          go_simp
          change K _ (six ws (wn17).heap.size (.int .i64 m.seed) (.float .f64 m.fin) (.slice z31 m.nd m.nd) (.slice z32 m.np m.np) (.slice z33 m.nl m.nl) (.slice z34 m.ni m.ni))
          refine hK.out _ _ ?_ (fun hHeld => ?_)
          · exact (box6_of HSt.out.box).2
          clear hK K
          try simp only [Act.put, List.setIfInBounds_toArray, List.set_cons_zero, List.set_cons_succ]
          refine wpAnyH_done (by kernel_rfl) ?_ _
          exact HCont.out _ _ _ _ _ _ _ _ _ _ _ _ HSt.out
  · go_simp
    have hb := balloc (w0) (.cells #[.int .i64 0, .float .f64 0, .slice none 0 0, .slice none 0 0, .slice none 0 0, .slice none 0 0] 28)
    have H5 := Lib.hid (heap_alloc_new (w0) (.cells #[.int .i64 0, .float .f64 0, .slice none 0 0, .slice none 0 0, .slice none 0 0, .slice none 0 0] 28))
    have HL5 := Lib.hid (lt_of_block HBx.out)
    replace HBw := Lib.hid (bthen HBw.out hb)
    replace HBx := Lib.hid ((hb.block _ (lt_of_block HBx.out)).trans HBx.out)
    clear hb
    generalize (w0).alloc (.cells #[.int .i64 0, .float .f64 0, .slice none 0 0, .slice none 0 0, .slice none 0 0, .slice none 0 0] 28) = wn26 at *
    refine hK.out _ _ ?_ (fun hHeld => ?_)
    · exact (box6_of HBx.out).2
    clear hK K
    try simp only [Act.put, List.setIfInBounds_toArray, List.set_cons_zero, List.set_cons_succ]
    refine wpAnyH_ready (rs := [1, 4]) (by kernel_rfl) (by simp) ?_
    refine AllReadyH.cons (o := ⟨_, _, _, _, _, _⟩) rfl (fun K hK => ?_) (AllReadyH.cons (o := ⟨_, _, _, _, _, _⟩) rfl (fun K hK => ?_) AllReadyH.nil)
    · go_simp
      go_at_call 14
      refine (HCp.out _ HBw.out).mono ?_
      rintro e wn27 ⟨g1, g2, g3, g4, rfl, hn, hb⟩
      obtain ⟨z11, z12, z13, z14, rfl, rfl, rfl, rfl⟩ := newM_forms hn
      have HFa := Lib.hid hn
      replace HBw := Lib.hid (bthen HBw.out hb)
      replace HBx := Lib.hid ((hb.block _ (lt_of_block HBx.out)).trans HBx.out)
      replace H5 := Lib.hid ((hb.block _ (lt_of_block H5.out)).trans H5.out)
      clear hn hb
      refine hK.out _ _ ?_ (fun hHeld => ?_)
      · exact (box6_of HBx.out).2
      clear hK K
      try simp only [Act.put, List.setIfInBounds_toArray, List.set_cons_zero, List.set_cons_succ]
      refine wpAnyH_ready (rs := [3, 4]) (by kernel_rfl) (by simp) ?_
      refine AllReadyH.cons (o := ⟨_, _, _, _, _, _⟩) rfl (fun K hK => ?_) (AllReadyH.cons (o := ⟨_, _, _, _, _, _⟩) rfl (fun K hK => ?_) AllReadyH.nil)
      · go_simp
        go_at_call 14
        refine (HCp.out _ HBw.out).mono ?_
        rintro e wn28 ⟨g1, g2, g3, g4, rfl, hn, hb⟩
        obtain ⟨z31, z32, z33, z34, rfl, rfl, rfl, rfl⟩ := newM_forms hn
        have HTw := Lib.hid HBw.out.size
        have HUa := Lib.hid (HFa.out.u.below hb)
        have HFb := Lib.hid hn
        clear HFa
        replace HBw := Lib.hid (bthen HBw.out hb)
        replace HBx := Lib.hid ((hb.block _ (lt_of_block HBx.out)).trans HBx.out)
        replace H5 := Lib.hid ((hb.block _ (lt_of_block H5.out)).trans H5.out)
        clear hn hb
        refine hK.out _ _ ?_ (fun hHeld => ?_)
        · exact (box6_of HBx.out).2
        clear hK K
        try simp only [Act.put, List.setIfInBounds_toArray, List.set_cons_zero, List.set_cons_succ]
        refine wpAnyH_ready (rs := [4]) (by kernel_rfl) (by simp) ?_
        refine AllReadyH.cons (o := ⟨_, _, _, _, _, _⟩) rfl (fun K hK => ?_) AllReadyH.nil
        · go_simp
          have hb := balloc (wn28) (.cells #[.int .i64 0, .float .f64 0, .slice none 0 0, .slice none 0 0, .slice none 0 0, .slice none 0 0] 28)
          have H4 := Lib.hid (heap_alloc_new (wn28) (.cells #[.int .i64 0, .float .f64 0, .slice none 0 0, .slice none 0 0, .slice none 0 0, .slice none 0 0] 28))
          have HL4 := Lib.hid (lt_of_block HBx.out)
          have HNe := Lib.hid (lt_of_block H5.out)
          replace HBw := Lib.hid (bthen HBw.out hb)
          replace HBx := Lib.hid ((hb.block _ (lt_of_block HBx.out)).trans HBx.out)
          replace HUa := Lib.hid (HUa.out.below hb)
          replace HFb := Lib.hid (HFb.out.below hb)
          replace H5 := Lib.hid ((hb.block _ (lt_of_block H5.out)).trans H5.out)
          clear hb
          generalize (wn28).alloc (.cells #[.int .i64 0, .float .f64 0, .slice none 0 0, .slice none 0 0, .slice none 0 0, .slice none 0 0] 28) = wn29 at *
          refine hK.out _ _ ?_ (fun hHeld => ?_)
          · exact (box6_of HBx.out).2
          clear hK K
          try simp only [Act.put, List.setIfInBounds_toArray, List.set_cons_zero, List.set_cons_succ]
          have hne : (wn28).heap.size ≠ (w0).heap.size := (Nat.ne_of_lt HNe.out).symm
          obtain ⟨_, t0, t1, t2, t3, t4, t5⟩ := box6_of H4.out
          have fz4 : ∀ q, (wn29).frozen? ⟨(wn28).heap.size, q, none⟩ = false := fun q => Lib.frozen_of_heap H4.out q
          have HSt := Lib.hid (Lent.start HBw.out HTw.out HBx.out H4.out H5.out HL4.out HL5.out hne HUa.out HFb.out)
          have HBx6 := Lib.hid ((six_other (W := wn29) (B := (wn28).heap.size) (show w.heap.size ≠ (wn28).heap.size from Nat.ne_of_lt HL4.out) (.int .i64 m.seed) (.float .f64 m.fin) (.slice z11 m.nd m.nd) (.slice z12 m.np m.np) (.slice z13 m.nl m.nl) (.slice z14 m.ni m.ni)).trans HBx.out)
          have H56 := Lib.hid ((six_other (W := wn29) (B := (wn28).heap.size) (show (w0).heap.size ≠ (wn28).heap.size from hne.symm) (.int .i64 m.seed) (.float .f64 m.fin) (.slice z11 m.nd m.nd) (.slice z12 m.np m.np) (.slice z13 m.nl m.nl) (.slice z14 m.ni m.ni)).trans H5.out)
          clear hne
          refine wpAnyH_ready (rs := [6]) (by kernel_rfl) (by simp) ?_
          refine AllReadyH.cons (o := ⟨_, _, _, _, _, _⟩) rfl (fun K hK => ?_) AllReadyH.nil
          go_simp
          change K _ (six (wn29) (wn28).heap.size (.int .i64 m.seed) (.float .f64 m.fin) (.slice z11 m.nd m.nd) (.slice z12 m.np m.np) (.slice z13 m.nl m.nl) (.slice z14 m.ni m.ni))
          generalize six (wn29) (wn28).heap.size (.int .i64 m.seed) (.float .f64 m.fin) (.slice z11 m.nd m.nd) (.slice z12 m.np m.np) (.slice z13 m.nl m.nl) (.slice z14 m.ni m.ni) = ws at *
          refine hK.out _ _ ?_ (fun hHeld => ?_)
          · exact (box6_of HBx6.out).2
          clear hK K t0 t1 t2 t3 t4 t5 fz4
          try simp only [Act.put, List.setIfInBounds_toArray, List.set_cons_zero, List.set_cons_succ]
          obtain ⟨_, t0, t1, t2, t3, t4, t5⟩ := box6_of H56.out
          have fz5 : ∀ q, ws.frozen? ⟨(w0).heap.size, q, none⟩ = false := fun q => Lib.frozen_of_heap H56.out q
          refine wpAnyH_ready (rs := [7]) (by kernel_rfl) (by simp) ?_
          refine AllReadyH.cons (o := ⟨_, _, _, _, _, _⟩) rfl (fun K hK => ?_) AllReadyH.nil
          go_simp
          change K _ (six ws (w0).heap.size (.int .i64 m.seed) (.float .f64 m.fin) (.slice z31 m.nd m.nd) (.slice z32 m.np m.np) (.slice z33 m.nl m.nl) (.slice z34 m.ni m.ni))
          refine hK.out _ _ ?_ (fun hHeld => ?_)
          · exact (box6_of HSt.out.box).2
          clear hK K
          try simp only [Act.put, List.setIfInBounds_toArray, List.set_cons_zero, List.set_cons_succ]
          refine wpAnyH_done (by kernel_rfl) ?_ _
          exact HCont.out _ _ _ _ _ _ _ _ _ _ _ _ HSt.out
      · go_simp
        have hb := balloc (wn27) (.cells #[.int .i64 0, .float .f64 0, .slice none 0 0, .slice none 0 0, .slice none 0 0, .slice none 0 0] 28)
        have H4 := Lib.hid (heap_alloc_new (wn27) (.cells #[.int .i64 0, .float .f64 0, .slice none 0 0, .slice none 0 0, .slice none 0 0, .slice none 0 0] 28))
        have HL4 := Lib.hid (lt_of_block HBx.out)
        have HNe := Lib.hid (lt_of_block H5.out)
        replace HBw := Lib.hid (bthen HBw.out hb)
        replace HBx := Lib.hid ((hb.block _ (lt_of_block HBx.out)).trans HBx.out)
        replace HFa := Lib.hid (HFa.out.below hb)
        replace H5 := Lib.hid ((hb.block _ (lt_of_block H5.out)).trans H5.out)
        clear hb
        generalize (wn27).alloc (.cells #[.int .i64 0, .float .f64 0, .slice none 0 0, .slice none 0 0, .slice none 0 0, .slice none 0 0] 28) = wn30 at *
        refine hK.out _ _ ?_ (fun hHeld => ?_)
        · exact (box6_of HBx.out).2
        clear hK K
        try simp only [Act.put, List.setIfInBounds_toArray, List.set_cons_zero, List.set_cons_succ]
        refine wpAnyH_ready (rs := [3]) (by kernel_rfl) (by simp) ?_
        refine AllReadyH.cons (o := ⟨_, _, _, _, _, _⟩) rfl (fun K hK => ?_) AllReadyH.nil
        · go_simp
          go_at_call 14
          refine (HCp.out _ HBw.out).mono ?_
          rintro e wn31 ⟨g1, g2, g3, g4, rfl, hn, hb⟩
          obtain ⟨z31, z32, z33, z34, rfl, rfl, rfl, rfl⟩ := newM_forms hn
          have HTw := Lib.hid HBw.out.size
          have HUa := Lib.hid (HFa.out.u.below hb)
          have HFb := Lib.hid hn
          clear HFa
          replace HBw := Lib.hid (bthen HBw.out hb)
          replace HBx := Lib.hid ((hb.block _ (lt_of_block HBx.out)).trans HBx.out)
          replace H4 := Lib.hid ((hb.block _ (lt_of_block H4.out)).trans H4.out)
          replace H5 := Lib.hid ((hb.block _ (lt_of_block H5.out)).trans H5.out)
          clear hn hb
          refine hK.out _ _ ?_ (fun hHeld => ?_)
          · exact (box6_of HBx.out).2
          clear hK K
          try simp only [Act.put, List.setIfInBounds_toArray, List.set_cons_zero, List.set_cons_succ]
          have hne : (wn27).heap.size ≠ (w0).heap.size := (Nat.ne_of_lt HNe.out).symm
          obtain ⟨_, t0, t1, t2, t3, t4, t5⟩ := box6_of H4.out
          have fz4 : ∀ q, (wn31).frozen? ⟨(wn27).heap.size, q, none⟩ = false := fun q => Lib.frozen_of_heap H4.out q
          have HSt := Lib.hid (Lent.start HBw.out HTw.out HBx.out H4.out H5.out HL4.out HL5.out hne HUa.out HFb.out)
          have HBx6 := Lib.hid ((six_other (W := wn31) (B := (wn27).heap.size) (show w.heap.size ≠ (wn27).heap.size from Nat.ne_of_lt HL4.out) (.int .i64 m.seed) (.float .f64 m.fin) (.slice z11 m.nd m.nd) (.slice z12 m.np m.np) (.slice z13 m.nl m.nl) (.slice z14 m.ni m.ni)).trans HBx.out)
          have H56 := Lib.hid ((six_other (W := wn31) (B := (wn27).heap.size) (show (w0).heap.size ≠ (wn27).heap.size from hne.symm) (.int .i64 m.seed) (.float .f64 m.fin) (.slice z11 m.nd m.nd) (.slice z12 m.np m.np) (.slice z13 m.nl m.nl) (.slice z14 m.ni m.ni)).trans H5.out)
          clear hne
          refine wpAnyH_ready (rs := [6]) (by kernel_rfl) (by simp) ?_
          refine AllReadyH.cons (o := ⟨_, _, _, _, _, _⟩) rfl (fun K hK => ?_) AllReadyH.nil
          go_simp
          change K _ (six (wn31) (wn27).heap.size (.int .i64 m.seed) (.float .f64 m.fin) (.slice z11 m.nd m.nd) (.slice z12 m.np m.np) (.slice z13 m.nl m.nl) (.slice z14 m.ni m.ni))
          generalize six (wn31) (wn27).heap.size (.int .i64 m.seed) (.float .f64 m.fin) (.slice z11 m.nd m.nd) (.slice z12 m.np m.np) (.slice z13 m.nl m.nl) (.slice z14 m.ni m.ni) = ws at *
          refine hK.out _ _ ?_ (fun hHeld => ?_)
          · exact (box6_of HBx6.out).2
          clear hK K t0 t1 t2 t3 t4 t5 fz4
          try simp only [Act.put, List.setIfInBounds_toArray, List.set_cons_zero, List.set_cons_succ]
          obtain ⟨_, t0, t1, t2, t3, t4, t5⟩ := box6_of H56.out
          have fz5 : ∀ q, ws.frozen? ⟨(w0).heap.size, q, none⟩ = false := fun q => Lib.frozen_of_heap H56.out q
          refine wpAnyH_ready (rs := [7]) (by kernel_rfl) (by simp) ?_
          refine AllReadyH.cons (o := ⟨_, _, _, _, _, _⟩) rfl (fun K hK => ?_) AllReadyH.nil
          go_simp
          change K _ (six ws (w0).heap.size (.int .i64 m.seed) (.float .f64 m.fin) (.slice z31 m.nd m.nd) (.slice z32 m.np m.np) (.slice z33 m.nl m.nl) (.slice z34 m.ni m.ni))
          refine hK.out _ _ ?_ (fun hHeld => ?_)
          · exact (box6_of HSt.out.box).2
          clear hK K
          try simp only [Act.put, List.setIfInBounds_toArray, List.set_cons_zero, List.set_cons_succ]
          refine wpAnyH_done (by kernel_rfl) ?_ _
          exact HCont.out _ _ _ _ _ _ _ _ _ _ _ _ HSt.out
    · go_simp
      have hb := balloc (wn26) (.cells #[.int .i64 0, .float .f64 0, .slice none 0 0, .slice none 0 0, .slice none 0 0, .slice none 0 0] 28)
      have H4 := Lib.hid (heap_alloc_new (wn26) (.cells #[.int .i64 0, .float .f64 0, .slice none 0 0, .slice none 0 0, .slice none 0 0, .slice none 0 0] 28))
      have HL4 := Lib.hid (lt_of_block HBx.out)
      have HNe := Lib.hid (lt_of_block H5.out)
      replace HBw := Lib.hid (bthen HBw.out hb)
      replace HBx := Lib.hid ((hb.block _ (lt_of_block HBx.out)).trans HBx.out)
      replace H5 := Lib.hid ((hb.block _ (lt_of_block H5.out)).trans H5.out)
      clear hb
      generalize (wn26).alloc (.cells #[.int .i64 0, .float .f64 0, .slice none 0 0, .slice none 0 0, .slice none 0 0, .slice none 0 0] 28) = wn32 at *
      refine hK.out _ _ ?_ (fun hHeld => ?_)
      · exact (box6_of HBx.out).2
      clear hK K
      try simp only [Act.put, List.setIfInBounds_toArray, List.set_cons_zero, List.set_cons_succ]
      refine wpAnyH_ready (rs := [1]) (by kernel_rfl) (by simp) ?_
      refine AllReadyH.cons (o := ⟨_, _, _, _, _, _⟩) rfl (fun K hK => ?_) AllReadyH.nil
      · go_simp
        go_at_call 14
        refine (HCp.out _ HBw.out).mono ?_
        rintro e wn33 ⟨g1, g2, g3, g4, rfl, hn, hb⟩
        obtain ⟨z11, z12, z13, z14, rfl, rfl, rfl, rfl⟩ := newM_forms hn
        have HFa := Lib.hid hn
        replace HBw := Lib.hid (bthen HBw.out hb)
        replace HBx := Lib.hid ((hb.block _ (lt_of_block HBx.out)).trans HBx.out)
        replace H4 := Lib.hid ((hb.block _ (lt_of_block H4.out)).trans H4.out)
        replace H5 := Lib.hid ((hb.block _ (lt_of_block H5.out)).trans H5.out)
        clear hn hb
        refine hK.out _ _ ?_ (fun hHeld => ?_)
        · exact (box6_of HBx.out).2
        clear hK K
        try simp only [Act.put, List.setIfInBounds_toArray, List.set_cons_zero, List.set_cons_succ]
        refine wpAnyH_ready (rs := [3]) (by kernel_rfl) (by simp) ?_
        refine AllReadyH.cons (o := ⟨_, _, _, _, _, _⟩) rfl (fun K hK => ?_) AllReadyH.nil
        · go_simp
          go_at_call 14
          refine (HCp.out _ HBw.out).mono ?_
          rintro e wn34 ⟨g1, g2, g3, g4, rfl, hn, hb⟩
          obtain ⟨z31, z32, z33, z34, rfl, rfl, rfl, rfl⟩ := newM_forms hn
          have HTw := Lib.hid HBw.out.size
          have HUa := Lib.hid (HFa.out.u.below hb)
          have HFb := Lib.hid hn
          clear HFa
          replace HBw := Lib.hid (bthen HBw.out hb)
          replace HBx := Lib.hid ((hb.block _ (lt_of_block HBx.out)).trans HBx.out)
          replace H4 := Lib.hid ((hb.block _ (lt_of_block H4.out)).trans H4.out)
          replace H5 := Lib.hid ((hb.block _ (lt_of_block H5.out)).trans H5.out)
          clear hn hb
          refine hK.out _ _ ?_ (fun hHeld => ?_)
          · exact (box6_of HBx.out).2
          clear hK K
          try simp only [Act.put, List.setIfInBounds_toArray, List.set_cons_zero, List.set_cons_succ]
          have hne : (wn26).heap.size ≠ (w0).heap.size := (Nat.ne_of_lt HNe.out).symm
          obtain ⟨_, t0, t1, t2, t3, t4, t5⟩ := box6_of H4.out
          have fz4 : ∀ q, (wn34).frozen? ⟨(wn26).heap.size, q, none⟩ = false := fun q => Lib.frozen_of_heap H4.out q
          have HSt := Lib.hid (Lent.start HBw.out HTw.out HBx.out H4.out H5.out HL4.out HL5.out hne HUa.out HFb.out)
          have HBx6 := Lib.hid ((six_other (W := wn34) (B := (wn26).heap.size) (show w.heap.size ≠ (wn26).heap.size from Nat.ne_of_lt HL4.out) (.int .i64 m.seed) (.float .f64 m.fin) (.slice z11 m.nd m.nd) (.slice z12 m.np m.np) (.slice z13 m.nl m.nl) (.slice z14 m.ni m.ni)).trans HBx.out)
          have H56 := Lib.hid ((six_other (W := wn34) (B := (wn26).heap.size) (show (w0).heap.size ≠ (wn26).heap.size from hne.symm) (.int .i64 m.seed) (.float .f64 m.fin) (.slice z11 m.nd m.nd) (.slice z12 m.np m.np) (.slice z13 m.nl m.nl) (.slice z14 m.ni m.ni)).trans H5.out)
          clear hne
          refine wpAnyH_ready (rs := [6]) (by kernel_rfl) (by simp) ?_
          refine AllReadyH.cons (o := ⟨_, _, _, _, _, _⟩) rfl (fun K hK => ?_) AllReadyH.nil
          go_simp
          change K _ (six (wn34) (wn26).heap.size (.int .i64 m.seed) (.float .f64 m.fin) (.slice z11 m.nd m.nd) (.slice z12 m.np m.np) (.slice z13 m.nl m.nl) (.slice z14 m.ni m.ni))
          generalize six (wn34) (wn26).heap.size (.int .i64 m.seed) (.float .f64 m.fin) (.slice z11 m.nd m.nd) (.slice z12 m.np m.np) (.slice z13 m.nl m.nl) (.slice z14 m.ni m.ni) = ws at *
          refine hK.out _ _ ?_ (fun hHeld => ?_)
          · exact (box6_of HBx6.out).2
          clear hK K t0 t1 t2 t3 t4 t5 fz4
          try simp only [Act.put, List.setIfInBounds_toArray, List.set_cons_zero, List.set_cons_succ]
          obtain ⟨_, t0, t1, t2, t3, t4, t5⟩ := box6_of H56.out
          have fz5 : ∀ q, ws.frozen? ⟨(w0).heap.size, q, none⟩ = false := fun q => Lib.frozen_of_heap H56.out q
          refine wpAnyH_ready (rs := [7]) (by kernel_rfl) (by simp) ?_
          refine AllReadyH.cons (o := ⟨_, _, _, _, _, _⟩) rfl (fun K hK => ?_) AllReadyH.nil
          go_simp
          change K _ (six ws (w0).heap.size (.int .i64 m.seed) (.float .f64 m.fin) (.slice z31 m.nd m.nd) (.slice z32 m.np m.np) (.slice z33 m.nl m.nl) (.slice z34 m.ni m.ni))
          refine hK.out _ _ ?_ (fun hHeld => ?_)
          · exact (box6_of HSt.out.box).2
          clear hK K
          try simp only [Act.put, List.setIfInBounds_toArray, List.set_cons_zero, List.set_cons_succ]
          refine wpAnyH_done (by kernel_rfl) ?_ _
          exact HCont.out _ _ _ _ _ _ _ _ _ _ _ _ HSt.out

set_option maxHeartbeats 1600000 in
theorem modelLent_heavy (seed : Int) (fin : Nat) (vd vp vl vi : Value) (w : World)
    (HL : Hid (∀ w2, Below w.heap.size w w2 → Calls Try.prog 9 #[.agg #[.int .i64 seed, .float .f64 fin, vd, vp, vl, vi]] w2 fun e w' => e = .returned (.bool false) ∧ Below w2.heap.size w2 w')) :
    Calls Try.prog 7 #[.agg #[.int .i64 seed, .float .f64 fin, vd, vp, vl, vi]] w fun e w' => e = .returned (.bool true) ∧ Below w.heap.size w w' := by
  have HA := Lib.hid (balloc w (.cells #[.int .i64 seed, .float .f64 fin, vd, vp, vl, vi] 28))
  go_enter Try.func7, Try.ntmps7
  go_wp2_with fail
  refine (HL.out _ HA.out).mono ?_
  rintro e w1 ⟨rfl, hb1⟩
  have HB1 := Lib.hid (bthen HA.out hb1)
  clear hb1
  go_wp2_with fail
  refine (awake5_any _).mono ?_
  rintro e w2 ⟨rfl, hb2⟩
  go_wp2_with fail
  go_ret
  exact ⟨rfl, bthen HB1.out hb2⟩

theorem modelLent_mdl (m : Mdl) (vd vp vl vi : Value) (w : World) (h : MdlAt m vd vp vl vi w) :
    Calls Try.prog 7 #[mval m vd vp vl vi] w fun e w' => e = .returned (.bool true) ∧ Below w.heap.size w w' := by
  by_cases hm : lightB m = true
  · have s := small_of_light hm
    exact modelLent_core m vd vp vl vi w s.d s.p s.l s.i s.pl s.wl (fun w2 k => by have := light_any m vd vp vl vi w2 (h.below k); rw [hm] at this; exact this)
      (fun w2 k => copy_any m s vd vp vl vi w2 (h.below k))
      (fun a b c d top W q k => by have := refSame_any m m a b c d vd vp vl vi W (q.mdl s) (h.below k); rw [sameB_refl] at this; exact this)
  · have hf : lightB m = false := by simpa using hm
    exact modelLent_heavy m.seed m.fin vd vp vl vi w (fun w2 k => by have := light_any m vd vp vl vi w2 (h.below k); rw [hf] at this; exact this)

end Go.Proofs.Ytebopfcealhiaaa
