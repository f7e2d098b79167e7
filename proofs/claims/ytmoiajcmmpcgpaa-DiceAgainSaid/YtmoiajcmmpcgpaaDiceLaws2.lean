/- The walk of the law DiceNext. -/
import Derived.Test.YtmoiajcmmpcgpaaDiceLaws1
import Derived.Deep.RegionHeld3
namespace Go.Proofs.Ytmoiajcmmpcgpaa
open Go.RowKit

set_option maxHeartbeats 1600000 in
theorem diceNext_core (s p c n z : Int) (l : Nat → Int) (so : Option Addr) (bl o len cap : Nat) (w : World) (a : Nat)
    (hso : 0 < len → so = some ⟨bl, o, none⟩) (hbl : 0 < len → bl < w.heap.size) (hcell : ∀ i, i < len → w.cell? ⟨bl, o + i, none⟩ = some (.int .i64 (l i))) (hl : ∀ i, i < len → l i ≤ 9223372036854775807) (hlen : len ≤ 9223372036854775807)
    (H1 : Hid (∀ w, Calls Try.prog 16 #[.int .i64 s, .int .i64 p, .int .i64 c] w fun e w' => e = .returned (.pointer (some ⟨w.heap.size, 0, none⟩)) ∧ w' = w.alloc (.cells #[.int .u64 a, .int .i64 c] 47)))
    (H2 : Hid (∀ k w, Calls Try.prog 13 #[.int .i64 s, .int .i64 p, .int .i64 k] w fun e w' => e = .returned (.int .u64 (behindN a k)) ∧ w = w')) :
    Calls Try.prog 4 #[.agg #[.int .i64 s, .int .i64 p, .int .i64 c, .int .i64 n, .int .u64 z, .slice so len cap]] w fun e w' => e = .returned (.bool true) ∧ Below w.heap.size w w' := by
  have HC := Lib.hid (@count_any)
  have HP := Lib.hid (@next_pos)
  have HB5 := Lib.hid (@refBelow_any)
  have HS := Lib.hid hso
  have HL := Lib.hid hl
  have HCell := Lib.hid hcell
  have HBl := Lib.hid hbl
  clear hso hl hcell hbl
  go_enter Try.func4, Try.ntmps4
  go_wp2_with fail
  go_quiet (fail)
  have HB := Lib.hid (bdrewN (balloc w (.cells #[.int .i64 s, .int .i64 p, .int .i64 c, .int .i64 n, .int .u64 z, .slice so len cap] 25)) nq)
  generalize (w.alloc (.cells #[.int .i64 s, .int .i64 p, .int .i64 c, .int .i64 n, .int .u64 z, .slice so len cap] 25)).drewN nq = W at HB ⊢
  go_wp2_with fail
  refine (H1.out _).mono ?_
  rintro e w1 ⟨rfl, rfl⟩
  have HD := Lib.hid (diceAt_new a c W)
  have HB1 := Lib.hid (bthen HB.out (balloc W (.cells #[.int .u64 a, .int .i64 c] 47)))
  have HN : Hid (w.heap.size ≤ W.heap.size) := HB.out.size
  generalize W.alloc (.cells #[.int .u64 a, .int .i64 c] 47) = W1 at HD HB1 ⊢
  generalize W.heap.size = b at HD HN ⊢
  clear HB
  go_wp2_with fail
  refine (awake4_any _).mono ?_
  rintro e w2 ⟨rfl, hb2⟩
  have HD2 := Lib.hid (diceAt_below HD.out hb2)
  have HB2 := Lib.hid (bthen HB1.out hb2)
  clear HD HB1 hb2
  go_wp2_with fail
  go_loopw [8, 9] (fun k i wr => ∃ (j : Nat) (kk : Int), j ≤ len ∧ j ≤ 60 ∧ i = .int .i64 j ∧ k = .int .i64 kk ∧ DiceAt a kk b wr ∧ Below w.heap.size w wr) (fun _ i _ => 60 - (intOf i).toNat)
  case atStart => exact ⟨0, c, by omega, by omega, rfl, rfl, HD2.out, HB2.out⟩
  case round =>
    obtain ⟨j, kk, hj, hj6, rfl, rfl, hd, hbe⟩ := hrel
    have HD3 := Lib.hid hd
    have HB3 := Lib.hid hbe
    clear hd hbe HD2 HB2
    by_cases h1 : j < len
    · obtain rfl := HS.out (by omega)
      by_cases h2 : j < 60
      · have hc : wr.cell? ⟨bl, o + j, none⟩ = some (.int .i64 (l j)) := by rw [HB3.out.cell (p := ⟨bl, o + j, none⟩) (HBl.out (by omega))]; exact HCell.out j h1
        by_cases h3 : l j < 1
        · have HX := Lib.hid (next_low (some ⟨b, 0, none⟩) (l j) h3)
          go_wp2_with (go_at_call 17; refine (HX.out _).mono ?_; rintro e w' ⟨rfl, rfl⟩)
          go_roundw
          case rel => exact ⟨j + 1, kk, by omega, by omega, by go_num, rfl, HD3.out, HB3.out⟩
          case measure => simp [intOf]; omega
        · have hlj := HL.out j h1
          have HX := Lib.hid (HP.out a kk (l j) b (by omega) hlj wr HD3.out)
          have HY := Lib.hid (HB5.out (behindN a kk) (l j) (behindN_lt _ _) hlj)
          have HD4 := Lib.hid (diceAt_set HD3.out (wrap64 (kk + 1)))
          have HB4 := Lib.hid (HB3.out.setCell (p := ⟨b, 1, none⟩) HN.out (.int .i64 (wrap64 (kk + 1))))
          have hc2 : (wr.setCell ⟨b, 1, none⟩ (.int .i64 (wrap64 (kk + 1)))).cell? ⟨bl, o + j, none⟩ = some (.int .i64 (l j)) := by rw [HB4.out.cell (p := ⟨bl, o + j, none⟩) (HBl.out (by omega))]; exact HCell.out j h1
          have HR := Lib.hid (H2.out kk)
          have hj2 : (j : Int) < (len : Int) := by omega
          generalize wr.setCell ⟨b, 1, none⟩ (.int .i64 (wrap64 (kk + 1))) = W4 at HX HD4 HB4 hc2
          generalize belowN (behindN a kk) (l j) = y at HX HY
          generalize behindN a kk = q at HY HR
          go_wp2_with (go_at_call 17; refine HX.out.mono ?_; rintro e w' ⟨rfl, rfl⟩)
          go_region_held3 (fun w' => w'.cell? ⟨bl, o + j, none⟩ = some (.int .i64 (l j))) (go_keep) (first
            | (go_at_call 13; refine (HR.out _).mono ?_; rintro e w9 ⟨rfl, rfl⟩)
            | (go_at_call 15; refine (HY.out _).mono ?_; rintro e w9 ⟨rfl, rfl⟩))
          go_wp2_with fail
          go_roundw
          case rel => exact ⟨j + 1, wrap64 (kk + 1), by omega, by omega, by go_num, rfl, diceAt_drew HD4.out, HB4.out.drew⟩
          case measure => simp [intOf]; omega
      · go_wp2_with fail
        refine (HC.out _ _ _ _ HD3.out).mono ?_
        rintro e w1 ⟨rfl, rfl⟩
        go_wp2_with fail
        go_ret
        exact ⟨by simp, HB3.out⟩
    · go_wp2_with fail
      refine (HC.out _ _ _ _ HD3.out).mono ?_
      rintro e w1 ⟨rfl, rfl⟩
      go_wp2_with fail
      go_ret
      exact ⟨by simp, HB3.out⟩

theorem addr_plain4 {w : World} {x : Addr} {u : Value} (h : w.cell? (x.add 0) = some u) : x = ⟨x.block, x.off, none⟩ := by
  obtain ⟨b, off, spot⟩ := x
  have hspot : spot = none := by simpa [Addr.add] using World.cell?_spot h
  subst hspot
  rfl
theorem cell_lt4 {w : World} {b o : Nat} {u : Value} (h : w.cell? ⟨b, o, none⟩ = some u) : b < w.heap.size := by
  rcases Nat.lt_or_ge b w.heap.size with h' | h'
  · exact h'
  · simp [World.cell?, Array.getElem?_eq_none h'] at h

theorem diceNext_walk (a b c n z : Int) (sa : Option Addr) (len cap : Nat) (zs : List Int) (w : World) (_ha : (Lit.int .i64 a).wf = true) (_hb : (Lit.int .i64 b).wf = true) (_hc : (Lit.int .i64 c).wf = true) (_hn : (Lit.int .i64 n).wf = true) (_hz : (Lit.int .u64 z).wf = true) (hs : IsRow .i64 w sa len cap zs) :
    Calls Try.prog 4 #[.agg #[.int .i64 a, .int .i64 b, .int .i64 c, .int .i64 n, .int .u64 z, .slice sa len cap]] w fun e w' => e = .returned (.bool true) ∧ Below w.heap.size w w' := by
  by_cases hz : len = 0
  · subst hz
    exact diceNext_core a b c n z (fun _ => 0) sa 0 0 0 cap w (wordN a b) (fun h => absurd h (by omega)) (fun h => absurd h (by omega)) (fun i hi => absurd hi (by omega)) (fun i hi => absurd hi (by omega)) (by omega) (new_any a b c) (fun k w => refRoll_any a b k w)
  rcases hs with ⟨_, h0, _⟩ | ⟨x, rfl, hl, hm, hzs, hcell, hwf⟩
  · exact absurd h0 hz
  have h0 := hcell 0 (by omega)
  have hx := addr_plain4 h0
  generalize x.block = bl at hx
  generalize x.off = o at hx
  subst hx
  unfold maxLen at hm
  refine diceNext_core a b c n z (fun i => zs.getD i 0) _ bl o len cap w (wordN a b) (fun _ => rfl) (fun _ => ?_) (fun i hi => ?_) (fun i hi => ?_) (by omega) (new_any a b c) (fun k w => refRoll_any a b k w)
  · rw [add_plain] at h0; exact cell_lt4 h0
  · have := hcell i (by omega); rw [add_plain] at this; exact this
  · have hi2 : i < zs.length := by omega
    have e : zs.getD i 0 = zs[i] := by simp [List.getD, hi2]
    show zs.getD i 0 ≤ _
    rw [e]
    exact (i64_bd (hwf _ (List.getElem_mem hi2))).2

end Go.Proofs.Ytmoiajcmmpcgpaa
