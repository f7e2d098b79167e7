/- The walk of the law DiceAgain. -/
import Derived.Test.YtmoiajcmmpcgpaaDiceLaws2
namespace Go.Proofs.Ytmoiajcmmpcgpaa
open Go.RowKit

theorem wrap_next (c : Int) (j : Nat) : wrap64 (wrap64 (c + (j : Int)) + 1) = wrap64 (c + ((j + 1 : Nat) : Int)) := by
  unfold wrap64; omega
theorem wrap_zero (c : Int) (hc : -9223372036854775808 ≤ c ∧ c ≤ 9223372036854775807) : wrap64 (c + ((0 : Nat) : Int)) = c := by
  unfold wrap64; omega

set_option maxHeartbeats 1600000 in
theorem diceAgain_core (s p c n z : Int) (sl : Value) (w : World) (a : Nat)
    (hc : -9223372036854775808 ≤ c ∧ c ≤ 9223372036854775807) (hn : n ≤ 9223372036854775807)
    (H1 : Hid (∀ c w, Calls Try.prog 16 #[.int .i64 s, .int .i64 p, .int .i64 c] w fun e w' => e = .returned (.pointer (some ⟨w.heap.size, 0, none⟩)) ∧ w' = w.alloc (.cells #[.int .u64 a, .int .i64 c] 47))) :
    Calls Try.prog 5 #[.agg #[.int .i64 s, .int .i64 p, .int .i64 c, .int .i64 n, .int .u64 z, sl]] w fun e w' => e = .returned (.bool true) ∧ Below w.heap.size w w' := by
  have HC := Lib.hid (@count_any)
  have HP := Lib.hid (@next_pos)
  have HL := Lib.hid (@next_low)
  go_enter Try.func5, Try.ntmps5
  go_wp2_with fail
  go_quiet (fail)
  have HB := Lib.hid (bdrewN (balloc w (.cells #[.int .i64 s, .int .i64 p, .int .i64 c, .int .i64 n, .int .u64 z, sl] 25)) nq)
  generalize (w.alloc (.cells #[.int .i64 s, .int .i64 p, .int .i64 c, .int .i64 n, .int .u64 z, sl] 25)).drewN nq = W at HB ⊢
  obtain ⟨m, hm⟩ : ∃ m : Nat, z % 256 = (m : Int) := ⟨(z % 256).toNat, by omega⟩
  have hm2 : m < 256 := by omega
  rw [hm]
  clear hm
  go_wp2_with fail
  refine (H1.out _ _).mono ?_
  rintro e w1 ⟨rfl, rfl⟩
  have HD := Lib.hid (diceAt_new a c W)
  have HB1 := Lib.hid (bthen HB.out (balloc W (.cells #[.int .u64 a, .int .i64 c] 47)))
  have HN : Hid (w.heap.size ≤ W.heap.size) := HB.out.size
  generalize W.alloc (.cells #[.int .u64 a, .int .i64 c] 47) = W1 at HD HB1 ⊢
  generalize W.heap.size = b at HD HN ⊢
  clear HB
  go_wp2_with fail
  refine (H1.out _ _).mono ?_
  rintro e w1 ⟨rfl, rfl⟩
  obtain ⟨d, hd⟩ : ∃ d, d = wrap64 (c + (m : Int) % 50) := ⟨_, rfl⟩
  rw [← hd]
  have ED : Hid (wrap64 (c + ((m % 50 : Nat) : Int)) = d) := by show _ = _; rw [hd]; rfl
  clear hd
  have HE := Lib.hid (diceAt_new a d W1)
  have HD2 := Lib.hid (diceAt_below HD.out (balloc W1 (.cells #[.int .u64 a, .int .i64 d] 47)))
  have HB2 := Lib.hid (bthen HB1.out (balloc W1 (.cells #[.int .u64 a, .int .i64 d] 47)))
  have HN2 : Hid (w.heap.size ≤ W1.heap.size) := HB1.out.size
  have HNE : Hid (b ≠ W1.heap.size) := by have := diceAt_lt HD.out; show _ ≠ _; omega
  generalize W1.alloc (.cells #[.int .u64 a, .int .i64 d] 47) = W2 at HE HD2 HB2 ⊢
  generalize W1.heap.size = b2 at HE HN2 HNE ⊢
  clear HD HB1
  go_wp2_with fail
  refine (awake4_any _).mono ?_
  rintro e w2 ⟨rfl, hb2⟩
  have HD3 := Lib.hid (diceAt_below HD2.out hb2)
  have HE3 := Lib.hid (diceAt_below HE.out hb2)
  have HB3 := Lib.hid (bthen HB2.out hb2)
  clear HD2 HE HB2 hb2
  go_wp2_with fail
  go_loopw [10] (fun i wr => ∃ j : Nat, j ≤ m % 50 ∧ i = .int .i64 j ∧ DiceAt a (wrap64 (c + (j : Int))) b wr ∧ DiceAt a d b2 wr ∧ Below w.heap.size w wr) (fun i _ => 60 - (intOf i).toNat)
  case atStart => exact ⟨0, by omega, rfl, by rw [wrap_zero c hc]; exact HD3.out, HE3.out, HB3.out⟩
  case round =>
    obtain ⟨j, hj, rfl, hda, hdb, hbe⟩ := hrel
    have HDA := Lib.hid hda
    have HDB := Lib.hid hdb
    have HBE := Lib.hid hbe
    clear hda hdb hbe HD3 HE3 HB3
    by_cases h1 : j < m % 50
    · have hdec : decide ((j : Int) < (m : Int) % 50) = true := by simp; omega
      have HX := Lib.hid (HP.out a (wrap64 (c + (j : Int))) 7 b (by decide) (by decide) wr HDA.out)
      have HD4 := Lib.hid (diceAt_set HDA.out (wrap64 (wrap64 (c + (j : Int)) + 1)))
      have HE4 := Lib.hid (diceAt_other HDB.out (Ne.symm HNE.out) (.int .i64 (wrap64 (wrap64 (c + (j : Int)) + 1))))
      have HB4 := Lib.hid (HBE.out.setCell (p := ⟨b, 1, none⟩) HN.out (.int .i64 (wrap64 (wrap64 (c + (j : Int)) + 1))))
      rw [wrap_next] at HX HD4 HE4 HB4
      generalize wr.setCell ⟨b, 1, none⟩ (.int .i64 (wrap64 (c + ((j + 1 : Nat) : Int)))) = W4 at HX HD4 HE4 HB4
      generalize belowN (behindN a (wrap64 (c + (j : Int)))) 7 = y at HX
      go_wp2_with (go_at_call 17; refine HX.out.mono ?_; rintro e w' ⟨rfl, rfl⟩)
      go_roundw
      case rel => exact ⟨j + 1, by omega, by go_num, HD4.out, HE4.out, HB4.out⟩
      case measure => simp [intOf]; omega
    · obtain rfl : j = m % 50 := by omega
      have hdec : decide (((m % 50 : Nat) : Int) < (m : Int) % 50) = false := by simp
      rw [ED.out] at HDA
      by_cases h2 : n < 1
      · go_wp2_with fail
        refine (HL.out _ _ h2 _).mono ?_
        rintro e w1 ⟨rfl, rfl⟩
        go_wp2_with fail
        refine (HL.out _ _ h2 _).mono ?_
        rintro e w1 ⟨rfl, rfl⟩
        go_wp2_with fail
        refine (HC.out _ _ _ _ HDA.out).mono ?_
        rintro e w1 ⟨rfl, rfl⟩
        go_wp2_with fail
        refine (HC.out _ _ _ _ HDB.out).mono ?_
        rintro e w1 ⟨rfl, rfl⟩
        go_wp2_with fail
        go_ret
        exact ⟨by simp, HBE.out⟩
      · have HX := Lib.hid (HP.out a d n b (by omega) hn wr HDA.out)
        have HD4 := Lib.hid (diceAt_set HDA.out (wrap64 (d + 1)))
        have HE4 := Lib.hid (diceAt_other HDB.out (Ne.symm HNE.out) (.int .i64 (wrap64 (d + 1))))
        have HB4 := Lib.hid (HBE.out.setCell (p := ⟨b, 1, none⟩) HN.out (.int .i64 (wrap64 (d + 1))))
        generalize wr.setCell ⟨b, 1, none⟩ (.int .i64 (wrap64 (d + 1))) = W4 at HX HD4 HE4 HB4
        have HY := Lib.hid (HP.out a d n b2 (by omega) hn W4 HE4.out)
        have HD5 := Lib.hid (diceAt_other HD4.out HNE.out (.int .i64 (wrap64 (d + 1))))
        have HE5 := Lib.hid (diceAt_set HE4.out (wrap64 (d + 1)))
        have HB5 := Lib.hid (HB4.out.setCell (p := ⟨b2, 1, none⟩) HN2.out (.int .i64 (wrap64 (d + 1))))
        generalize W4.setCell ⟨b2, 1, none⟩ (.int .i64 (wrap64 (d + 1))) = W5 at HY HD5 HE5 HB5
        generalize belowN (behindN a d) n = y at HX HY
        generalize wrap64 (d + 1) = d2 at HD5 HE5
        go_wp2_with fail
        refine HX.out.mono ?_
        rintro e w1 ⟨rfl, rfl⟩
        go_wp2_with fail
        refine HY.out.mono ?_
        rintro e w1 ⟨rfl, rfl⟩
        go_wp2_with fail
        refine (HC.out _ _ _ _ HD5.out).mono ?_
        rintro e w1 ⟨rfl, rfl⟩
        go_wp2_with fail
        refine (HC.out _ _ _ _ HE5.out).mono ?_
        rintro e w1 ⟨rfl, rfl⟩
        go_wp2_with fail
        go_ret
        exact ⟨by simp, HB5.out⟩

theorem diceAgain_walk (a b c n z : Int) (sa : Option Addr) (len cap : Nat) (zs : List Int) (w : World) (_ha : (Lit.int .i64 a).wf = true) (_hb : (Lit.int .i64 b).wf = true) (hc : (Lit.int .i64 c).wf = true) (hn : (Lit.int .i64 n).wf = true) (_hz : (Lit.int .u64 z).wf = true) (_hs : IsRow .i64 w sa len cap zs) :
    Calls Try.prog 5 #[.agg #[.int .i64 a, .int .i64 b, .int .i64 c, .int .i64 n, .int .u64 z, .slice sa len cap]] w fun e w' => e = .returned (.bool true) ∧ Below w.heap.size w w' :=
  diceAgain_core a b c n z _ w (wordN a b) (i64_bd hc) (i64_bd hn).2 (fun c w => new_any a b c w)

end Go.Proofs.Ytmoiajcmmpcgpaa
