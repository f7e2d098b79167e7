/- Maps of pages: what comes of many calls (made), and what must come at any rate (awake), whatever the program's map is made of. -/
import Derived.Test.YtbjmdejnipleoaaFmBoth
namespace Go.Proofs.Ytbjmdejnipleoaa
open Go.RowKit Go.Deep
set_option linter.unusedVariables false
set_option linter.unusedSimpArgs false
set_option maxRecDepth 100000

/-- a slice of acts that lies below base -/
structure FasAt (base n : Nat) (A : Nat → Int × Int) (ao : Option Addr) (cap : Nat) (u : World) : Prop where
  c : n ≤ cap ∧ cap ≤ 9223372036854775807
  x : 0 < n → ∃ B o, ao = some ⟨B, o, none⟩ ∧ B < base ∧ ∀ i, i < n → u.cell? ⟨B, o + i * 2, none⟩ = some (.int .i64 (A i).1) ∧ u.cell? ⟨B, o + i * 2 + 1, none⟩ = some (.int .i64 (A i).2)
theorem FasAt.below {base n : Nat} {A : Nat → Int × Int} {ao : Option Addr} {cap : Nat} {u u2 : World} (h : FasAt base n A ao cap u) (k : Below base u u2) : FasAt base n A ao cap u2 :=
  ⟨h.c, fun hn => by
    obtain ⟨B, o, e, hB, hc⟩ := h.x hn
    exact ⟨B, o, e, hB, fun i hi => ⟨(World.cell?_of_block (k.block B hB)).trans (hc i hi).1, (World.cell?_of_block (k.block B hB)).trans (hc i hi).2⟩⟩⟩
theorem four_do {n : Nat} {K : Nat → Nat} (h : FourF K) (kind i : Int) : FourF (doF n K kind i) := by
  unfold doF
  split
  · exact h.use i
  · split
    · exact h.leave i
    · split
      · exact h.turn (by omega) (by omega)
      · split
        · exact h.turn (by omega) (by omega)
        · exact h.take
theorem zeros_row (n : Nat) : (madeCells #[Value.int .i64 0] n).toList = rowCells 1 (gK fun _ => 0) n := by
  rw [toList_madeCells_one]
  apply List.ext_getElem?
  intro k
  have hl : (rowCells 1 (gK fun _ => 0) n).length = n := by rw [rowCells_len, Nat.mul_one]
  rcases Nat.lt_or_ge k n with h | h
  · have e := rowCells_at (gK fun _ => 0) (C := 1) (n := n) (i := k) (j := 0) h (by omega)
    rw [Nat.mul_one, Nat.add_zero] at e
    rw [e, List.getElem?_replicate, if_pos h]
    rfl
  · rw [List.getElem?_eq_none (by simpa using h), List.getElem?_eq_none (by rw [hl]; exact h)]
section
variable {PM : PMap}
theorem made12_bad (I : Fm12 PM) (x : Int) (hx : x < 0 ∨ 1024 < x) (n : Nat) (ao : Option Addr) (cap : Nat) (u : World) : Calls Try.prog 8 #[.int .i64 x, .slice ao n cap] u fun r u' => r = .returned (.tuple #[.pointer none, .pointer none, .bool true]) ∧ Below u.heap.size u u' := by
  have H := Lib.hid (I.bad x u hx)
  go_enter Try.func8, Try.ntmps8
  by_cases h1 : x < 0
  · have d1 : decide (x < 0) = true := by simp [h1]
    go_wp2_with fail
    refine (H.out).mono ?_
    rintro e w1 ⟨rfl, hb⟩
    have HB := Lib.hid hb
    clear hb
    go_wp2_with fail
    go_ret3
    exact ⟨rfl, HB.out⟩
  · have d1 : decide (x < 0) = false := by simp; omega
    have d2 : decide (1024 < x) = true := by simp; omega
    go_wp2_with fail
    refine (H.out).mono ?_
    rintro e w1 ⟨rfl, hb⟩
    have HB := Lib.hid hb
    clear hb
    go_wp2_with fail
    go_ret3
    exact ⟨rfl, HB.out⟩
set_option maxHeartbeats 6400000 in
theorem made12_any (I : Fm12 PM) {base n : Nat} {A : Nat → Int × Int} {ao : Option Addr} {cap : Nat} {u : World} (hbase : base ≤ u.heap.size) (h : FasAt base n A ao cap u) (m : Nat) (hm : m ≤ 1024) :
    Calls Try.prog 8 #[.int .i64 (m : Int), .slice ao n cap] u fun r u' => ∃ P Q K, r = .returned (.tuple #[.pointer (some ⟨P, 0, none⟩), .pointer (some ⟨Q, 0, none⟩), .bool true]) ∧ Bo12 PM u.heap.size P Q m K u' ∧ FourF K ∧ Below u.heap.size u u' := by
  obtain ⟨i0, hi0, hz0, hz1, hz2⟩ := info_parts infoInt12
  have HI := Lib.hid I
  have HA := Lib.hid h
  have HBASE := Lib.hid hbase
  have hcap := h.c
  have HM := Lib.hid hm
  have H := Lib.hid (I.new m u hm)
  have d1 : decide ((m : Int) < 0) = false := by simp
  have d2 : decide (1024 < (m : Int)) = false := by simp; omega
  have hm2 : (m : Int) ≤ 1024 := by omega
  clear h hbase I
  go_enter Try.func8, Try.ntmps8
  go_wp2_with fail
  refine (H.out).mono ?_
  rintro e w1 ⟨P, S, rfl, p1, k1⟩
  have P1 := Lib.hid p1
  have K1 := Lib.hid k1
  clear p1 k1 H
  go_wp2_with (at_make; refine wpList_make_full _ rfl _ _ _ rfl w1.heap.size 3 i0 (.int .i64 0) 1 Try.underlying31 hi0 hz0 hz1 .i64 .i64 _ _ m rfl rfl (by omega) (by omega) (by rw [hz2]; omega) (by unfold maxLen; omega) (by omega) ?_)
  intro w2 hown hgr
  have W2 := Lib.hid ((Below.refl w1.heap.size w1).grown hgr (Nat.le_refl _) (by simp))
  have O2 := Lib.hid hown
  have X3 := Lib.hid (heap_alloc_new w2 (.cells #[.slice (some ⟨w1.heap.size, 0, none⟩) m m] 34))
  have B3 := Lib.hid (balloc w2 (.cells #[.slice (some ⟨w1.heap.size, 0, none⟩) m m] 34))
  have F3 : Hid (Bo12 PM u.heap.size P w2.heap.size m (fun _ => 0) (w2.alloc (.cells #[.slice (some ⟨w1.heap.size, 0, none⟩) m m] 34))) := Lib.hid (by
    have hk : KRow u.heap.size m (fun _ => 0) (.slice (some ⟨w1.heap.size, 0, none⟩) m m) w2 := by
      have h1 := KRow.of (K := fun _ => 0) O2.out (zeros_row m)
      rcases h1 with ⟨q0, a, c, e, hc, hp⟩ | ⟨h0, b2, c2, e2, hb2, hr2⟩
      · exact .inl ⟨q0, a, c, e, hc, fun p h1 => ⟨Nat.le_trans K1.out.size (hp p h1).1, (hp p h1).2⟩⟩
      · exact .inr ⟨h0, b2, c2, e2, Nat.le_trans K1.out.size hb2, hr2⟩
    refine ⟨⟨S, HI.out.below P1.out (bthen W2.out B3.out), fun k hk => ?_⟩, ⟨⟨_, X3.out, hk.below B3.out⟩, Nat.le_trans K1.out.size W2.out.size⟩, HM.out, Nat.le_trans K1.out.size (Nat.le_trans W2.out.size B3.out.size)⟩
    cases c : S k with
    | false => rfl
    | true =>
      have hlt := (HI.out.lo P1.out k c).2
      rcases hk with rfl | ⟨v, e, hv⟩
      · have := W2.out.size; omega
      · rw [X3.out] at e
        simp only [Option.some.injEq, Obj.cells.injEq, and_true, true_and] at e
        obtain rfl : Value.slice (some ⟨w1.heap.size, 0, none⟩) m m = v := by simpa using e
        simp only [Value.ownBlock, Option.some.injEq] at hv
        omega)
  have K3 := Lib.hid (K1.out.trans ((bthen W2.out B3.out).mono K1.out.size))
  obtain ⟨Q, hQ⟩ : ∃ Q, Q = w2.heap.size := ⟨_, rfl⟩
  rw [← hQ] at F3 X3
  clear hown hgr P1 K1 W2 O2 B3
  go_upto_region 5 with fail
  rw [← hQ]
  generalize w2.alloc (.cells #[.slice (some ⟨w1.heap.size, 0, none⟩) m m] 34) = w3 at *
  clear hQ X3
  go_wp2_with fail
  go_loopw [10] (fun i wr => ∃ j : Nat, j ≤ 60 ∧ i = .int .i64 j ∧ (∃ K, Bo12 PM u.heap.size P Q m K wr ∧ FourF K) ∧ Below u.heap.size u wr) (fun i _ => 60 - (intOf i).toNat)
  case atStart => exact ⟨0, by omega, rfl, ⟨_, F3.out, fun _ => by omega⟩, K3.out⟩
  case round =>
    clear F3 K3
    obtain ⟨j, hj, rfl, ⟨K, hb, hf⟩, hk⟩ := hrel
    have HB := Lib.hid hb
    have KJ := Lib.hid hk
    have FK := Lib.hid hf
    clear hb hk hf
    have hj0 : (0 : Int) ≤ (j : Int) := by omega
    by_cases hl : j < n
    · have e1 : decide ((j : Int) < (n : Int)) = true := by simp [hl]
      have hl2 : (j : Int) < (n : Int) := by omega
      by_cases h60 : j < 60
      · have e2 : decide ((j : Int) < 60) = true := by simp; omega
        have h602 : (j : Int) < 60 := by omega
        have AJ := HA.out.below (KJ.out.mono HBASE.out)
        obtain ⟨B, o, rfl, hB, hcell⟩ := AJ.x (by omega)
        obtain ⟨x0, x1⟩ := hcell j hl
        generalize (A j).1 = kind at *
        generalize (A j).2 = i at *
        have GO := Lib.hid (do12_any HI.out HB.out kind i)
        have FD := Lib.hid (four_do (n := m) FK.out kind i)
        have H60 := Lib.hid h60
        clear AJ hcell
        go_wp2_with fail
        refine (GO.out).mono ?_
        rintro e w5 ⟨rfl, hb5, k5⟩
        have HB5 := Lib.hid hb5
        have K5 := Lib.hid (KJ.out.trans k5)
        clear hb5 k5
        go_wp2_with fail
        go_roundw
        case rel => exact ⟨j + 1, H60.out, by go_num, ⟨_, HB5.out, FD.out⟩, K5.out⟩
        case measure => have := H60.out; simp [intOf]; omega
      · have e2 : decide ((j : Int) < 60) = false := by simp; omega
        go_wp2_with fail
        go_ret3
        exact ⟨P, Q, K, rfl, HB.out, FK.out, KJ.out⟩
    · have e1 : decide ((j : Int) < (n : Int)) = false := by simp; omega
      go_wp2_with fail
      go_ret3
      exact ⟨P, Q, K, rfl, HB.out, FK.out, KJ.out⟩

/-- one more call of the program's map -/
theorem awk_k : useE 4 (fun _ => 0) 0 = 0 ∧ takeI 4 (useF 4 (fun _ => 0) 0) = 1 ∧ takeI 4 (leaveF 4 (takeF 4 (useF 4 (fun _ => 0) 0)) 0) = 2 ∧ takeI 4 (turnF (takeF 4 (leaveF 4 (takeF 4 (useF 4 (fun _ => 0) 0)) 0)) 1 0) = 0 ∧
    cntF (takeF 4 (turnF (takeF 4 (leaveF 4 (takeF 4 (useF 4 (fun _ => 0) 0)) 0)) 1 0)) 0 4 = 1 ∧ decide (inF 4 0 ∧ takeF 4 (turnF (takeF 4 (leaveF 4 (takeF 4 (useF 4 (fun _ => 0) 0)) 0)) 1 0) (0 : Int).toNat = 2) = true ∧ decide (inF 4 1 ∧ takeF 4 (turnF (takeF 4 (leaveF 4 (takeF 4 (useF 4 (fun _ => 0) 0)) 0)) 1 0) (1 : Int).toNat = 2) = false := by
  refine ⟨?_, ?_, ?_, ?_, ?_, ?_, ?_⟩ <;> decide +kernel
set_option maxHeartbeats 3200000 in
theorem awake12_any (I : Fm12 PM) (u : World) : Calls Try.prog 9 #[] u fun r u' => r = .returned (.bool true) ∧ Below u.heap.size u u' := by
  have H := Lib.hid (I.new 4 u (by omega))
  have HI := Lib.hid I
  obtain ⟨f1, f2, f3, f4, f5, f6, f7⟩ := awk_k
  have G1 := Lib.hid (fun (P : Nat) (S : Nat → Bool) (w : World) (h : PM u.heap.size P 4 (fun _ => 0) S w) (hz : u.heap.size ≤ w.heap.size) => I.use 0 h (by omega) hz)
  rw [f1] at G1
  obtain ⟨K1, hK1⟩ : ∃ K, K = useF 4 (fun _ => 0) 0 := ⟨_, rfl⟩
  rw [← hK1] at G1 f2 f3 f4 f5 f6 f7
  have G2 := Lib.hid (fun (P : Nat) (S : Nat → Bool) (w : World) (h : PM u.heap.size P 4 K1 S w) (hz : u.heap.size ≤ w.heap.size) => I.take h (by omega) hz)
  rw [f2] at G2
  obtain ⟨K2, hK2⟩ : ∃ K, K = takeF 4 K1 := ⟨_, rfl⟩
  rw [← hK2] at G2 f3 f4 f5 f6 f7
  have G3 := Lib.hid (fun (P : Nat) (S : Nat → Bool) (w : World) (h : PM u.heap.size P 4 K2 S w) (hz : u.heap.size ≤ w.heap.size) => I.leave 0 h (by omega) hz)
  obtain ⟨K3, hK3⟩ : ∃ K, K = leaveF 4 K2 0 := ⟨_, rfl⟩
  rw [← hK3] at G3 f3 f4 f5 f6 f7
  have G4 := Lib.hid (fun (P : Nat) (S : Nat → Bool) (w : World) (h : PM u.heap.size P 4 K3 S w) (hz : u.heap.size ≤ w.heap.size) => I.take h (by omega) hz)
  rw [f3] at G4
  obtain ⟨K4, hK4⟩ : ∃ K, K = takeF 4 K3 := ⟨_, rfl⟩
  rw [← hK4] at G4 f4 f5 f6 f7
  have G5 := Lib.hid (fun (P : Nat) (S : Nat → Bool) (w : World) (h : PM u.heap.size P 4 K4 S w) (hz : u.heap.size ≤ w.heap.size) => I.commit h (by omega) hz)
  obtain ⟨K5, hK5⟩ : ∃ K, K = turnF K4 1 0 := ⟨_, rfl⟩
  rw [← hK5] at G5 f4 f5 f6 f7
  have G6 := Lib.hid (fun (P : Nat) (S : Nat → Bool) (w : World) (h : PM u.heap.size P 4 K5 S w) (hz : u.heap.size ≤ w.heap.size) => I.take h (by omega) hz)
  rw [f4] at G6
  obtain ⟨K6, hK6⟩ : ∃ K, K = takeF 4 K5 := ⟨_, rfl⟩
  rw [← hK6] at G6 f5 f6 f7
  have G7 := Lib.hid (fun (P : Nat) (S : Nat → Bool) (w : World) (h : PM u.heap.size P 4 K6 S w) (hz : u.heap.size ≤ w.heap.size) => I.free h (by omega) hz)
  rw [f5] at G7
  change Hid (∀ P S w, _ → _ → Calls _ _ _ _ fun r u' => r = .returned (.int .i64 1) ∧ _) at G7
  have G8 := Lib.hid (fun (P : Nat) (S : Nat → Bool) (w : World) (h : PM u.heap.size P 4 K6 S w) (hz : u.heap.size ≤ w.heap.size) => I.fresh 0 h (by omega) hz)
  rw [f6] at G8
  have G9 := Lib.hid (fun (P : Nat) (S : Nat → Bool) (w : World) (h : PM u.heap.size P 4 K6 S w) (hz : u.heap.size ≤ w.heap.size) => I.fresh 1 h (by omega) hz)
  rw [f7] at G9
  generalize takeE 4 K1 = t1 at *
  generalize takeE 4 K3 = t2 at *
  generalize takeE 4 K5 = t3 at *
  generalize leaveE 4 K2 0 = t4 at *
  clear f1 f2 f3 f4 f5 f6 f7 hK1 hK2 hK3 hK4 hK5 hK6 I
  go_enter Try.func9, Try.ntmps9
  go_wp2_with fail
  refine (H.out).mono ?_
  rintro e w1 ⟨P, S, rfl, p1, k1⟩
  have P1 := Lib.hid p1
  have B1 := Lib.hid k1
  clear p1 k1 H
  go_wp2_with fail
  refine (G1.out _ _ _ P1.out B1.out.size).mono ?_
  rintro e w2 ⟨rfl, S2, hs2, p, k⟩
  have P2 := Lib.hid p
  have B2 := Lib.hid (B1.out.trans (k.bot B1.out.size fun q hq => by
    cases c : (S) q with
    | false => rfl
    | true => have := (HI.out.lo P1.out q c).1; omega))
  clear p k
  go_wp2_with fail
  refine (G2.out _ _ _ P2.out B2.out.size).mono ?_
  rintro e w3 ⟨rfl, S3, hs3, p, k⟩
  have P3 := Lib.hid p
  have B3 := Lib.hid (B2.out.trans (k.bot B2.out.size fun q hq => by
    cases c : (S2) q with
    | false => rfl
    | true => have := (HI.out.lo P2.out q c).1; omega))
  clear p k
  go_wp2_with fail
  refine (G3.out _ _ _ P3.out B3.out.size).mono ?_
  rintro e w4 ⟨rfl, S4, hs4, p, k⟩
  have P4 := Lib.hid p
  have B4 := Lib.hid (B3.out.trans (k.bot B3.out.size fun q hq => by
    cases c : (S3) q with
    | false => rfl
    | true => have := (HI.out.lo P3.out q c).1; omega))
  clear p k
  go_wp2_with fail
  refine (G4.out _ _ _ P4.out B4.out.size).mono ?_
  rintro e w5 ⟨rfl, S5, hs5, p, k⟩
  have P5 := Lib.hid p
  have B5 := Lib.hid (B4.out.trans (k.bot B4.out.size fun q hq => by
    cases c : (S4) q with
    | false => rfl
    | true => have := (HI.out.lo P4.out q c).1; omega))
  clear p k
  go_wp2_with fail
  refine (G5.out _ _ _ P5.out B5.out.size).mono ?_
  rintro e w6 ⟨rfl, S6, hs6, p, k⟩
  have P6 := Lib.hid p
  have B6 := Lib.hid (B5.out.trans (k.bot B5.out.size fun q hq => by
    cases c : (S5) q with
    | false => rfl
    | true => have := (HI.out.lo P5.out q c).1; omega))
  clear p k
  go_wp2_with fail
  refine (G6.out _ _ _ P6.out B6.out.size).mono ?_
  rintro e w7 ⟨rfl, S7, hs7, p, k⟩
  have P7 := Lib.hid p
  have B7 := Lib.hid (B6.out.trans (k.bot B6.out.size fun q hq => by
    cases c : (S6) q with
    | false => rfl
    | true => have := (HI.out.lo P6.out q c).1; omega))
  clear p k
  go_wp2_with fail
  refine (G7.out _ _ _ P7.out B7.out.size).mono ?_
  rintro e w8 ⟨rfl, k⟩
  have P8 := Lib.hid (HI.out.below P7.out k)
  have B8 := Lib.hid (bthen B7.out k)
  clear k
  go_wp2_with fail
  refine (G8.out _ _ _ P8.out B8.out.size).mono ?_
  rintro e w9 ⟨rfl, k⟩
  have P9 := Lib.hid (HI.out.below P8.out k)
  have B9 := Lib.hid (bthen B8.out k)
  clear k
  go_wp2_with fail
  refine (G9.out _ _ _ P9.out B9.out.size).mono ?_
  rintro e w10 ⟨rfl, k⟩
  have B10 := Lib.hid (bthen B9.out k)
  clear k
  go_wp2_with fail
  go_ret
  exact ⟨rfl, B10.out⟩
end

end Go.Proofs.Ytbjmdejnipleoaa
