/- What comes of many calls (made), and what must come at any rate (awake). -/
import Derived.Test.YtbohcfflkcaijaaDkLaw0
namespace Go.Proofs.Ytbohcfflkcaijaa
open Go.RowKit Go.Deep Go.Maps
set_option linter.unusedVariables false
set_option linter.unusedSimpArgs false
set_option maxRecDepth 100000

theorem PDk.mono {base base2 P bS bm cS : Nat} {d : Dk} {u : World} (h : PDk base P bS bm cS d u) (hb : base2 ≤ base) : PDk base2 P bS bm cS d u :=
  ⟨h.box, h.row, h.mp, Nat.le_trans hb h.lo.1, Nat.le_trans hb h.lo.2.1, Nat.le_trans hb h.lo.2.2⟩
theorem RDk.mono {base base2 Q b1 b2 b3 c1 c2 c3 : Nat} {d : Dk} {u : World} (h : RDk base Q b1 b2 b3 c1 c2 c3 d u) (hb : base2 ≤ base) : RDk base2 Q b1 b2 b3 c1 c2 c3 d u :=
  ⟨h.box, h.r1, h.r2, h.r3, h.ne, Nat.le_trans hb h.lo.1, Nat.le_trans hb h.lo.2.1, Nat.le_trans hb h.lo.2.2.1, Nat.le_trans hb h.lo.2.2.2⟩
/-- a slice of calls that lies below base -/
structure AcsAt (base n : Nat) (A : Nat → Ac) (g : Nat → Value) (ao : Option Addr) (cap : Nat) (u : World) : Prop where
  c : n ≤ cap ∧ cap ≤ 9223372036854775807
  x : 0 < n → ∃ B o, ao = some ⟨B, o, none⟩ ∧ B < base ∧ ∀ i, i < n → ∀ j, j < 6 → u.cell? ⟨B, o + i * 6 + j, none⟩ = (acV (A i) (g i))[j]?
  a : ∀ i, i < n → AcAt base (A i) (g i) u
theorem AcsAt.below {base n : Nat} {A : Nat → Ac} {g : Nat → Value} {ao : Option Addr} {cap : Nat} {u u2 : World} (h : AcsAt base n A g ao cap u) (k : Below base u u2) : AcsAt base n A g ao cap u2 :=
  ⟨h.c, fun hn => by
    obtain ⟨B, o, e, hB, hc⟩ := h.x hn
    exact ⟨B, o, e, hB, fun i hi j hj => by rw [World.cell?_of_block (k.block B hB)]; exact hc i hi j hj⟩, fun i hi => (h.a i hi).below k⟩
theorem made_bad {base n : Nat} {A : Nat → Ac} {g : Nat → Value} {ao : Option Addr} {cap : Nat} (u : World) (m : Int) (hm : m < 1 ∨ 4096 < m) : Calls Try.prog 9 #[.int .i64 m, .slice ao n cap] u fun r u' => r = .returned (.tuple #[.pointer none, .pointer none, .bool true]) ∧ u' = u := by
  have H := Lib.hid (pnew_bad m hm u)
  go_enter Try.func9, Try.ntmps9
  by_cases h1 : m < 1
  · have d1 : decide (m < 1) = true := by simp [h1]
    go_wp2_with fail
    refine (H.out).mono ?_
    rintro e w1 ⟨rfl, rfl⟩
    go_wp2_with fail
    go_ret3
    exact ⟨rfl, rfl⟩
  · have d1 : decide (m < 1) = false := by simp; omega
    have d2 : decide (4096 < m) = true := by simp; omega
    go_wp2_with fail
    refine (H.out).mono ?_
    rintro e w1 ⟨rfl, rfl⟩
    go_wp2_with fail
    go_ret3
    exact ⟨rfl, rfl⟩
set_option maxHeartbeats 6400000 in
theorem made_any {base n : Nat} {A : Nat → Ac} {g : Nat → Value} {ao : Option Addr} {cap : Nat} {u : World} (hbase : base ≤ u.heap.size) (h : AcsAt base n A g ao cap u) (m : Nat) (hm : 1 ≤ m ∧ m ≤ 4096) :
    Calls Try.prog 9 #[.int .i64 (m : Int), .slice ao n cap] u fun r u' => ∃ P bS bm cS Q b1 b2 b3 c1 c2 c3 d, r = .returned (.tuple #[.pointer (some ⟨P, 0, none⟩), .pointer (some ⟨Q, 0, none⟩), .bool true]) ∧ Both base P bS bm cS Q b1 b2 b3 c1 c2 c3 d u' ∧ d.n = m ∧ d.calls ≤ 60 ∧ d.arm ≤ 9223372036854775807 ∧ Below base u u' := by
  have HA := Lib.hid h
  have HBASE := Lib.hid hbase
  have hcap := h.c
  have H := Lib.hid (pnew_any m hm.1 hm.2 u)
  have H2 : Hid (∀ w, Calls Try.prog 27 #[.int .i64 (m : Int)] w fun r u' => ∃ Q b1 b2 b3 c1 c2 c3, r = .returned (.pointer (some ⟨Q, 0, none⟩)) ∧ RDk w.heap.size Q b1 b2 b3 c1 c2 c3 (newD m) u' ∧ Below w.heap.size w u') := Lib.hid fun w => rmade_any m hm.1 hm.2 w
  have HM := Lib.hid hm
  have d1 : decide ((m : Int) < 1) = false := by simp; omega
  have d2 : decide (4096 < (m : Int)) = false := by simp; omega
  clear h hbase hm
  go_enter Try.func9, Try.ntmps9
  go_wp2_with fail
  refine (H.out).mono ?_
  rintro e w1 ⟨P, bS, bm, cS, rfl, p1, k1⟩
  have P1 := Lib.hid p1
  have K1 := Lib.hid k1
  clear p1 k1 H
  go_wp2_with fail
  refine (H2.out _).mono ?_
  rintro e w2 ⟨Q, b1, b2, b3, c1, c2, c3, rfl, r2, k2⟩
  have HB2 : Hid (Both base P bS bm cS Q b1 b2 b3 c1 c2 c3 (newD m) w2) := Lib.hid ⟨(P1.out.below k2).mono HBASE.out, r2.mono (Nat.le_trans HBASE.out K1.out.size), OkD.new HM.out, Nat.le_trans HBASE.out (Nat.le_trans K1.out.size k2.size)⟩
  have K2 := Lib.hid ((K1.out.mono HBASE.out).trans (k2.mono (Nat.le_trans HBASE.out K1.out.size)))
  clear r2 k2 H2 P1 K1
  go_wp2_with fail
  go_loopw [10] (fun i wr => ∃ j : Nat, j ≤ 60 ∧ i = .int .i64 j ∧ (∃ bm d, Both base P bS bm cS Q b1 b2 b3 c1 c2 c3 d wr ∧ d.n = m ∧ d.calls ≤ j ∧ d.arm ≤ 9223372036854775807) ∧ Below base u wr) (fun i _ => 60 - (intOf i).toNat)
  case atStart => exact ⟨0, by omega, rfl, ⟨bm, newD m, HB2.out, rfl, Nat.le_refl _, by show 0 ≤ _; omega⟩, K2.out⟩
  case round =>
    clear HB2 K2
    obtain ⟨j, hj, rfl, ⟨bm9, d, hb, hn, hc, har⟩, hk⟩ := hrel
    have HB := Lib.hid hb
    have KJ := Lib.hid hk
    have HN := Lib.hid hn
    have HCC := Lib.hid hc
    have HAR := Lib.hid har
    clear hb hk hn hc har
    have hj0 : (0 : Int) ≤ (j : Int) := by omega
    by_cases hl : j < n
    · have e1 : decide ((j : Int) < (n : Int)) = true := by simp [hl]
      have hl2 : (j : Int) < (n : Int) := by omega
      by_cases h60 : j < 60
      · have e2 : decide ((j : Int) < 60) = true := by simp; omega
        have h602 : (j : Int) < 60 := by omega
        have AJ := HA.out.below KJ.out
        obtain ⟨B, o, rfl, hB, hcell⟩ := AJ.x (by omega)
        have AA := Lib.hid (AJ.a j hl)
        have x0 : wr.cell? ⟨B, o + j * 6, none⟩ = some (.int .i64 (A j).kind) := hcell j hl 0 (by omega)
        have x1 : wr.cell? ⟨B, o + j * 6 + 1, none⟩ = some (.int .i64 (A j).i) := hcell j hl 1 (by omega)
        have x2 : wr.cell? ⟨B, o + j * 6 + 2, none⟩ = some (.string (A j).s) := hcell j hl 2 (by omega)
        have x3 : wr.cell? ⟨B, o + j * 6 + 3, none⟩ = some (g j) := hcell j hl 3 (by omega)
        have x4 : wr.cell? ⟨B, o + j * 6 + 4, none⟩ = some (.int .i64 (A j).t) := hcell j hl 4 (by omega)
        have x5 : wr.cell? ⟨B, o + j * 6 + 5, none⟩ = some (.int .i64 (A j).b) := hcell j hl 5 (by omega)
        clear AJ hcell
        by_cases hs : (A j).s.size < 500
        · have e3 : decide (((A j).s.size : Int) < 500) = true := by simp; omega
          have GO := Lib.hid (do_any HB.out (bd_of HB.out.ok HCC.out (by omega) HAR.out) AA.out (by omega))
          unfold acV at GO
          have BD := Lib.hid (do_bd d (A j) AA.out.i HAR.out)
          have H60 := Lib.hid h60
          go_wp2_with fail
          refine (GO.out).mono ?_
          rintro e w5 ⟨rfl, ⟨bm5, hb5⟩, k5⟩
          have HB5 := Lib.hid hb5
          have K5 := Lib.hid (KJ.out.trans k5)
          clear hb5 k5
          go_wp2_with fail
          go_roundw
          case rel => exact ⟨j + 1, H60.out, by go_num, ⟨bm5, _, HB5.out, (do_n d (A j)).trans HN.out, by have := BD.out.1; have := HCC.out; omega, BD.out.2⟩, K5.out⟩
          case measure => have := H60.out; simp [intOf]; omega
        · have e3 : decide (((A j).s.size : Int) < 500) = false := by simp; omega
          have H60 := Lib.hid h60
          go_wp2_with fail
          go_roundw
          case rel => exact ⟨j + 1, H60.out, by go_num, ⟨bm9, d, HB.out, HN.out, by have := HCC.out; omega, HAR.out⟩, KJ.out⟩
          case measure => have := H60.out; simp [intOf]; omega
      · have e2 : decide ((j : Int) < 60) = false := by simp; omega
        go_wp2_with fail
        go_ret3
        exact ⟨P, bS, bm9, cS, Q, b1, b2, b3, c1, c2, c3, d, rfl, HB.out, HN.out, by have := HCC.out; omega, HAR.out, KJ.out⟩
    · have e1 : decide ((j : Int) < (n : Int)) = false := by simp; omega
      go_wp2_with fail
      go_ret3
      exact ⟨P, bS, bm9, cS, Q, b1, b2, b3, c1, c2, c3, d, rfl, HB.out, HN.out, by have := HCC.out; omega, HAR.out, KJ.out⟩

/-! ### at any rate -/
def awA : Dk := writeD (newD 2) 0 ⟨#[97, 97]⟩
def awB : Dk := syncD awA
def awC : Dk := writeD awB 0 ⟨#[98, 98, 98]⟩
def awD : Dk := crashD awC [] 0 1
theorem aw_e : writeE (newD 2) 0 = 0 ∧ syncE awA = 0 ∧ writeE awB 0 = 0 ∧ readE awD 0 = 0 ∧ awD.calls = 3 ∧ looseN awD.is awD.n = 0 ∧ awD.n = 2 := by decide +kernel
theorem aw_bd : BdD (newD 2) ∧ BdD awA ∧ BdD awB ∧ awC.n ≤ 4096 ∧ awD.n ≤ 4096 := by
  refine ⟨⟨?_, ?_, ?_⟩, ⟨?_, ?_, ?_⟩, ⟨?_, ?_, ?_⟩, ?_, ?_⟩ <;> decide +kernel
theorem aw_s : readS awD 0 = sec (byD ⟨#[98, 97]⟩) := by
  have e : readS awD 0 = sec (nowD awD 0) := by
    unfold readS
    rw [if_neg (by decide +kernel), if_neg (by decide +kernel)]
    rfl
  rw [e]
  refine sec_ext ?_
  decide +kernel
set_option maxHeartbeats 3200000 in
theorem awake_any (u : World) : Calls Try.prog 10 #[] u fun r u' => r = .returned (.bool true) ∧ Below u.heap.size u u' := by
  obtain ⟨e1, e2, e3, e4, e5, e6, e7⟩ := aw_e
  obtain ⟨q1, q2, q3, q4, q5⟩ := aw_bd
  have H := Lib.hid (pnew_any 2 (by omega) (by omega) u)
  have HF : Hid (∀ w, Calls Try.prog 22 #[.string ⟨#[98, 97]⟩] w fun r u' => r = .returned (.string (sec (byD ⟨#[98, 97]⟩))) ∧ Below w.heap.size w u') := Lib.hid fun w => rfill_any ⟨#[98, 97]⟩ (by decide) w
  obtain ⟨SB, hSB⟩ : ∃ s, s = sec (byD ⟨#[98, 97]⟩) := ⟨_, rfl⟩
  have ES := aw_s
  rw [← hSB] at HF ES
  clear hSB
  have E := Lib.hid (And.intro e1 (And.intro e2 (And.intro e3 (And.intro e4 (And.intro e5 e6)))))
  have ES0 := ES
  clear ES
  have ES := Lib.hid ES0
  clear ES0
  clear e1 e2 e3 e4 e5 e6 e7
  go_enter Try.func10, Try.ntmps10
  go_wp2_with fail
  refine (H.out).mono ?_
  rintro e w1 ⟨P, bS, bm, cS, rfl, p1, k1⟩
  have K1 := Lib.hid k1
  have G1 := Lib.hid (pwrite_any p1 q1 0 ⟨#[97, 97]⟩)
  rw [E.out.1] at G1
  clear p1 k1 H
  go_wp2_with fail
  refine (G1.out).mono ?_
  rintro e w2 ⟨rfl, p2, k2⟩
  change PDk _ _ _ _ _ awA w2 at p2
  have G2 := Lib.hid (psync_any p2 q2)
  rw [E.out.2.1] at G2
  have NP : Hid (∀ q, q < u.heap.size → P3 P bS bm q = false) := Lib.hid fun q hq => P3.no (by have := p2.lo; omega) (by have := p2.lo; omega) (by have := p2.lo; omega)
  have K2 := Lib.hid (K1.out.trans (KpS.bot k2 K1.out.size NP.out))
  clear p2 k2 G1 K1
  go_wp2_with fail
  refine (G2.out).mono ?_
  rintro e w3 ⟨rfl, ⟨bm3, hlt3, p3⟩, k3⟩
  change PDk _ _ _ _ _ awB w3 at p3
  have G3 := Lib.hid (pwrite_any p3 q3 0 ⟨#[98, 98, 98]⟩)
  rw [E.out.2.2.1] at G3
  have N3 : Hid (∀ q, q < u.heap.size → P3 P bS bm3 q = false) := Lib.hid fun q hq => P3.no (by have := p3.lo; omega) (by have := p3.lo; omega) (by have := p3.lo; omega)
  have K3 := Lib.hid (K2.out.trans (KpS.bot k3 K2.out.size NP.out))
  clear p3 k3 G2 K2 NP hlt3
  go_wp2_with fail
  refine (G3.out).mono ?_
  rintro e w4 ⟨rfl, p4, k4⟩
  change PDk _ _ _ _ _ awC w4 at p4
  have K4 := Lib.hid (K3.out.trans (KpS.bot k4 K3.out.size N3.out))
  have G4 := Lib.hid (pcrash_any (keep := []) (t := 0) (b := 1) (v := .slice none 0 0) p4 q4 K4.out.size ⟨⟨none, 0, rfl, Nat.le_refl _, by omega, fun h => absurd h (Nat.lt_irrefl 0)⟩, by omega, by omega⟩)
  clear p4 k4 G3 K3
  go_wp2_with fail
  refine (G4.out).mono ?_
  rintro e w5 ⟨rfl, ⟨bm5, hlt5, p5⟩, k5⟩
  change PDk _ _ _ _ _ awD w5 at p5
  have K5 := Lib.hid (K4.out.trans (KpS.bot k5 K4.out.size N3.out))
  have P5 := Lib.hid p5
  have G5 := Lib.hid (pread_any p5 q5 0)
  rw [ES.out, E.out.2.2.2.1] at G5
  clear p5 k5 G4 K4 hlt5
  go_wp2_with fail
  refine (G5.out).mono ?_
  rintro e w6 ⟨rfl, rfl⟩
  clear G5
  go_wp2_with fail
  refine (HF.out _).mono ?_
  rintro e w7 ⟨rfl, hb7⟩
  have P7 := Lib.hid (P5.out.below hb7)
  have K7 := Lib.hid (K5.out.trans (hb7.mono K5.out.size))
  have G7 := Lib.hid (pcalls_any P7.out)
  have G8 := Lib.hid (ploose_any P7.out)
  rw [E.out.2.2.2.2.1] at G7
  rw [E.out.2.2.2.2.2] at G8
  clear hb7
  go_wp2_with fail
  refine (G7.out).mono ?_
  rintro e w8 ⟨rfl, rfl⟩
  go_wp2_with fail
  refine (G8.out).mono ?_
  rintro e w9 ⟨rfl, rfl⟩
  go_wp2_with fail
  go_ret
  exact ⟨rfl, K7.out⟩

end Go.Proofs.Ytbohcfflkcaijaa
