/- The walk of PoolOne, whatever the program's store is made of. -/
import Derived.Deep.CutRange
import Derived.Test.YtmflkkkbahghgaaGreatYZ32
import Derived.Test.YtmflkkkbahghgaaGreatYQPqOneM
import Derived.Test.YtmflkkkbahghgaaGreatYZ33
namespace Go.Proofs.YtmflkkkbahghgaaGreat
open Go.RowKit Go.Deep
set_option linter.unusedVariables false
set_option linter.unusedSimpArgs false
set_option maxRecDepth 100000

section
variable {PM : StM} {PF PC : FlM}
theorem BqTo.onto {base D P Y F c Q R : Nat} {p2 q2 : Plt} {S S2 : Nat → Bool} {u u2 u3 : World} (n2 : NewB S S2 u) (k2 : KpS (bqS S Y F Q R) u u2) (t : BqTo PM base D P Y F c Q R S2 p2 q2 u2 u3) : BqTo PM base D P Y F c Q R S p2 q2 u u3 := by
  obtain ⟨S3, a3, n3, k3⟩ := t
  exact ⟨S3, a3, n2.then n3 k2.size, kps_new (newBq n2) k2 k3⟩
set_option maxHeartbeats 12800000 in
theorem one15_walk (I : Sh14 PM PF PC) (fr pg : Nat) (h1 : fr < 256) (h2 : pg < 256) (n : Nat) (A : Nat → Int × Int × ByteArray) (ao : Option Addr) (cap : Nat) (u : World) (ha : SaAt u.heap.size n A ao cap u) : Calls Tryz.prog 3 #[.int .u8 (fr : Int), .slice ao n cap, .int .u8 (pg : Int)] u fun r u' => r = .returned (.bool true) ∧ Below u.heap.size u u' := by
  have HI := Lib.hid I
  have HA := Lib.hid ha
  have HAW := Lib.hid (fun w => awake15_any I w)
  have HFU := Lib.hid (fun (s : ByteArray) (hs : s.size ≤ 1000000) w => rfull_any s hs w)
  obtain ⟨m, hm⟩ : ∃ m, m = fr % 4 + 1 := ⟨_, rfl⟩
  obtain ⟨kk, hk⟩ : ∃ kk, kk = pg % 6 := ⟨_, rfl⟩
  have W0 : ((fr : Int) % 4) + 1 = (m : Int) := by omega
  have W1 : IntKind.i64.wrap ((fr : Int) % 4) = (fr : Int) % 4 := by rw [IntKind.wrap_i64]; omega
  have W2 : IntKind.i64.wrap ((fr : Int) % 4 + 1) = (m : Int) := by rw [IntKind.wrap_i64]; omega
  have W3 : Int.tmod (fr : Int) 4 = (fr : Int) % 4 := by rw [Int.tmod_eq_emod_of_nonneg (by omega)]
  have W4 : IntKind.i64.wrap ((pg : Int) % 6) = (kk : Int) := by rw [IntKind.wrap_i64]; omega
  have W5 : Int.tmod (pg : Int) 6 = (pg : Int) % 6 := by rw [Int.tmod_eq_emod_of_nonneg (by omega)]
  have W6 : (pg : Int) % 6 = (kk : Int) := by omega
  have HM := Lib.hid (show 1 ≤ m ∧ m ≤ 32 by omega)
  have HKK := Lib.hid (show kk < 6 by omega)
  have HBG := Lib.hid (begun15_any I m 40 (by omega) (by omega) (by omega) (by omega) u)
  have hc := ha.c
  clear ha I hm hk W0
  go_enter Tryz.func3, Tryz.ntmps3
  go_wp2_with fail
  refine (HBG.out).mono ?_
  rintro e w1 ⟨D, P, Y, F, c, Q, R, S, rfl, hbs, hb1⟩
  have BS := Lib.hid hbs
  have B1 := Lib.hid hb1
  clear hbs hb1 HBG
  go_wp2_with fail
  refine (HAW.out _).mono ?_
  rintro e w2 ⟨rfl, hb2⟩
  have BQ : Hid (Bq PM u.heap.size D P Y F c Q R (iniP m (fullP ⟨#[]⟩) 0) (bgP m 40) S w2) := Lib.hid (BS.out.below HI.out hb2)
  have B2 := Lib.hid (bthen B1.out hb2)
  have KQ0 := Lib.hid (bgP_ok (n := m) (m := 40) HM.out.1 HM.out.2 (by omega))
  have KP0 : Hid (OkW 64 1 0 (iniP m (fullP ⟨#[]⟩) 0)) := Lib.hid (bgP_ok (n := m) (m := 40) HM.out.1 HM.out.2 (by omega))
  generalize bgP m 40 = q0 at *
  clear hb2 BS
  go_wp2_with fail
  clear W1 W2 W3 W4 W5 W6
  go_loopw [10] (fun i wr => ∃ (j : Nat) (q : Plt), j ≤ 6 ∧ i = .int .i64 j ∧ Hid (OkW (64 + 2112 * j) (1 + (j : Int)) j (iniP m (fullP ⟨#[]⟩) j)) ∧ Hid (OkW (64 + 2112 * j) (1 + (j : Int)) j q) ∧ Hid (BqTo PM u.heap.size D P Y F c Q R S (iniP m (fullP ⟨#[]⟩) j) q w2 wr)) (fun i _ => 6 - (intOf i).toNat)
  case atStart => exact ⟨0, q0, by omega, rfl, KP0, KQ0, Lib.hid BQ.out.same⟩
  case round =>
    clear KP0 KQ0
    obtain ⟨j, q, hj, rfl, HKP, HKQ, HT⟩ := hrel
    by_cases hlt : j < 6
    · have d1 : decide ((j : Int) < 6) = true := decide_eq_true (by omega)
      have d2 : decide (j < 6) = true := decide_eq_true hlt
      have HD := Lib.hid (HT.out.did fun S2 b2 => do15_any HI.out b2 HKP.out HKQ.out (by omega) (by omega) (by omega) (by omega) (by omega) 0 0 ⟨#[]⟩ (by decide))
      have K4 : Hid (OkW (64 + 2112 * (j + 1)) (1 + ((j + 1 : Nat) : Int)) (j + 1) (doQ (iniP m (fullP ⟨#[]⟩) j) 0 0 ⟨#[]⟩)) := Lib.hid ((HKP.out.doQ 0 0 ⟨#[]⟩).up (by omega) (by omega) (by omega))
      have K5 : Hid (OkW (64 + 2112 * (j + 1)) (1 + ((j + 1 : Nat) : Int)) (j + 1) (do15 q 0 0 ⟨#[]⟩)) := Lib.hid ((HKQ.out.do15 0 0 ⟨#[]⟩).up (by omega) (by omega) (by omega))
      have EN : doQ (iniP m (fullP ⟨#[]⟩) j) 0 0 ⟨#[]⟩ = iniP m (fullP ⟨#[]⟩) (j + 1) := by
        rw [← ini_new hlt]
        unfold doQ
        rw [if_pos (.inl rfl)]
      rw [EN] at HD K4
      clear EN
      go_wp2_with fail
      refine (HD.out).mono ?_
      rintro e w3 ⟨b3, rfl, t3⟩
      have T3 := Lib.hid t3
      clear t3 HD
      go_wp2_with fail
      go_roundw
      case rel => exact ⟨j + 1, _, by omega, by go_num, K4, K5, T3⟩
      case measure => simp [intOf]; omega
    · have d1 : decide ((j : Int) < 6) = false := decide_eq_false (by omega)
      have d2 : decide (j < 6) = false := decide_eq_false hlt
      obtain rfl : j = 6 := by omega
      have HF0 := Lib.hid (HFU.out ⟨#[]⟩ (by decide) wr)
      clear hlt hj
      go_wp2_with fail
      refine (HF0.out).mono ?_
      rintro e w3 ⟨rfl, hb3⟩
      have T3 := Lib.hid (HT.out.trans fun S2 b2 => b2.stays HI.out hb3)
      obtain ⟨pe, hpe⟩ : ∃ pe, pe = fullP ⟨#[]⟩ := ⟨_, rfl⟩
      rw [← hpe] at T3 HKP ⊢
      have ON := Lib.hid (ini_one (n := m) pe)
      have NZ := Lib.hid (ini_noh m pe 6)
      generalize iniP m pe 6 = p0 at *
      clear hb3 HF0 hpe HT
      go_wp2_with fail
      go_loopw [11, 12] (fun s11 i wr => ∃ (j : Nat) (p q : Plt) (v : Nat → ByteArray), j ≤ n ∧ j ≤ 50 ∧ s11 = .string (v kk) ∧ i = .int .i64 j ∧ Hid (OkW (12736 + 2176 * j) (7 + (j : Int)) (6 + 2 * j) p) ∧ Hid (OkW (12736 + 2112 * j) (7 + (j : Int)) (6 + j) q) ∧ Hid (NoH p) ∧ Hid (One p v) ∧ Hid (BqTo PM u.heap.size D P Y F c Q R S p q w2 wr)) (fun _ i _ => n - (intOf i).toNat)
      case atStart => exact ⟨0, p0, q, fun _ => pe, Nat.zero_le _, by omega, rfl, rfl, Lib.hid (HKP.out.up (by omega) (by omega) (by omega)), Lib.hid (HKQ.out.up (by omega) (by omega) (by omega)), NZ, ON, T3⟩
      case round =>
        clear HKP HKQ NZ ON T3
        obtain ⟨j, p, q, v, hj, hj50, rfl, rfl, HKP, HKQ, HZ, HO, HT⟩ := hrel
        by_cases hlt : j < n ∧ j < 50
        · obtain ⟨hlt, h50⟩ := hlt
          have hj1 : (j : Int) < (n : Int) := by omega
          have hj2 : (0 : Int) ≤ (j : Int) := by omega
          have d1 : decide ((j : Int) < (n : Int)) = true := decide_eq_true hj1
          have d2 : decide ((j : Int) < 50) = true := decide_eq_true (by omega)
          obtain ⟨BA, oA, ha, hBA, hcl⟩ := (HA.out.below (B2.out.trans (BqTo.bot HI.out BQ.out HT.out))).x (by omega)
          subst ha
          obtain ⟨y0, y1, y2⟩ := hcl j hlt
          clear hcl
          generalize A j = t at *
          obtain ⟨kind, l, s⟩ := t
          dsimp only at y0 y1 y2
          have OKP : Hid (OkP p) := Lib.hid (HKP.out.p (by omega) (by omega) (by omega))
          have XA := Lib.hid (heap_alloc_new wr (.cells #[.int .i64 kind, .int .i64 l, .string s] 30))
          have BAl := Lib.hid (balloc wr (.cells #[.int .i64 kind, .int .i64 l, .string s] 30))
          obtain ⟨S2, bq0, nb0, ks0⟩ := HT.out
          have NC : Hid (bqS S2 Y F Q R wr.heap.size = false) := Lib.hid (by
            cases x : bqS S2 Y F Q R wr.heap.size with
            | false => rfl
            | true => have := (bq0.lo HI.out _ x).2; omega)
          have GO := Lib.hid (And.intro nb0 ks0)
          have HQA := Lib.hid (bq0.below HI.out BAl.out)
          have HSH := Lib.hid (short15_any kind l s (wr.alloc (.cells #[.int .i64 kind, .int .i64 l, .string s] 30)))
          have JN := Lib.hid (show j + 1 ≤ n ∧ j + 1 ≤ 50 by omega)
          clear bq0 nb0 ks0 hj hlt h50
          go_upto_region 14 with fail
          clear y0 y1 y2 hj1
          obtain ⟨C, hC⟩ : ∃ C, C = wr.heap.size := ⟨_, rfl⟩
          rw [← hC] at XA NC ⊢
          have HC := Lib.hid hC
          clear hC d1 d2
          generalize wr.alloc (.cells #[.int .i64 kind, .int .i64 l, .string s] 30) = wA at *
          have c0 : wA.cell? ⟨C, 0, none⟩ = some (.int .i64 kind) := by rw [Lib.cell_of_heap XA.out]; rfl
          have c1 : wA.cell? ⟨C, 1, none⟩ = some (.int .i64 l) := by rw [Lib.cell_of_heap XA.out]; rfl
          have c2 : wA.cell? ⟨C, 2, none⟩ = some (.string s) := by rw [Lib.cell_of_heap XA.out]; rfl
          have KP1 : Hid (OkW (12736 + 2176 * j + 2112) (7 + ((j + 1 : Nat) : Int)) (6 + 2 * j + 1) p) := Lib.hid (HKP.out.up (by omega) (by omega) (by omega))
          have KQ1 : Hid (OkW (12736 + 2112 * (j + 1)) (7 + ((j + 1 : Nat) : Int)) (6 + (j + 1)) q) := Lib.hid (HKQ.out.up (by omega) (by omega) (by omega))
          have FINT : Hid (∀ (p2 q2 : Plt) (w : World), BqTo PM u.heap.size D P Y F c Q R S2 p2 q2 wA w → BqTo PM u.heap.size D P Y F c Q R S p2 q2 w2 w) := Lib.hid (fun p2 q2 w t => BqTo.onto GO.out.1 GO.out.2 (BqTo.from BAl.out t))
          have BJ := Lib.hid (show j ≤ 50 by have := JN.out.2; omega)
          by_cases hs : s.size < 500
          · rw [decide_eq_true hs] at HSH
            have HS := Lib.hid hs
            clear hs
            by_cases hA : kind = 8 ∨ kind = 9 ∨ kind = 10
            · rcases hA with rfl | rfl | rfl
              · go_wp2_with fail
                refine (HSH.out).mono ?_
                rintro e w3 ⟨rfl, hb3⟩
                have X3 := Lib.hid ((hb3.block C (lt_of_block XA.out)).trans XA.out)
                have T3 := Lib.hid (HQA.out.stays HI.out hb3)
                have z0 : w3.cell? ⟨C, 0, none⟩ = some (.int .i64 8) := by rw [Lib.cell_of_heap X3.out]; rfl
                have z1 : w3.cell? ⟨C, 1, none⟩ = some (.int .i64 l) := by rw [Lib.cell_of_heap X3.out]; rfl
                have z2 : w3.cell? ⟨C, 2, none⟩ = some (.string s) := by rw [Lib.cell_of_heap X3.out]; rfl
                clear hb3 HSH c0 c1 c2
                have HP := Lib.hid (T3.out.call fun S3 b3 => pPut_bq HI.out b3 OKP.out l s)
                have ONP := Lib.hid (HO.out.put OKP.out HZ.out l s)
                have NZP := Lib.hid (put_noh OKP.out HZ.out l s)
                have KPP : Hid (OkW (12736 + 2176 * j + 2112) (7 + ((j + 1 : Nat) : Int)) (6 + 2 * j + 1) (putQ p l s)) := Lib.hid ((HKP.out.putQ l s).up (by omega) (by omega) (by omega))
                by_cases hE : putQE p l s = 0
                · have PIN := Lib.hid (put_in HO.out hE)
                  rw [if_pos hE] at ONP
                  rw [hE] at HP
                  clear hE
                  by_cases hl : l = (kk : Int)
                  · subst hl
                    go_wp2_with fail
                    refine (HP.out).mono ?_
                    rintro r w5 ⟨rfl, t5⟩
                    have T5 := Lib.hid t5
                    have X5 := Lib.hid (t5.blk NC.out XA.out)
                    have v1 : w5.cell? ⟨C, 1, none⟩ = some (.int .i64 (kk : Int)) := by rw [Lib.cell_of_heap X5.out]; rfl
                    have v2 : w5.cell? ⟨C, 2, none⟩ = some (.string s) := by rw [Lib.cell_of_heap X5.out]; rfl
                    have HF5 := Lib.hid (HFU.out s (by have := HS.out; omega) w5)
                    have HV5 : updV v (kk : Int).toNat (fullP s) kk = fullP s := by unfold updV; rw [Int.toNat_natCast, if_pos rfl]
                    clear t5 HP z0 z1 z2
                    go_wp2_with fail
                    refine (HF5.out).mono ?_
                    rintro r w6 ⟨rfl, hb6⟩
                    have T6 := Lib.hid (T5.out.trans fun S3 b3 => b3.stays HI.out hb6)
                    clear hb6 HF5 v1 v2
                    rw [← HV5]
                    clear HV5
                    have OKP2 : Hid (OkP (putQ p (kk : Int) s)) := Lib.hid (KPP.out.p (by have := BJ.out; omega) (by have := BJ.out; omega) (by have := BJ.out; omega))
                    have HG := Lib.hid (T6.out.call fun S3 b3 => pGet_bq HI.out b3 OKP2.out (kk : Int))
                    have EG := ((ONP.out).get OKP2.out NZP.out (kk : Int)).2 (by omega) (by have := HKK.out; omega)
                    rw [EG.1, EG.2, Int.toNat_natCast] at HG
                    have KP9 : Hid (OkW (12736 + 2176 * (j + 1)) (7 + ((j + 1 : Nat) : Int)) (6 + 2 * (j + 1)) (getQ (putQ p (kk : Int) s) (kk : Int)).1) := Lib.hid ((KPP.out.getQ (kk : Int)).up (by omega) (by omega) (by omega))
                    have NZ9 := Lib.hid (get_noh OKP2.out NZP.out (kk : Int))
                    have ON9 := Lib.hid ((ONP.out).get OKP2.out NZP.out (kk : Int)).1
                    clear EG
                    go_wp2_with fail
                    refine (HG.out).mono ?_
                    rintro r w9 ⟨rfl, t9⟩
                    have T9 := Lib.hid (FINT.out _ _ _ t9)
                    clear t9 HG
                    go_wp2_with fail
                    go_roundw
                    case rel => exact ⟨j + 1, _, q, _, JN.out.1, JN.out.2, rfl, by go_num, KP9, KQ1, NZ9, ON9, T9⟩
                    case measure => have := JN.out; simp [intOf]; omega
                  · have dl : (l == (kk : Int)) = false := by simp [hl]
                    have HV5 : updV v l.toNat (fullP s) kk = v kk := by unfold updV; rw [if_neg (by have := PIN.out.1; omega)]
                    clear hl
                    go_wp2_with fail
                    refine (HP.out).mono ?_
                    rintro r w5 ⟨rfl, t5⟩
                    have T5 := Lib.hid t5
                    have X5 := Lib.hid (t5.blk NC.out XA.out)
                    have v1 : w5.cell? ⟨C, 1, none⟩ = some (.int .i64 l) := by rw [Lib.cell_of_heap X5.out]; rfl
                    clear t5 HP z0 z1 z2
                    rw [← HV5]
                    clear HV5
                    have OKP2 : Hid (OkP (putQ p l s)) := Lib.hid (KPP.out.p (by have := BJ.out; omega) (by have := BJ.out; omega) (by have := BJ.out; omega))
                    have HG := Lib.hid (T5.out.call fun S3 b3 => pGet_bq HI.out b3 OKP2.out (kk : Int))
                    have EG := ((ONP.out).get OKP2.out NZP.out (kk : Int)).2 (by omega) (by have := HKK.out; omega)
                    rw [EG.1, EG.2, Int.toNat_natCast] at HG
                    have KP9 : Hid (OkW (12736 + 2176 * (j + 1)) (7 + ((j + 1 : Nat) : Int)) (6 + 2 * (j + 1)) (getQ (putQ p l s) (kk : Int)).1) := Lib.hid ((KPP.out.getQ (kk : Int)).up (by omega) (by omega) (by omega))
                    have NZ9 := Lib.hid (get_noh OKP2.out NZP.out (kk : Int))
                    have ON9 := Lib.hid ((ONP.out).get OKP2.out NZP.out (kk : Int)).1
                    clear EG
                    go_wp2_with fail
                    refine (HG.out).mono ?_
                    rintro r w9 ⟨rfl, t9⟩
                    have T9 := Lib.hid (FINT.out _ _ _ t9)
                    clear t9 HG
                    go_wp2_with fail
                    go_roundw
                    case rel => exact ⟨j + 1, _, q, _, JN.out.1, JN.out.2, rfl, by go_num, KP9, KQ1, NZ9, ON9, T9⟩
                    case measure => have := JN.out; simp [intOf]; omega
                · rw [if_neg hE] at ONP
                  generalize putQE p l s = e0 at *
                  have de : (e0 == 0) = false := by simp [hE]
                  clear hE
                  go_wp2_with fail
                  refine (HP.out).mono ?_
                  rintro r w5 ⟨rfl, t5⟩
                  have T5 := Lib.hid t5
                  clear t5 HP z0 z1 z2
                  have OKP2 : Hid (OkP (putQ p l s)) := Lib.hid (KPP.out.p (by have := BJ.out; omega) (by have := BJ.out; omega) (by have := BJ.out; omega))
                  have HG := Lib.hid (T5.out.call fun S3 b3 => pGet_bq HI.out b3 OKP2.out (kk : Int))
                  have EG := ((ONP.out).get OKP2.out NZP.out (kk : Int)).2 (by omega) (by have := HKK.out; omega)
                  rw [EG.1, EG.2, Int.toNat_natCast] at HG
                  have KP9 : Hid (OkW (12736 + 2176 * (j + 1)) (7 + ((j + 1 : Nat) : Int)) (6 + 2 * (j + 1)) (getQ (putQ p l s) (kk : Int)).1) := Lib.hid ((KPP.out.getQ (kk : Int)).up (by omega) (by omega) (by omega))
                  have NZ9 := Lib.hid (get_noh OKP2.out NZP.out (kk : Int))
                  have ON9 := Lib.hid ((ONP.out).get OKP2.out NZP.out (kk : Int)).1
                  clear EG
                  go_wp2_with fail
                  refine (HG.out).mono ?_
                  rintro r w9 ⟨rfl, t9⟩
                  have T9 := Lib.hid (FINT.out _ _ _ t9)
                  clear t9 HG
                  go_wp2_with fail
                  go_roundw
                  case rel => exact ⟨j + 1, _, q, v, JN.out.1, JN.out.2, rfl, by go_num, KP9, KQ1, NZ9, ON9, T9⟩
                  case measure => have := JN.out; simp [intOf]; omega
              · go_wp2_with fail
                refine (HSH.out).mono ?_
                rintro e w3 ⟨rfl, hb3⟩
                have X3 := Lib.hid ((hb3.block C (lt_of_block XA.out)).trans XA.out)
                have T3 := Lib.hid (HQA.out.stays HI.out hb3)
                have z0 : w3.cell? ⟨C, 0, none⟩ = some (.int .i64 9) := by rw [Lib.cell_of_heap X3.out]; rfl
                have z1 : w3.cell? ⟨C, 1, none⟩ = some (.int .i64 l) := by rw [Lib.cell_of_heap X3.out]; rfl
                have z2 : w3.cell? ⟨C, 2, none⟩ = some (.string s) := by rw [Lib.cell_of_heap X3.out]; rfl
                clear hb3 HSH c0 c1 c2
                have HP := Lib.hid (T3.out.call fun S3 b3 => pPut_bq HI.out b3 OKP.out l s)
                have ONP := Lib.hid (HO.out.put OKP.out HZ.out l s)
                have NZP := Lib.hid (put_noh OKP.out HZ.out l s)
                have KPP : Hid (OkW (12736 + 2176 * j + 2112) (7 + ((j + 1 : Nat) : Int)) (6 + 2 * j + 1) (putQ p l s)) := Lib.hid ((HKP.out.putQ l s).up (by omega) (by omega) (by omega))
                by_cases hE : putQE p l s = 0
                · have PIN := Lib.hid (put_in HO.out hE)
                  rw [if_pos hE] at ONP
                  rw [hE] at HP
                  clear hE
                  by_cases hl : l = (kk : Int)
                  · subst hl
                    go_wp2_with fail
                    refine (HP.out).mono ?_
                    rintro r w5 ⟨rfl, t5⟩
                    have T5 := Lib.hid t5
                    have X5 := Lib.hid (t5.blk NC.out XA.out)
                    have v1 : w5.cell? ⟨C, 1, none⟩ = some (.int .i64 (kk : Int)) := by rw [Lib.cell_of_heap X5.out]; rfl
                    have v2 : w5.cell? ⟨C, 2, none⟩ = some (.string s) := by rw [Lib.cell_of_heap X5.out]; rfl
                    have HF5 := Lib.hid (HFU.out s (by have := HS.out; omega) w5)
                    have HV5 : updV v (kk : Int).toNat (fullP s) kk = fullP s := by unfold updV; rw [Int.toNat_natCast, if_pos rfl]
                    clear t5 HP z0 z1 z2
                    go_wp2_with fail
                    refine (HF5.out).mono ?_
                    rintro r w6 ⟨rfl, hb6⟩
                    have T6 := Lib.hid (T5.out.trans fun S3 b3 => b3.stays HI.out hb6)
                    clear hb6 HF5 v1 v2
                    rw [← HV5]
                    clear HV5
                    have OKP2 : Hid (OkP (putQ p (kk : Int) s)) := Lib.hid (KPP.out.p (by have := BJ.out; omega) (by have := BJ.out; omega) (by have := BJ.out; omega))
                    have HG := Lib.hid (T6.out.call fun S3 b3 => pGet_bq HI.out b3 OKP2.out (kk : Int))
                    have EG := ((ONP.out).get OKP2.out NZP.out (kk : Int)).2 (by omega) (by have := HKK.out; omega)
                    rw [EG.1, EG.2, Int.toNat_natCast] at HG
                    have KP9 : Hid (OkW (12736 + 2176 * (j + 1)) (7 + ((j + 1 : Nat) : Int)) (6 + 2 * (j + 1)) (getQ (putQ p (kk : Int) s) (kk : Int)).1) := Lib.hid ((KPP.out.getQ (kk : Int)).up (by omega) (by omega) (by omega))
                    have NZ9 := Lib.hid (get_noh OKP2.out NZP.out (kk : Int))
                    have ON9 := Lib.hid ((ONP.out).get OKP2.out NZP.out (kk : Int)).1
                    clear EG
                    go_wp2_with fail
                    refine (HG.out).mono ?_
                    rintro r w9 ⟨rfl, t9⟩
                    have T9 := Lib.hid (FINT.out _ _ _ t9)
                    clear t9 HG
                    go_wp2_with fail
                    go_roundw
                    case rel => exact ⟨j + 1, _, q, _, JN.out.1, JN.out.2, rfl, by go_num, KP9, KQ1, NZ9, ON9, T9⟩
                    case measure => have := JN.out; simp [intOf]; omega
                  · have dl : (l == (kk : Int)) = false := by simp [hl]
                    have HV5 : updV v l.toNat (fullP s) kk = v kk := by unfold updV; rw [if_neg (by have := PIN.out.1; omega)]
                    clear hl
                    go_wp2_with fail
                    refine (HP.out).mono ?_
                    rintro r w5 ⟨rfl, t5⟩
                    have T5 := Lib.hid t5
                    have X5 := Lib.hid (t5.blk NC.out XA.out)
                    have v1 : w5.cell? ⟨C, 1, none⟩ = some (.int .i64 l) := by rw [Lib.cell_of_heap X5.out]; rfl
                    clear t5 HP z0 z1 z2
                    rw [← HV5]
                    clear HV5
                    have OKP2 : Hid (OkP (putQ p l s)) := Lib.hid (KPP.out.p (by have := BJ.out; omega) (by have := BJ.out; omega) (by have := BJ.out; omega))
                    have HG := Lib.hid (T5.out.call fun S3 b3 => pGet_bq HI.out b3 OKP2.out (kk : Int))
                    have EG := ((ONP.out).get OKP2.out NZP.out (kk : Int)).2 (by omega) (by have := HKK.out; omega)
                    rw [EG.1, EG.2, Int.toNat_natCast] at HG
                    have KP9 : Hid (OkW (12736 + 2176 * (j + 1)) (7 + ((j + 1 : Nat) : Int)) (6 + 2 * (j + 1)) (getQ (putQ p l s) (kk : Int)).1) := Lib.hid ((KPP.out.getQ (kk : Int)).up (by omega) (by omega) (by omega))
                    have NZ9 := Lib.hid (get_noh OKP2.out NZP.out (kk : Int))
                    have ON9 := Lib.hid ((ONP.out).get OKP2.out NZP.out (kk : Int)).1
                    clear EG
                    go_wp2_with fail
                    refine (HG.out).mono ?_
                    rintro r w9 ⟨rfl, t9⟩
                    have T9 := Lib.hid (FINT.out _ _ _ t9)
                    clear t9 HG
                    go_wp2_with fail
                    go_roundw
                    case rel => exact ⟨j + 1, _, q, _, JN.out.1, JN.out.2, rfl, by go_num, KP9, KQ1, NZ9, ON9, T9⟩
                    case measure => have := JN.out; simp [intOf]; omega
                · rw [if_neg hE] at ONP
                  generalize putQE p l s = e0 at *
                  have de : (e0 == 0) = false := by simp [hE]
                  clear hE
                  go_wp2_with fail
                  refine (HP.out).mono ?_
                  rintro r w5 ⟨rfl, t5⟩
                  have T5 := Lib.hid t5
                  clear t5 HP z0 z1 z2
                  have OKP2 : Hid (OkP (putQ p l s)) := Lib.hid (KPP.out.p (by have := BJ.out; omega) (by have := BJ.out; omega) (by have := BJ.out; omega))
                  have HG := Lib.hid (T5.out.call fun S3 b3 => pGet_bq HI.out b3 OKP2.out (kk : Int))
                  have EG := ((ONP.out).get OKP2.out NZP.out (kk : Int)).2 (by omega) (by have := HKK.out; omega)
                  rw [EG.1, EG.2, Int.toNat_natCast] at HG
                  have KP9 : Hid (OkW (12736 + 2176 * (j + 1)) (7 + ((j + 1 : Nat) : Int)) (6 + 2 * (j + 1)) (getQ (putQ p l s) (kk : Int)).1) := Lib.hid ((KPP.out.getQ (kk : Int)).up (by omega) (by omega) (by omega))
                  have NZ9 := Lib.hid (get_noh OKP2.out NZP.out (kk : Int))
                  have ON9 := Lib.hid ((ONP.out).get OKP2.out NZP.out (kk : Int)).1
                  clear EG
                  go_wp2_with fail
                  refine (HG.out).mono ?_
                  rintro r w9 ⟨rfl, t9⟩
                  have T9 := Lib.hid (FINT.out _ _ _ t9)
                  clear t9 HG
                  go_wp2_with fail
                  go_roundw
                  case rel => exact ⟨j + 1, _, q, v, JN.out.1, JN.out.2, rfl, by go_num, KP9, KQ1, NZ9, ON9, T9⟩
                  case measure => have := JN.out; simp [intOf]; omega
              · go_wp2_with fail
                refine (HSH.out).mono ?_
                rintro e w3 ⟨rfl, hb3⟩
                have X3 := Lib.hid ((hb3.block C (lt_of_block XA.out)).trans XA.out)
                have T3 := Lib.hid (HQA.out.stays HI.out hb3)
                have z0 : w3.cell? ⟨C, 0, none⟩ = some (.int .i64 10) := by rw [Lib.cell_of_heap X3.out]; rfl
                have z1 : w3.cell? ⟨C, 1, none⟩ = some (.int .i64 l) := by rw [Lib.cell_of_heap X3.out]; rfl
                have z2 : w3.cell? ⟨C, 2, none⟩ = some (.string s) := by rw [Lib.cell_of_heap X3.out]; rfl
                clear hb3 HSH c0 c1 c2
                have HP := Lib.hid (T3.out.call fun S3 b3 => pPut_bq HI.out b3 OKP.out l s)
                have ONP := Lib.hid (HO.out.put OKP.out HZ.out l s)
                have NZP := Lib.hid (put_noh OKP.out HZ.out l s)
                have KPP : Hid (OkW (12736 + 2176 * j + 2112) (7 + ((j + 1 : Nat) : Int)) (6 + 2 * j + 1) (putQ p l s)) := Lib.hid ((HKP.out.putQ l s).up (by omega) (by omega) (by omega))
                by_cases hE : putQE p l s = 0
                · have PIN := Lib.hid (put_in HO.out hE)
                  rw [if_pos hE] at ONP
                  rw [hE] at HP
                  clear hE
                  by_cases hl : l = (kk : Int)
                  · subst hl
                    go_wp2_with fail
                    refine (HP.out).mono ?_
                    rintro r w5 ⟨rfl, t5⟩
                    have T5 := Lib.hid t5
                    have X5 := Lib.hid (t5.blk NC.out XA.out)
                    have v1 : w5.cell? ⟨C, 1, none⟩ = some (.int .i64 (kk : Int)) := by rw [Lib.cell_of_heap X5.out]; rfl
                    have v2 : w5.cell? ⟨C, 2, none⟩ = some (.string s) := by rw [Lib.cell_of_heap X5.out]; rfl
                    have HF5 := Lib.hid (HFU.out s (by have := HS.out; omega) w5)
                    have HV5 : updV v (kk : Int).toNat (fullP s) kk = fullP s := by unfold updV; rw [Int.toNat_natCast, if_pos rfl]
                    clear t5 HP z0 z1 z2
                    go_wp2_with fail
                    refine (HF5.out).mono ?_
                    rintro r w6 ⟨rfl, hb6⟩
                    have T6 := Lib.hid (T5.out.trans fun S3 b3 => b3.stays HI.out hb6)
                    clear hb6 HF5 v1 v2
                    rw [← HV5]
                    clear HV5
                    have OKP2 : Hid (OkP (putQ p (kk : Int) s)) := Lib.hid (KPP.out.p (by have := BJ.out; omega) (by have := BJ.out; omega) (by have := BJ.out; omega))
                    have HG := Lib.hid (T6.out.call fun S3 b3 => pGet_bq HI.out b3 OKP2.out (kk : Int))
                    have EG := ((ONP.out).get OKP2.out NZP.out (kk : Int)).2 (by omega) (by have := HKK.out; omega)
                    rw [EG.1, EG.2, Int.toNat_natCast] at HG
                    have KP9 : Hid (OkW (12736 + 2176 * (j + 1)) (7 + ((j + 1 : Nat) : Int)) (6 + 2 * (j + 1)) (getQ (putQ p (kk : Int) s) (kk : Int)).1) := Lib.hid ((KPP.out.getQ (kk : Int)).up (by omega) (by omega) (by omega))
                    have NZ9 := Lib.hid (get_noh OKP2.out NZP.out (kk : Int))
                    have ON9 := Lib.hid ((ONP.out).get OKP2.out NZP.out (kk : Int)).1
                    clear EG
                    go_wp2_with fail
                    refine (HG.out).mono ?_
                    rintro r w9 ⟨rfl, t9⟩
                    have T9 := Lib.hid (FINT.out _ _ _ t9)
                    clear t9 HG
                    go_wp2_with fail
                    go_roundw
                    case rel => exact ⟨j + 1, _, q, _, JN.out.1, JN.out.2, rfl, by go_num, KP9, KQ1, NZ9, ON9, T9⟩
                    case measure => have := JN.out; simp [intOf]; omega
                  · have dl : (l == (kk : Int)) = false := by simp [hl]
                    have HV5 : updV v l.toNat (fullP s) kk = v kk := by unfold updV; rw [if_neg (by have := PIN.out.1; omega)]
                    clear hl
                    go_wp2_with fail
                    refine (HP.out).mono ?_
                    rintro r w5 ⟨rfl, t5⟩
                    have T5 := Lib.hid t5
                    have X5 := Lib.hid (t5.blk NC.out XA.out)
                    have v1 : w5.cell? ⟨C, 1, none⟩ = some (.int .i64 l) := by rw [Lib.cell_of_heap X5.out]; rfl
                    clear t5 HP z0 z1 z2
                    rw [← HV5]
                    clear HV5
                    have OKP2 : Hid (OkP (putQ p l s)) := Lib.hid (KPP.out.p (by have := BJ.out; omega) (by have := BJ.out; omega) (by have := BJ.out; omega))
                    have HG := Lib.hid (T5.out.call fun S3 b3 => pGet_bq HI.out b3 OKP2.out (kk : Int))
                    have EG := ((ONP.out).get OKP2.out NZP.out (kk : Int)).2 (by omega) (by have := HKK.out; omega)
                    rw [EG.1, EG.2, Int.toNat_natCast] at HG
                    have KP9 : Hid (OkW (12736 + 2176 * (j + 1)) (7 + ((j + 1 : Nat) : Int)) (6 + 2 * (j + 1)) (getQ (putQ p l s) (kk : Int)).1) := Lib.hid ((KPP.out.getQ (kk : Int)).up (by omega) (by omega) (by omega))
                    have NZ9 := Lib.hid (get_noh OKP2.out NZP.out (kk : Int))
                    have ON9 := Lib.hid ((ONP.out).get OKP2.out NZP.out (kk : Int)).1
                    clear EG
                    go_wp2_with fail
                    refine (HG.out).mono ?_
                    rintro r w9 ⟨rfl, t9⟩
                    have T9 := Lib.hid (FINT.out _ _ _ t9)
                    clear t9 HG
                    go_wp2_with fail
                    go_roundw
                    case rel => exact ⟨j + 1, _, q, _, JN.out.1, JN.out.2, rfl, by go_num, KP9, KQ1, NZ9, ON9, T9⟩
                    case measure => have := JN.out; simp [intOf]; omega
                · rw [if_neg hE] at ONP
                  generalize putQE p l s = e0 at *
                  have de : (e0 == 0) = false := by simp [hE]
                  clear hE
                  go_wp2_with fail
                  refine (HP.out).mono ?_
                  rintro r w5 ⟨rfl, t5⟩
                  have T5 := Lib.hid t5
                  clear t5 HP z0 z1 z2
                  have OKP2 : Hid (OkP (putQ p l s)) := Lib.hid (KPP.out.p (by have := BJ.out; omega) (by have := BJ.out; omega) (by have := BJ.out; omega))
                  have HG := Lib.hid (T5.out.call fun S3 b3 => pGet_bq HI.out b3 OKP2.out (kk : Int))
                  have EG := ((ONP.out).get OKP2.out NZP.out (kk : Int)).2 (by omega) (by have := HKK.out; omega)
                  rw [EG.1, EG.2, Int.toNat_natCast] at HG
                  have KP9 : Hid (OkW (12736 + 2176 * (j + 1)) (7 + ((j + 1 : Nat) : Int)) (6 + 2 * (j + 1)) (getQ (putQ p l s) (kk : Int)).1) := Lib.hid ((KPP.out.getQ (kk : Int)).up (by omega) (by omega) (by omega))
                  have NZ9 := Lib.hid (get_noh OKP2.out NZP.out (kk : Int))
                  have ON9 := Lib.hid ((ONP.out).get OKP2.out NZP.out (kk : Int)).1
                  clear EG
                  go_wp2_with fail
                  refine (HG.out).mono ?_
                  rintro r w9 ⟨rfl, t9⟩
                  have T9 := Lib.hid (FINT.out _ _ _ t9)
                  clear t9 HG
                  go_wp2_with fail
                  go_roundw
                  case rel => exact ⟨j + 1, _, q, v, JN.out.1, JN.out.2, rfl, by go_num, KP9, KQ1, NZ9, ON9, T9⟩
                  case measure => have := JN.out; simp [intOf]; omega
            · by_cases hB : kind = 5 ∨ kind = 6 ∨ kind = 7 ∨ kind = 12 ∨ kind = 13
              · clear hA
                rcases hB with rfl | rfl | rfl | rfl | rfl
                · go_wp2_with fail
                  refine (HSH.out).mono ?_
                  rintro e w3 ⟨rfl, hb3⟩
                  have X3 := Lib.hid ((hb3.block C (lt_of_block XA.out)).trans XA.out)
                  have T3 := Lib.hid (HQA.out.stays HI.out hb3)
                  have z0 : w3.cell? ⟨C, 0, none⟩ = some (.int .i64 5) := by rw [Lib.cell_of_heap X3.out]; rfl
                  have z1 : w3.cell? ⟨C, 1, none⟩ = some (.int .i64 l) := by rw [Lib.cell_of_heap X3.out]; rfl
                  have z2 : w3.cell? ⟨C, 2, none⟩ = some (.string s) := by rw [Lib.cell_of_heap X3.out]; rfl
                  clear hb3 HSH c0 c1 c2
                  have HD := Lib.hid (T3.out.did fun S3 b3 => do15_any HI.out b3 HKP.out HKQ.out (by have := BJ.out; omega) (by have := BJ.out; omega) (by have := BJ.out; omega) (by have := BJ.out; omega) (by have := BJ.out; omega) 5 l s (by have := HS.out; omega))
                  have ONP := Lib.hid (HO.out.doQ OKP.out HZ.out (kind := 5) (by decide) l s)
                  have NZP := Lib.hid (do_noh OKP.out HZ.out 5 l s (by decide))
                  have KPP : Hid (OkW (12736 + 2176 * j + 2112) (7 + ((j + 1 : Nat) : Int)) (6 + 2 * j + 1) (doQ p 5 l s)) := Lib.hid ((HKP.out.doQ 5 l s).up (by omega) (by omega) (by omega))
                  have KQP : Hid (OkW (12736 + 2112 * (j + 1)) (7 + ((j + 1 : Nat) : Int)) (6 + (j + 1)) (do15 q 5 l s)) := Lib.hid ((HKQ.out.do15 5 l s).up (by omega) (by omega) (by omega))
                  go_wp2_with fail
                  refine (HD.out).mono ?_
                  rintro r w5 ⟨b5, rfl, t5⟩
                  have T5 := Lib.hid t5
                  clear t5 HD z0 z1 z2
                  have OKP2 : Hid (OkP (doQ p 5 l s)) := Lib.hid (KPP.out.p (by have := BJ.out; omega) (by have := BJ.out; omega) (by have := BJ.out; omega))
                  have HG := Lib.hid (T5.out.call fun S3 b3 => pGet_bq HI.out b3 OKP2.out (kk : Int))
                  have EG := ((ONP.out).get OKP2.out NZP.out (kk : Int)).2 (by omega) (by have := HKK.out; omega)
                  rw [EG.1, EG.2, Int.toNat_natCast] at HG
                  have KP9 : Hid (OkW (12736 + 2176 * (j + 1)) (7 + ((j + 1 : Nat) : Int)) (6 + 2 * (j + 1)) (getQ (doQ p 5 l s) (kk : Int)).1) := Lib.hid ((KPP.out.getQ (kk : Int)).up (by omega) (by omega) (by omega))
                  have NZ9 := Lib.hid (get_noh OKP2.out NZP.out (kk : Int))
                  have ON9 := Lib.hid ((ONP.out).get OKP2.out NZP.out (kk : Int)).1
                  clear EG
                  go_wp2_with fail
                  refine (HG.out).mono ?_
                  rintro r w9 ⟨rfl, t9⟩
                  have T9 := Lib.hid (FINT.out _ _ _ t9)
                  clear t9 HG
                  go_wp2_with fail
                  go_roundw
                  case rel => exact ⟨j + 1, _, do15 q 5 l s, v, JN.out.1, JN.out.2, rfl, by go_num, KP9, KQP, NZ9, ON9, T9⟩
                  case measure => have := JN.out; simp [intOf]; omega
                · go_wp2_with fail
                  refine (HSH.out).mono ?_
                  rintro e w3 ⟨rfl, hb3⟩
                  have X3 := Lib.hid ((hb3.block C (lt_of_block XA.out)).trans XA.out)
                  have T3 := Lib.hid (HQA.out.stays HI.out hb3)
                  have z0 : w3.cell? ⟨C, 0, none⟩ = some (.int .i64 6) := by rw [Lib.cell_of_heap X3.out]; rfl
                  have z1 : w3.cell? ⟨C, 1, none⟩ = some (.int .i64 l) := by rw [Lib.cell_of_heap X3.out]; rfl
                  have z2 : w3.cell? ⟨C, 2, none⟩ = some (.string s) := by rw [Lib.cell_of_heap X3.out]; rfl
                  clear hb3 HSH c0 c1 c2
                  have HD := Lib.hid (T3.out.did fun S3 b3 => do15_any HI.out b3 HKP.out HKQ.out (by have := BJ.out; omega) (by have := BJ.out; omega) (by have := BJ.out; omega) (by have := BJ.out; omega) (by have := BJ.out; omega) 6 l s (by have := HS.out; omega))
                  have ONP := Lib.hid (HO.out.doQ OKP.out HZ.out (kind := 6) (by decide) l s)
                  have NZP := Lib.hid (do_noh OKP.out HZ.out 6 l s (by decide))
                  have KPP : Hid (OkW (12736 + 2176 * j + 2112) (7 + ((j + 1 : Nat) : Int)) (6 + 2 * j + 1) (doQ p 6 l s)) := Lib.hid ((HKP.out.doQ 6 l s).up (by omega) (by omega) (by omega))
                  have KQP : Hid (OkW (12736 + 2112 * (j + 1)) (7 + ((j + 1 : Nat) : Int)) (6 + (j + 1)) (do15 q 6 l s)) := Lib.hid ((HKQ.out.do15 6 l s).up (by omega) (by omega) (by omega))
                  go_wp2_with fail
                  refine (HD.out).mono ?_
                  rintro r w5 ⟨b5, rfl, t5⟩
                  have T5 := Lib.hid t5
                  clear t5 HD z0 z1 z2
                  have OKP2 : Hid (OkP (doQ p 6 l s)) := Lib.hid (KPP.out.p (by have := BJ.out; omega) (by have := BJ.out; omega) (by have := BJ.out; omega))
                  have HG := Lib.hid (T5.out.call fun S3 b3 => pGet_bq HI.out b3 OKP2.out (kk : Int))
                  have EG := ((ONP.out).get OKP2.out NZP.out (kk : Int)).2 (by omega) (by have := HKK.out; omega)
                  rw [EG.1, EG.2, Int.toNat_natCast] at HG
                  have KP9 : Hid (OkW (12736 + 2176 * (j + 1)) (7 + ((j + 1 : Nat) : Int)) (6 + 2 * (j + 1)) (getQ (doQ p 6 l s) (kk : Int)).1) := Lib.hid ((KPP.out.getQ (kk : Int)).up (by omega) (by omega) (by omega))
                  have NZ9 := Lib.hid (get_noh OKP2.out NZP.out (kk : Int))
                  have ON9 := Lib.hid ((ONP.out).get OKP2.out NZP.out (kk : Int)).1
                  clear EG
                  go_wp2_with fail
                  refine (HG.out).mono ?_
                  rintro r w9 ⟨rfl, t9⟩
                  have T9 := Lib.hid (FINT.out _ _ _ t9)
                  clear t9 HG
                  go_wp2_with fail
                  go_roundw
                  case rel => exact ⟨j + 1, _, do15 q 6 l s, v, JN.out.1, JN.out.2, rfl, by go_num, KP9, KQP, NZ9, ON9, T9⟩
                  case measure => have := JN.out; simp [intOf]; omega
                · go_wp2_with fail
                  refine (HSH.out).mono ?_
                  rintro e w3 ⟨rfl, hb3⟩
                  have X3 := Lib.hid ((hb3.block C (lt_of_block XA.out)).trans XA.out)
                  have T3 := Lib.hid (HQA.out.stays HI.out hb3)
                  have z0 : w3.cell? ⟨C, 0, none⟩ = some (.int .i64 7) := by rw [Lib.cell_of_heap X3.out]; rfl
                  have z1 : w3.cell? ⟨C, 1, none⟩ = some (.int .i64 l) := by rw [Lib.cell_of_heap X3.out]; rfl
                  have z2 : w3.cell? ⟨C, 2, none⟩ = some (.string s) := by rw [Lib.cell_of_heap X3.out]; rfl
                  clear hb3 HSH c0 c1 c2
                  have HD := Lib.hid (T3.out.did fun S3 b3 => do15_any HI.out b3 HKP.out HKQ.out (by have := BJ.out; omega) (by have := BJ.out; omega) (by have := BJ.out; omega) (by have := BJ.out; omega) (by have := BJ.out; omega) 7 l s (by have := HS.out; omega))
                  have ONP := Lib.hid (HO.out.doQ OKP.out HZ.out (kind := 7) (by decide) l s)
                  have NZP := Lib.hid (do_noh OKP.out HZ.out 7 l s (by decide))
                  have KPP : Hid (OkW (12736 + 2176 * j + 2112) (7 + ((j + 1 : Nat) : Int)) (6 + 2 * j + 1) (doQ p 7 l s)) := Lib.hid ((HKP.out.doQ 7 l s).up (by omega) (by omega) (by omega))
                  have KQP : Hid (OkW (12736 + 2112 * (j + 1)) (7 + ((j + 1 : Nat) : Int)) (6 + (j + 1)) (do15 q 7 l s)) := Lib.hid ((HKQ.out.do15 7 l s).up (by omega) (by omega) (by omega))
                  go_wp2_with fail
                  refine (HD.out).mono ?_
                  rintro r w5 ⟨b5, rfl, t5⟩
                  have T5 := Lib.hid t5
                  clear t5 HD z0 z1 z2
                  have OKP2 : Hid (OkP (doQ p 7 l s)) := Lib.hid (KPP.out.p (by have := BJ.out; omega) (by have := BJ.out; omega) (by have := BJ.out; omega))
                  have HG := Lib.hid (T5.out.call fun S3 b3 => pGet_bq HI.out b3 OKP2.out (kk : Int))
                  have EG := ((ONP.out).get OKP2.out NZP.out (kk : Int)).2 (by omega) (by have := HKK.out; omega)
                  rw [EG.1, EG.2, Int.toNat_natCast] at HG
                  have KP9 : Hid (OkW (12736 + 2176 * (j + 1)) (7 + ((j + 1 : Nat) : Int)) (6 + 2 * (j + 1)) (getQ (doQ p 7 l s) (kk : Int)).1) := Lib.hid ((KPP.out.getQ (kk : Int)).up (by omega) (by omega) (by omega))
                  have NZ9 := Lib.hid (get_noh OKP2.out NZP.out (kk : Int))
                  have ON9 := Lib.hid ((ONP.out).get OKP2.out NZP.out (kk : Int)).1
                  clear EG
                  go_wp2_with fail
                  refine (HG.out).mono ?_
                  rintro r w9 ⟨rfl, t9⟩
                  have T9 := Lib.hid (FINT.out _ _ _ t9)
                  clear t9 HG
                  go_wp2_with fail
                  go_roundw
                  case rel => exact ⟨j + 1, _, do15 q 7 l s, v, JN.out.1, JN.out.2, rfl, by go_num, KP9, KQP, NZ9, ON9, T9⟩
                  case measure => have := JN.out; simp [intOf]; omega
                · go_wp2_with fail
                  refine (HSH.out).mono ?_
                  rintro e w3 ⟨rfl, hb3⟩
                  have X3 := Lib.hid ((hb3.block C (lt_of_block XA.out)).trans XA.out)
                  have T3 := Lib.hid (HQA.out.stays HI.out hb3)
                  have z0 : w3.cell? ⟨C, 0, none⟩ = some (.int .i64 12) := by rw [Lib.cell_of_heap X3.out]; rfl
                  have z1 : w3.cell? ⟨C, 1, none⟩ = some (.int .i64 l) := by rw [Lib.cell_of_heap X3.out]; rfl
                  have z2 : w3.cell? ⟨C, 2, none⟩ = some (.string s) := by rw [Lib.cell_of_heap X3.out]; rfl
                  clear hb3 HSH c0 c1 c2
                  have HD := Lib.hid (T3.out.did fun S3 b3 => do15_any HI.out b3 HKP.out HKQ.out (by have := BJ.out; omega) (by have := BJ.out; omega) (by have := BJ.out; omega) (by have := BJ.out; omega) (by have := BJ.out; omega) 12 l s (by have := HS.out; omega))
                  have ONP := Lib.hid (HO.out.doQ OKP.out HZ.out (kind := 12) (by decide) l s)
                  have NZP := Lib.hid (do_noh OKP.out HZ.out 12 l s (by decide))
                  have KPP : Hid (OkW (12736 + 2176 * j + 2112) (7 + ((j + 1 : Nat) : Int)) (6 + 2 * j + 1) (doQ p 12 l s)) := Lib.hid ((HKP.out.doQ 12 l s).up (by omega) (by omega) (by omega))
                  have KQP : Hid (OkW (12736 + 2112 * (j + 1)) (7 + ((j + 1 : Nat) : Int)) (6 + (j + 1)) (do15 q 12 l s)) := Lib.hid ((HKQ.out.do15 12 l s).up (by omega) (by omega) (by omega))
                  go_wp2_with fail
                  refine (HD.out).mono ?_
                  rintro r w5 ⟨b5, rfl, t5⟩
                  have T5 := Lib.hid t5
                  clear t5 HD z0 z1 z2
                  have OKP2 : Hid (OkP (doQ p 12 l s)) := Lib.hid (KPP.out.p (by have := BJ.out; omega) (by have := BJ.out; omega) (by have := BJ.out; omega))
                  have HG := Lib.hid (T5.out.call fun S3 b3 => pGet_bq HI.out b3 OKP2.out (kk : Int))
                  have EG := ((ONP.out).get OKP2.out NZP.out (kk : Int)).2 (by omega) (by have := HKK.out; omega)
                  rw [EG.1, EG.2, Int.toNat_natCast] at HG
                  have KP9 : Hid (OkW (12736 + 2176 * (j + 1)) (7 + ((j + 1 : Nat) : Int)) (6 + 2 * (j + 1)) (getQ (doQ p 12 l s) (kk : Int)).1) := Lib.hid ((KPP.out.getQ (kk : Int)).up (by omega) (by omega) (by omega))
                  have NZ9 := Lib.hid (get_noh OKP2.out NZP.out (kk : Int))
                  have ON9 := Lib.hid ((ONP.out).get OKP2.out NZP.out (kk : Int)).1
                  clear EG
                  go_wp2_with fail
                  refine (HG.out).mono ?_
                  rintro r w9 ⟨rfl, t9⟩
                  have T9 := Lib.hid (FINT.out _ _ _ t9)
                  clear t9 HG
                  go_wp2_with fail
                  go_roundw
                  case rel => exact ⟨j + 1, _, do15 q 12 l s, v, JN.out.1, JN.out.2, rfl, by go_num, KP9, KQP, NZ9, ON9, T9⟩
                  case measure => have := JN.out; simp [intOf]; omega
                · go_wp2_with fail
                  refine (HSH.out).mono ?_
                  rintro e w3 ⟨rfl, hb3⟩
                  have X3 := Lib.hid ((hb3.block C (lt_of_block XA.out)).trans XA.out)
                  have T3 := Lib.hid (HQA.out.stays HI.out hb3)
                  have z0 : w3.cell? ⟨C, 0, none⟩ = some (.int .i64 13) := by rw [Lib.cell_of_heap X3.out]; rfl
                  have z1 : w3.cell? ⟨C, 1, none⟩ = some (.int .i64 l) := by rw [Lib.cell_of_heap X3.out]; rfl
                  have z2 : w3.cell? ⟨C, 2, none⟩ = some (.string s) := by rw [Lib.cell_of_heap X3.out]; rfl
                  clear hb3 HSH c0 c1 c2
                  have HD := Lib.hid (T3.out.did fun S3 b3 => do15_any HI.out b3 HKP.out HKQ.out (by have := BJ.out; omega) (by have := BJ.out; omega) (by have := BJ.out; omega) (by have := BJ.out; omega) (by have := BJ.out; omega) 13 l s (by have := HS.out; omega))
                  have ONP := Lib.hid (HO.out.doQ OKP.out HZ.out (kind := 13) (by decide) l s)
                  have NZP := Lib.hid (do_noh OKP.out HZ.out 13 l s (by decide))
                  have KPP : Hid (OkW (12736 + 2176 * j + 2112) (7 + ((j + 1 : Nat) : Int)) (6 + 2 * j + 1) (doQ p 13 l s)) := Lib.hid ((HKP.out.doQ 13 l s).up (by omega) (by omega) (by omega))
                  have KQP : Hid (OkW (12736 + 2112 * (j + 1)) (7 + ((j + 1 : Nat) : Int)) (6 + (j + 1)) (do15 q 13 l s)) := Lib.hid ((HKQ.out.do15 13 l s).up (by omega) (by omega) (by omega))
                  go_wp2_with fail
                  refine (HD.out).mono ?_
                  rintro r w5 ⟨b5, rfl, t5⟩
                  have T5 := Lib.hid t5
                  clear t5 HD z0 z1 z2
                  have OKP2 : Hid (OkP (doQ p 13 l s)) := Lib.hid (KPP.out.p (by have := BJ.out; omega) (by have := BJ.out; omega) (by have := BJ.out; omega))
                  have HG := Lib.hid (T5.out.call fun S3 b3 => pGet_bq HI.out b3 OKP2.out (kk : Int))
                  have EG := ((ONP.out).get OKP2.out NZP.out (kk : Int)).2 (by omega) (by have := HKK.out; omega)
                  rw [EG.1, EG.2, Int.toNat_natCast] at HG
                  have KP9 : Hid (OkW (12736 + 2176 * (j + 1)) (7 + ((j + 1 : Nat) : Int)) (6 + 2 * (j + 1)) (getQ (doQ p 13 l s) (kk : Int)).1) := Lib.hid ((KPP.out.getQ (kk : Int)).up (by omega) (by omega) (by omega))
                  have NZ9 := Lib.hid (get_noh OKP2.out NZP.out (kk : Int))
                  have ON9 := Lib.hid ((ONP.out).get OKP2.out NZP.out (kk : Int)).1
                  clear EG
                  go_wp2_with fail
                  refine (HG.out).mono ?_
                  rintro r w9 ⟨rfl, t9⟩
                  have T9 := Lib.hid (FINT.out _ _ _ t9)
                  clear t9 HG
                  go_wp2_with fail
                  go_roundw
                  case rel => exact ⟨j + 1, _, do15 q 13 l s, v, JN.out.1, JN.out.2, rfl, by go_num, KP9, KQP, NZ9, ON9, T9⟩
                  case measure => have := JN.out; simp [intOf]; omega
              · have d12 : (kind == 12) = false := by simp; omega
                have d13 : (kind == 13) = false := by simp; omega
                by_cases hL : kind < 5
                · have e8 : decide ((8 : Int) ≤ kind) = false := decide_eq_false (by omega)
                  have e5 : decide ((5 : Int) ≤ kind) = false := decide_eq_false (by omega)
                  clear hA hB hL
                  go_wp2_with fail
                  refine (HSH.out).mono ?_
                  rintro e w3 ⟨rfl, hb3⟩
                  have X3 := Lib.hid ((hb3.block C (lt_of_block XA.out)).trans XA.out)
                  have T3 := Lib.hid (HQA.out.stays HI.out hb3)
                  have z0 : w3.cell? ⟨C, 0, none⟩ = some (.int .i64 kind) := by rw [Lib.cell_of_heap X3.out]; rfl
                  have z1 : w3.cell? ⟨C, 1, none⟩ = some (.int .i64 l) := by rw [Lib.cell_of_heap X3.out]; rfl
                  have z2 : w3.cell? ⟨C, 2, none⟩ = some (.string s) := by rw [Lib.cell_of_heap X3.out]; rfl
                  clear hb3 HSH c0 c1 c2
                  have OKP2 : Hid (OkP (p)) := Lib.hid (KP1.out.p (by have := BJ.out; omega) (by have := BJ.out; omega) (by have := BJ.out; omega))
                  have HG := Lib.hid (T3.out.call fun S3 b3 => pGet_bq HI.out b3 OKP2.out (kk : Int))
                  have EG := ((HO.out).get OKP2.out HZ.out (kk : Int)).2 (by omega) (by have := HKK.out; omega)
                  rw [EG.1, EG.2, Int.toNat_natCast] at HG
                  have KP9 : Hid (OkW (12736 + 2176 * (j + 1)) (7 + ((j + 1 : Nat) : Int)) (6 + 2 * (j + 1)) (getQ (p) (kk : Int)).1) := Lib.hid ((KP1.out.getQ (kk : Int)).up (by omega) (by omega) (by omega))
                  have NZ9 := Lib.hid (get_noh OKP2.out HZ.out (kk : Int))
                  have ON9 := Lib.hid ((HO.out).get OKP2.out HZ.out (kk : Int)).1
                  clear EG
                  go_wp2_with fail
                  refine (HG.out).mono ?_
                  rintro r w9 ⟨rfl, t9⟩
                  have T9 := Lib.hid (FINT.out _ _ _ t9)
                  clear t9 HG
                  go_wp2_with fail
                  go_roundw
                  case rel => exact ⟨j + 1, _, q, v, JN.out.1, JN.out.2, rfl, by go_num, KP9, KQ1, NZ9, ON9, T9⟩
                  case measure => have := JN.out; simp [intOf]; omega
                · by_cases h11 : kind = 11
                  · subst h11
                    clear hA hB hL d12 d13
                    go_wp2_with fail
                    refine (HSH.out).mono ?_
                    rintro e w3 ⟨rfl, hb3⟩
                    have X3 := Lib.hid ((hb3.block C (lt_of_block XA.out)).trans XA.out)
                    have T3 := Lib.hid (HQA.out.stays HI.out hb3)
                    have z0 : w3.cell? ⟨C, 0, none⟩ = some (.int .i64 11) := by rw [Lib.cell_of_heap X3.out]; rfl
                    have z1 : w3.cell? ⟨C, 1, none⟩ = some (.int .i64 l) := by rw [Lib.cell_of_heap X3.out]; rfl
                    have z2 : w3.cell? ⟨C, 2, none⟩ = some (.string s) := by rw [Lib.cell_of_heap X3.out]; rfl
                    clear hb3 HSH c0 c1 c2
                    have OKP2 : Hid (OkP (p)) := Lib.hid (KP1.out.p (by have := BJ.out; omega) (by have := BJ.out; omega) (by have := BJ.out; omega))
                    have HG := Lib.hid (T3.out.call fun S3 b3 => pGet_bq HI.out b3 OKP2.out (kk : Int))
                    have EG := ((HO.out).get OKP2.out HZ.out (kk : Int)).2 (by omega) (by have := HKK.out; omega)
                    rw [EG.1, EG.2, Int.toNat_natCast] at HG
                    have KP9 : Hid (OkW (12736 + 2176 * (j + 1)) (7 + ((j + 1 : Nat) : Int)) (6 + 2 * (j + 1)) (getQ (p) (kk : Int)).1) := Lib.hid ((KP1.out.getQ (kk : Int)).up (by omega) (by omega) (by omega))
                    have NZ9 := Lib.hid (get_noh OKP2.out HZ.out (kk : Int))
                    have ON9 := Lib.hid ((HO.out).get OKP2.out HZ.out (kk : Int)).1
                    clear EG
                    go_wp2_with fail
                    refine (HG.out).mono ?_
                    rintro r w9 ⟨rfl, t9⟩
                    have T9 := Lib.hid (FINT.out _ _ _ t9)
                    clear t9 HG
                    go_wp2_with fail
                    go_roundw
                    case rel => exact ⟨j + 1, _, q, v, JN.out.1, JN.out.2, rfl, by go_num, KP9, KQ1, NZ9, ON9, T9⟩
                    case measure => have := JN.out; simp [intOf]; omega
                  · have e8 : decide ((8 : Int) ≤ kind) = true := decide_eq_true (by omega)
                    have e10 : decide (kind ≤ 10) = false := decide_eq_false (by omega)
                    have e5 : decide ((5 : Int) ≤ kind) = true := decide_eq_true (by omega)
                    have e7 : decide (kind ≤ 7) = false := decide_eq_false (by omega)
                    clear hA hB hL h11
                    go_wp2_with fail
                    refine (HSH.out).mono ?_
                    rintro e w3 ⟨rfl, hb3⟩
                    have X3 := Lib.hid ((hb3.block C (lt_of_block XA.out)).trans XA.out)
                    have T3 := Lib.hid (HQA.out.stays HI.out hb3)
                    have z0 : w3.cell? ⟨C, 0, none⟩ = some (.int .i64 kind) := by rw [Lib.cell_of_heap X3.out]; rfl
                    have z1 : w3.cell? ⟨C, 1, none⟩ = some (.int .i64 l) := by rw [Lib.cell_of_heap X3.out]; rfl
                    have z2 : w3.cell? ⟨C, 2, none⟩ = some (.string s) := by rw [Lib.cell_of_heap X3.out]; rfl
                    clear hb3 HSH c0 c1 c2
                    have OKP2 : Hid (OkP (p)) := Lib.hid (KP1.out.p (by have := BJ.out; omega) (by have := BJ.out; omega) (by have := BJ.out; omega))
                    have HG := Lib.hid (T3.out.call fun S3 b3 => pGet_bq HI.out b3 OKP2.out (kk : Int))
                    have EG := ((HO.out).get OKP2.out HZ.out (kk : Int)).2 (by omega) (by have := HKK.out; omega)
                    rw [EG.1, EG.2, Int.toNat_natCast] at HG
                    have KP9 : Hid (OkW (12736 + 2176 * (j + 1)) (7 + ((j + 1 : Nat) : Int)) (6 + 2 * (j + 1)) (getQ (p) (kk : Int)).1) := Lib.hid ((KP1.out.getQ (kk : Int)).up (by omega) (by omega) (by omega))
                    have NZ9 := Lib.hid (get_noh OKP2.out HZ.out (kk : Int))
                    have ON9 := Lib.hid ((HO.out).get OKP2.out HZ.out (kk : Int)).1
                    clear EG
                    go_wp2_with fail
                    refine (HG.out).mono ?_
                    rintro r w9 ⟨rfl, t9⟩
                    have T9 := Lib.hid (FINT.out _ _ _ t9)
                    clear t9 HG
                    go_wp2_with fail
                    go_roundw
                    case rel => exact ⟨j + 1, _, q, v, JN.out.1, JN.out.2, rfl, by go_num, KP9, KQ1, NZ9, ON9, T9⟩
                    case measure => have := JN.out; simp [intOf]; omega
          · rw [decide_eq_false hs] at HSH
            clear hs
            go_wp2_with fail
            refine (HSH.out).mono ?_
            rintro e w3 ⟨rfl, hb3⟩
            have X3 := Lib.hid ((hb3.block C (lt_of_block XA.out)).trans XA.out)
            have T3 := Lib.hid (HQA.out.stays HI.out hb3)
            have z0 : w3.cell? ⟨C, 0, none⟩ = some (.int .i64 kind) := by rw [Lib.cell_of_heap X3.out]; rfl
            have z1 : w3.cell? ⟨C, 1, none⟩ = some (.int .i64 l) := by rw [Lib.cell_of_heap X3.out]; rfl
            have z2 : w3.cell? ⟨C, 2, none⟩ = some (.string s) := by rw [Lib.cell_of_heap X3.out]; rfl
            clear hb3 HSH c0 c1 c2
            have OKP2 : Hid (OkP (p)) := Lib.hid (KP1.out.p (by have := BJ.out; omega) (by have := BJ.out; omega) (by have := BJ.out; omega))
            have HG := Lib.hid (T3.out.call fun S3 b3 => pGet_bq HI.out b3 OKP2.out (kk : Int))
            have EG := ((HO.out).get OKP2.out HZ.out (kk : Int)).2 (by omega) (by have := HKK.out; omega)
            rw [EG.1, EG.2, Int.toNat_natCast] at HG
            have KP9 : Hid (OkW (12736 + 2176 * (j + 1)) (7 + ((j + 1 : Nat) : Int)) (6 + 2 * (j + 1)) (getQ (p) (kk : Int)).1) := Lib.hid ((KP1.out.getQ (kk : Int)).up (by omega) (by omega) (by omega))
            have NZ9 := Lib.hid (get_noh OKP2.out HZ.out (kk : Int))
            have ON9 := Lib.hid ((HO.out).get OKP2.out HZ.out (kk : Int)).1
            clear EG
            go_wp2_with fail
            refine (HG.out).mono ?_
            rintro r w9 ⟨rfl, t9⟩
            have T9 := Lib.hid (FINT.out _ _ _ t9)
            clear t9 HG
            go_wp2_with fail
            go_roundw
            case rel => exact ⟨j + 1, _, q, v, JN.out.1, JN.out.2, rfl, by go_num, KP9, KQ1, NZ9, ON9, T9⟩
            case measure => have := JN.out; simp [intOf]; omega
        · have HEX := Lib.hid hlt
          clear hlt
          go_upto_region 11 with fail
          go_cut [49] from 42 to 120 (fun cv wx => cv = .bool false ∧ wx = wr)
          case first =>
            by_cases h1 : j < n
            · have h2 : j = 50 := by have := HEX.out; omega
              have d1 : decide ((j : Int) < (n : Int)) = true := decide_eq_true (by omega)
              have d2 : decide ((j : Int) < 50) = false := decide_eq_false (by omega)
              have d3 : decide (j < 50) = false := decide_eq_false (by omega)
              clear h2 h1
              go_wp2_with fail
              all_goals (go_meet; exact ⟨rfl, rfl⟩)
            · have d1 : decide ((j : Int) < (n : Int)) = false := decide_eq_false (by omega)
              have d3 : decide (j < n) = false := decide_eq_false (by omega)
              clear h1
              go_wp2_with fail
              all_goals (go_meet; exact ⟨rfl, rfl⟩)
          case rest =>
          obtain ⟨rfl, hw⟩ := hcut
          rw [hw]
          clear hw
          have BF := Lib.hid (B2.out.trans (BqTo.bot HI.out BQ.out HT.out))
          clear HEX hj hj50
          go_wp2_with fail
          go_ret
          exact ⟨rfl, BF.out⟩
end
end Go.Proofs.YtmflkkkbahghgaaGreat
