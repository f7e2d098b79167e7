/- The walk of PoolAborts, whatever the program's store is made of. Slices that came in, as rows: what the frames share. What came in, opened: stage 15's acts. -/
import Derived.Deep.CutRange
import Derived.Test.YtmflkkkbahghgaaGreatYZ32
import Derived.Test.YtmflkkkbahghgaaGreatYZ5
namespace Go.Proofs.YtmflkkkbahghgaaGreat
open Go.RowKit Go.Deep
set_option linter.unusedVariables false
set_option linter.unusedSimpArgs false
set_option maxRecDepth 100000

section
variable {PM : StM} {PF PC : FlM}
theorem BqTo.did {base D P Y F c Q R : Nat} {p q p3 q3 : Plt} {S : Nat → Bool} {u u2 : World} {N : Nat} {args : Array Value} (t : BqTo PM base D P Y F c Q R S p q u u2) (h : ∀ S2, Bq PM base D P Y F c Q R p q S2 u2 → Calls Tryz.prog N args u2 (Did PM base D P Y F c Q R S2 p3 q3 u2)) : Calls Tryz.prog N args u2 (Did PM base D P Y F c Q R S p3 q3 u) := by
  obtain ⟨S2, a2, n2, k2⟩ := t
  refine (h S2 a2).mono ?_
  rintro r u' ⟨b, rfl, S3, a3, n3, k3⟩
  exact ⟨b, rfl, S3, a3, n2.then n3 k2.size, kps_new (newBq n2) k2 k3⟩
set_option maxHeartbeats 6400000 in
theorem aborts15_walk (I : Sh14 PM PF PC) (n1 : Nat) (A1 : Nat → Int × Int × ByteArray) (ao1 : Option Addr) (cap1 : Nat) (n2 : Nat) (A2 : Nat → Int × Int × ByteArray) (ao2 : Option Addr) (cap2 : Nat) (u : World) (ha1 : SaAt u.heap.size n1 A1 ao1 cap1 u) (ha2 : SaAt u.heap.size n2 A2 ao2 cap2 u) : Calls Tryz.prog 5 #[.slice ao1 n1 cap1, .slice ao2 n2 cap2] u fun r u' => r = .returned (.bool true) ∧ Below u.heap.size u u' := by
  have HI := Lib.hid I
  have HA1 := Lib.hid ha1
  have HA2 := Lib.hid ha2
  have HAW := Lib.hid (fun w => awake15_any I w)
  have HBG := Lib.hid (begun15_any I 3 40 (by omega) (by omega) (by omega) (by omega) u)
  have hc1 := ha1.c
  have hc2 := ha2.c
  clear ha1 ha2 I
  go_enter Tryz.func5, Tryz.ntmps5
  go_wp2_with fail
  refine (HBG.out).mono ?_
  rintro e w1 ⟨D, P, Y, F, c, Q, R, S, rfl, hbs, hb1⟩
  have BS := Lib.hid hbs
  have B1 := Lib.hid hb1
  clear hbs hb1 HBG
  go_wp2_with fail
  refine (HAW.out _).mono ?_
  rintro e w2 ⟨rfl, hb2⟩
  have BQ := Lib.hid (BS.out.below HI.out hb2)
  have B2 := Lib.hid (bthen B1.out hb2)
  have K0 := Lib.hid (bgP_ok (n := 3) (m := 40) (by omega) (by omega) (by omega))
  have Z0 : Hid (NoH (bgP 3 40)) := Lib.hid (fun i => by show (frA (List.replicate 3 noF) i).held = 0; rw [rep_no]; rfl)
  generalize bgP 3 40 = p0 at *
  clear hb2 BS
  go_wp2_with fail
  go_loopw [7] (fun i wr => ∃ (j : Nat) (p : Plt), j ≤ n1 ∧ j ≤ 30 ∧ i = .int .i64 j ∧ Hid (OkW (64 + 2112 * j) (1 + (j : Int)) j p) ∧ Hid (NoH p) ∧ Hid (BqTo PM u.heap.size D P Y F c Q R S p p w2 wr)) (fun i _ => n1 - (intOf i).toNat)
  case atStart => exact ⟨0, p0, Nat.zero_le _, by omega, rfl, K0, Z0, Lib.hid BQ.out.same⟩
  case round =>
    clear K0 Z0
    obtain ⟨j, p, hj, hj30, rfl, HK, HZ, HT⟩ := hrel
    have AFTER : Hid True := Lib.hid trivial
    by_cases hlt : j < n1 ∧ j < 30
    · obtain ⟨hlt, h30⟩ := hlt
      have hj1 : (j : Int) < (n1 : Int) := by omega
      have hj2 : (0 : Int) ≤ (j : Int) := by omega
      have d1 : decide ((j : Int) < (n1 : Int)) = true := decide_eq_true hj1
      have d2 : decide ((j : Int) < 30) = true := decide_eq_true (by omega)
      obtain ⟨BA, oA, ha, hBA, hcl⟩ := (HA1.out.below (B2.out.trans (BqTo.bot HI.out BQ.out HT.out))).x (by omega)
      subst ha
      obtain ⟨y0, y1, y2⟩ := hcl j hlt
      clear hcl
      generalize A1 j = t at *
      obtain ⟨kind, l, s⟩ := t
      dsimp only at y0 y1 y2
      have HSH := Lib.hid (short15_any kind l s wr)
      by_cases hs : s.size < 500
      · have HS := Lib.hid hs
        rw [decide_eq_true hs] at HSH
        clear hs
        by_cases hk : kind = 2
        · subst hk
          go_wp2_with fail
          refine (HSH.out).mono ?_
          rintro e w3 ⟨rfl, hb3⟩
          have T3 := Lib.hid (HT.out.trans fun S2 b2 => b2.stays HI.out hb3)
          have z0 := cell_stays hb3 y0
          clear hb3 y0 y1 y2
          go_wp2_with fail
          go_roundw
          case rel => exact ⟨j + 1, p, hlt, by omega, by go_num, Lib.hid (HK.out.up (by omega) (by omega) (by omega)), HZ, T3⟩
          case measure => simp [intOf]; omega
        · have dk : (kind == 2) = false := by simp [hk]
          have HKN := Lib.hid hk
          clear hk
          go_wp2_with fail
          refine (HSH.out).mono ?_
          rintro e w3 ⟨rfl, hb3⟩
          have T3 := Lib.hid (HT.out.trans fun S2 b2 => b2.stays HI.out hb3)
          have z0 := cell_stays hb3 y0
          have z1 := cell_stays hb3 y1
          have z2 := cell_stays hb3 y2
          have HD := Lib.hid (T3.out.did fun S2 b2 => do15_any HI.out b2 HK.out HK.out (by omega) (by omega) (by omega) (by omega) (by omega) kind l s (by have := HS.out; omega))
          rw [← doQ_eq HK.out.hand HZ.out] at HD
          clear hb3 y0 y1 y2
          go_wp2_with fail
          refine (HD.out).mono ?_
          rintro e w4 ⟨b4, rfl, t4⟩
          have T4 := Lib.hid t4
          have K4 : Hid (OkW (64 + 2112 * (j + 1)) (1 + ((j + 1 : Nat) : Int)) (j + 1) (doQ p kind l s)) := Lib.hid ((HK.out.doQ kind l s).up (by omega) (by omega) (by omega))
          have Z4 := Lib.hid (do_noh (HK.out.p (by omega) (by omega) (by omega)) HZ.out kind l s HKN.out)
          clear t4 z0 z1 z2 HD dk
          go_wp2_with fail
          go_roundw
          case rel => exact ⟨j + 1, doQ p kind l s, hlt, by omega, by go_num, K4, Z4, T4⟩
          case measure => simp [intOf]; omega
      · rw [decide_eq_false hs] at HSH
        clear hs
        go_wp2_with fail
        refine (HSH.out).mono ?_
        rintro e w3 ⟨rfl, hb3⟩
        have T3 := Lib.hid (HT.out.trans fun S2 b2 => b2.stays HI.out hb3)
        clear hb3 y0 y1 y2
        go_wp2_with fail
        go_roundw
        case rel => exact ⟨j + 1, p, hlt, by omega, by go_num, Lib.hid (HK.out.up (by omega) (by omega) (by omega)), HZ, T3⟩
        case measure => simp [intOf]; omega
    · have HEX := Lib.hid hlt
      clear hlt AFTER
      go_upto_region 5 with fail
      go_cut [34] from 27 to 56 (fun cv wx => cv = .bool false ∧ wx = wr)
      case first =>
        by_cases h1 : j < n1
        · have h2 : j = 30 := by have := HEX.out; omega
          have d1 : decide ((j : Int) < (n1 : Int)) = true := decide_eq_true (by omega)
          have d2 : decide ((j : Int) < 30) = false := decide_eq_false (by omega)
          have d3 : decide (j < 30) = false := decide_eq_false (by omega)
          clear h2 h1
          go_wp2_with fail
          all_goals (go_meet; exact ⟨rfl, rfl⟩)
        · have d1 : decide ((j : Int) < (n1 : Int)) = false := decide_eq_false (by omega)
          have d3 : decide (j < n1) = false := decide_eq_false (by omega)
          clear h1
          go_wp2_with fail
          all_goals (go_meet; exact ⟨rfl, rfl⟩)
      case rest =>
      obtain ⟨rfl, hw⟩ := hcut
      rw [hw]
      clear hw
      have KJ : Hid (OkW 63424 31 30 p) := Lib.hid (HK.out.up (by omega) (by omega) (by omega))
      have HC1 := Lib.hid (HT.out.call fun S2 b2 => pCommit_bq HI.out b2 KJ.out (by omega) (by omega) (by omega))
      clear HEX hj hj30 HK
      go_wp2_with fail
      refine (HC1.out).mono ?_
      rintro r w3 ⟨rfl, t3⟩
      have HC2 := Lib.hid (t3.call fun S2 b2 => xCommit_bq HI.out b2 (KJ.out.lx (by omega) (by omega)))
      have B3 := Lib.hid (B2.out.trans (BqTo.bot HI.out BQ.out t3))
      have KC : Hid (OkW 65536 32 30 (cmtP p)) := Lib.hid (KJ.out.cmt.up (by omega) (by omega) (by omega))
      clear t3 HC1
      by_cases hE : cmtE p = 0
      · rw [hE] at HC2 ⊢
        clear hE
        go_wp2_with fail
        refine (HC2.out).mono ?_
        rintro r w4 ⟨rfl, t4⟩
        have B4 := Lib.hid (B2.out.trans (BqTo.bot HI.out BQ.out t4))
        obtain ⟨Sc, bc, _⟩ := t4
        have BC := Lib.hid bc
        clear HC2 HT HZ KJ bc
        generalize cmtP p = p0 at *
        obtain ⟨z0, _⟩ : w4.cell? ⟨R, 0, none⟩ = some (.pointer (some ⟨Q, 0, none⟩)) ∧ True := ⟨BC.out.r.cells.choose_spec.choose_spec.1, trivial⟩
        obtain ⟨aa1, cc1, aa2, cc2, _, _, zq, _, _, hso, _, _, _, heq⟩ := BC.out.r.st.cells
        have SO := Lib.hid hso
        have HOWN : Hid (∀ b, (Value.slice aa2 p0.x.old.length cc2).ownBlock = some b → bqS Sc Y F Q R b = false) := Lib.hid (by
          intro b hb
          have hrs : Rs Q w4 b := .inr ⟨_, _, _, _, _, heq.1, .inr hb⟩
          have hd := BC.out.d b (.inr (.inl hrs))
          have h1 : b ≠ Q := fun e => heq.2.2 (by rw [← e]; exact hb)
          have h2 : b ≠ R := fun e => BC.out.r.ap (by rw [← e]; exact hrs)
          unfold bqS
          rw [hd, R2.no h1 h2]
          rfl)
        have KC2 : Hid (OkW 65536 32 30 p0) := KC
        have OL : Hid (p0.x.old.length ≤ 512) := Lib.hid KC2.out.old
        obtain ⟨OLD, hOLD⟩ : ∃ o, o = p0.x.old := ⟨_, rfl⟩
        rw [← hOLD] at zq SO HOWN OL
        have HOLD := Lib.hid hOLD
        clear hso heq hOLD KC
        go_wp2_with fail
        clear z0 zq
        have BX := Lib.hid (BC.out.same)
        go_loopw [9] (fun i wr => ∃ (j : Nat) (p q : Plt), j ≤ n2 ∧ j ≤ 30 ∧ i = .int .i64 j ∧ Hid (OkW (65536 + 2112 * j) (32 + (j : Int)) (30 + j) p) ∧ Hid (OkW (65536 + 2112 * j) (32 + (j : Int)) (30 + j) q) ∧ Hid (p.x.old = OLD) ∧ Hid (BqTo PM u.heap.size D P Y F c Q R Sc p q w4 wr)) (fun i _ => n2 - (intOf i).toNat)
        case atStart => exact ⟨0, p0, p0, Nat.zero_le _, by omega, rfl, KC2, KC2, Lib.hid HOLD.out.symm, BX⟩
        case round =>
          clear KC2 BX HOLD
          obtain ⟨j, p, q, hj, hj30, rfl, HKP, HKQ, HO, HT⟩ := hrel
          by_cases hlt : j < n2 ∧ j < 30
          · obtain ⟨hlt, h30⟩ := hlt
            have hj1 : (j : Int) < (n2 : Int) := by omega
            have hj2 : (0 : Int) ≤ (j : Int) := by omega
            have d1 : decide ((j : Int) < (n2 : Int)) = true := decide_eq_true hj1
            have d2 : decide ((j : Int) < 30) = true := decide_eq_true (by omega)
            obtain ⟨BA, oA, ha, hBA, hcl⟩ := (HA2.out.below (B4.out.trans (BqTo.bot HI.out BC.out HT.out))).x (by omega)
            subst ha
            obtain ⟨y0, y1, y2⟩ := hcl j hlt
            clear hcl
            generalize A2 j = t at *
            obtain ⟨kind, l, s⟩ := t
            dsimp only at y0 y1 y2
            have HSH := Lib.hid (short15_any kind l s wr)
            by_cases hs : s.size < 500
            · have HS := Lib.hid hs
              rw [decide_eq_true hs] at HSH
              clear hs
              by_cases hk : kind = 13
              · subst hk
                go_wp2_with fail
                refine (HSH.out).mono ?_
                rintro e w5 ⟨rfl, hb3⟩
                have T3 := Lib.hid (HT.out.trans fun S2 b2 => b2.stays HI.out hb3)
                have z0 := cell_stays hb3 y0
                clear hb3 y0 y1 y2
                go_wp2_with fail
                go_roundw
                case rel => exact ⟨j + 1, p, q, hlt, by omega, by go_num, Lib.hid (HKP.out.up (by omega) (by omega) (by omega)), Lib.hid (HKQ.out.up (by omega) (by omega) (by omega)), HO, T3⟩
                case measure => simp [intOf]; omega
              · have dk : (kind == 13) = false := by simp [hk]
                have HKN := Lib.hid hk
                clear hk
                go_wp2_with fail
                refine (HSH.out).mono ?_
                rintro e w5 ⟨rfl, hb3⟩
                have T3 := Lib.hid (HT.out.trans fun S2 b2 => b2.stays HI.out hb3)
                have z0 := cell_stays hb3 y0
                have z1 := cell_stays hb3 y1
                have z2 := cell_stays hb3 y2
                have HD := Lib.hid (T3.out.did fun S2 b2 => do15_any HI.out b2 HKP.out HKQ.out (by omega) (by omega) (by omega) (by omega) (by omega) kind l s (by have := HS.out; omega))
                clear hb3 y0 y1 y2
                go_wp2_with fail
                refine (HD.out).mono ?_
                rintro e w6 ⟨b4, rfl, t4⟩
                have T4 := Lib.hid t4
                have K4 : Hid (OkW (65536 + 2112 * (j + 1)) (32 + ((j + 1 : Nat) : Int)) (30 + (j + 1)) (doQ p kind l s)) := Lib.hid ((HKP.out.doQ kind l s).up (by omega) (by omega) (by omega))
                have K5 : Hid (OkW (65536 + 2112 * (j + 1)) (32 + ((j + 1 : Nat) : Int)) (30 + (j + 1)) (do15 q kind l s)) := Lib.hid ((HKQ.out.do15 kind l s).up (by omega) (by omega) (by omega))
                have O4 : Hid ((doQ p kind l s).x.old = OLD) := Lib.hid ((do_old (HKP.out.p (by omega) (by omega) (by omega)) kind l s HKN.out).trans HO.out)
                clear t4 z0 z1 z2 HD dk
                go_wp2_with fail
                go_roundw
                case rel => exact ⟨j + 1, doQ p kind l s, do15 q kind l s, hlt, by omega, by go_num, K4, K5, O4, T4⟩
                case measure => simp [intOf]; omega
            · rw [decide_eq_false hs] at HSH
              clear hs
              go_wp2_with fail
              refine (HSH.out).mono ?_
              rintro e w5 ⟨rfl, hb3⟩
              have T3 := Lib.hid (HT.out.trans fun S2 b2 => b2.stays HI.out hb3)
              clear hb3 y0 y1 y2
              go_wp2_with fail
              go_roundw
              case rel => exact ⟨j + 1, p, q, hlt, by omega, by go_num, Lib.hid (HKP.out.up (by omega) (by omega) (by omega)), Lib.hid (HKQ.out.up (by omega) (by omega) (by omega)), HO, T3⟩
              case measure => simp [intOf]; omega
          · have HEX := Lib.hid hlt
            clear hlt
            go_upto_region 13 with fail
            go_cut [79] from 72 to 101 (fun cv wx => cv = .bool false ∧ wx = wr)
            case first =>
              by_cases h1 : j < n2
              · have h2 : j = 30 := by have := HEX.out; omega
                have d1 : decide ((j : Int) < (n2 : Int)) = true := decide_eq_true (by omega)
                have d2 : decide ((j : Int) < 30) = false := decide_eq_false (by omega)
                have d3 : decide (j < 30) = false := decide_eq_false (by omega)
                clear h2 h1
                go_wp2_with fail
                all_goals (go_meet; exact ⟨rfl, rfl⟩)
              · have d1 : decide ((j : Int) < (n2 : Int)) = false := decide_eq_false (by omega)
                have d3 : decide (j < n2) = false := decide_eq_false (by omega)
                clear h1
                go_wp2_with fail
                all_goals (go_meet; exact ⟨rfl, rfl⟩)
            case rest =>
            obtain ⟨rfl, hw⟩ := hcut
            rw [hw]
            clear hw
            have KP : Hid (OkW 128896 62 60 p) := Lib.hid (HKP.out.up (by omega) (by omega) (by omega))
            have HAB := Lib.hid (HT.out.call fun S2 b2 => pAbort_bq HI.out b2 (KP.out.p (by omega) (by omega) (by omega)))
            have KA : Hid (OkW 128896 62 60 (aboP p)) := Lib.hid KP.out.abo
            have CA : Hid (Cl OLD (aboP p)) := Lib.hid (by rw [← HO.out]; exact cl_abo p)
            clear HEX hj hj30 HKP HKQ KP HO HT
            go_wp2_with fail
            refine (HAB.out).mono ?_
            rintro r w5 ⟨rfl, t5⟩
            have T5 := Lib.hid t5
            clear t5 HAB
            generalize aboP p = p at *
            go_wp2_with fail
            go_loopw [10] (fun i wr => ∃ (k : Nat) (p : Plt), k ≤ 10 ∧ i = .int .i64 k ∧ Hid (OkW (128896 + 64 * k) 62 (60 + k) p) ∧ Hid (Cl OLD p) ∧ Hid (BqTo PM u.heap.size D P Y F c Q R Sc p q w4 wr)) (fun i _ => 10 - (intOf i).toNat)
            case atStart => exact ⟨0, p, by omega, rfl, KA, CA, T5⟩
            case round =>
              clear KA CA T5
              obtain ⟨k, p, hk, rfl, HK, HC, HT⟩ := hrel
              by_cases hlt : k < 10
              · have d1 : decide ((k : Int) < 10) = true := decide_eq_true (by omega)
                have d3 : decide (k < 10) = true := decide_eq_true hlt
                have OKP : Hid (OkP p) := Lib.hid (HK.out.p (by omega) (by omega) (by omega))
                have HG := Lib.hid (HT.out.call fun S2 b2 => pGet_bq HI.out b2 OKP.out (k : Int))
                have CG := Lib.hid (cl_get OKP.out HC.out (k : Int))
                have K2 : Hid (OkW (128896 + 64 * (k + 1)) 62 (60 + (k + 1)) (getQ p (k : Int)).1) := Lib.hid ((HK.out.getQ (k : Int)).up (by omega) (by omega) (by omega))
                have hk0 : (0 : Int) ≤ (k : Int) := by omega
                have hol := OL.out
                by_cases hin : inS OLD (k : Int)
                · have hkl : k < OLD.length := by have := inS_lt hin; simpa using this
                  have his : (slA OLD k).is = true := by have := hin.2; rw [Int.toNat_natCast] at this; exact this
                  have E1 : (getQ p (k : Int)).2.2 = 0 := by rw [CG.out.1, if_pos hin]
                  have E2 : (getQ p (k : Int)).2.1 = (slA OLD k).b := by have := CG.out.2.1 hin; simpa using this
                  rw [E1, E2] at HG
                  have dl : decide ((k : Int) < (OLD.length : Int)) = true := decide_eq_true (by omega)
                  have hkl2 : (k : Int) < (OLD.length : Int) := by omega
                  have HLT := Lib.hid hlt
                  clear E1 E2 hin hlt
                  go_wp2_with fail
                  refine (HG.out).mono ?_
                  rintro r w6 ⟨rfl, t6⟩
                  have T6 := Lib.hid t6
                  have SO6 : SRow u.heap.size OLD (.slice aa2 OLD.length cc2) w6 := by
                    obtain ⟨_, _, _, k6⟩ := t6
                    exact SO.out.kept _ HOWN.out k6
                  obtain ⟨_, bo, hbo, _, q0, _, q2⟩ := SO6.look hkl
                  subst hbo
                  rw [his] at q0
                  clear t6 HG SO6
                  generalize (slA OLD k).b = bb at *
                  go_wp2_with fail
                  go_roundw
                  case rel => have := HLT.out; exact ⟨k + 1, (getQ p (k : Int)).1, by omega, by go_num, K2, Lib.hid CG.out.2.2, T6⟩
                  case measure => have := HLT.out; simp [intOf]; omega
                · have E1 : (getQ p (k : Int)).2.2 = 3 := by rw [CG.out.1, if_neg hin]
                  rw [E1] at HG
                  generalize (getQ p (k : Int)).2.1 = bb at *
                  have HLT := Lib.hid hlt
                  by_cases hkl : k < OLD.length
                  · have his : (slA OLD k).is = false := by
                      cases x : (slA OLD k).is with
                      | false => rfl
                      | true => exact absurd ⟨hk0, by rw [Int.toNat_natCast]; exact x⟩ hin
                    have dl : decide ((k : Int) < (OLD.length : Int)) = true := decide_eq_true (by omega)
                    have hkl2 : (k : Int) < (OLD.length : Int) := by omega
                    clear E1 hin hlt
                    go_wp2_with fail
                    refine (HG.out).mono ?_
                    rintro r w6 ⟨rfl, t6⟩
                    have T6 := Lib.hid t6
                    have SO6 : SRow u.heap.size OLD (.slice aa2 OLD.length cc2) w6 := by
                      obtain ⟨_, _, _, k6⟩ := t6
                      exact SO.out.kept _ HOWN.out k6
                    obtain ⟨_, bo, hbo, _, q0, _, q2⟩ := SO6.look hkl
                    subst hbo
                    rw [his] at q0
                    clear t6 HG SO6 q2
                    go_wp2_with fail
                    go_roundw
                    case rel => have := HLT.out; exact ⟨k + 1, (getQ p (k : Int)).1, by omega, by go_num, K2, Lib.hid CG.out.2.2, T6⟩
                    case measure => have := HLT.out; simp [intOf]; omega
                  · have dl : decide ((k : Int) < (OLD.length : Int)) = false := decide_eq_false (by omega)
                    have dl2 : decide (k < OLD.length) = false := decide_eq_false hkl
                    clear E1 hin hlt hkl
                    go_wp2_with fail
                    refine (HG.out).mono ?_
                    rintro r w6 ⟨rfl, t6⟩
                    have T6 := Lib.hid t6
                    clear t6 HG
                    go_wp2_with fail
                    go_roundw
                    case rel => have := HLT.out; exact ⟨k + 1, (getQ p (k : Int)).1, by omega, by go_num, K2, Lib.hid CG.out.2.2, T6⟩
                    case measure => have := HLT.out; simp [intOf]; omega
              · have d1 : decide ((k : Int) < 10) = false := decide_eq_false (by omega)
                have d3 : decide (k < 10) = false := decide_eq_false hlt
                have OKP : Hid (OkP p) := Lib.hid (HK.out.p (by omega) (by omega) (by omega))
                have HCN : Hid (Calls Tryz.prog 18 #[.pointer (some ⟨Y, 0, none⟩)] wr fun r u' => (∃ m : Int, r = .returned (.tuple #[.int .i64 (p.f.length : Int), .int .i64 m, .int .i64 0])) ∧ u' = wr) := Lib.hid (by
                  obtain ⟨S2, b2, _⟩ := HT.out
                  have := qCount_any b2.a OKP.out.len
                  rw [noh_heldF HC.out.nh] at this
                  exact this)
                have BF := Lib.hid (B4.out.trans (BqTo.bot HI.out BC.out HT.out))
                clear hlt
                go_wp2_with fail
                refine (HCN.out).mono ?_
                rintro r w6 ⟨⟨m, rfl⟩, hw⟩
                subst hw
                go_wp2_with fail
                go_ret
                exact ⟨rfl, BF.out⟩
      · generalize cmtE p = e at *
        have d1 : (e == 0) = false := by simp [hE]
        have d2 : (e != 0) = true := by simp [hE]
        clear hE HC2
        go_wp2_with fail
        go_ret
        exact ⟨rfl, B3.out⟩
end
end Go.Proofs.YtmflkkkbahghgaaGreat
namespace Go.Proofs.YtmflkkkbahghgaaGreat
open Go.ChangeShapes Go.WideShapes Go.ChangeAt Go.RowKit Go.Joins
set_option linter.unusedVariables false
set_option maxRecDepth 100000

theorem rows_sl {C : Nat} (hC : 0 < C) {ok : List Value → Prop} {w : World} {a : Option Addr} {len cap : Nat} (h : CellRows C ok w a len cap) :
    ∃ f : Nat → List Value, (∀ i, i < len → (f i).length = C ∧ ok (f i)) ∧ Sl C (fun i j => (f i).getD j undef) len (.slice a len cap) w := by
  rcases h with ⟨rfl, rfl, rfl⟩ | ⟨x, rfl, hl, hm, hc⟩
  · exact ⟨fun _ => [], fun i hi => absurd hi (Nat.not_lt_zero i), none, 0, rfl, Nat.le_refl _, by omega, fun h => absurd h (Nat.lt_irrefl 0)⟩
  · have hex : ∀ i, ∃ cs : List Value, i < len → cs.length = C ∧ ok cs ∧ ∀ j, j < C → w.cell? (x.add (i * C + j)) = cs[j]? := fun i => by
      by_cases hi : i < len
      · obtain ⟨cs, h1, h2, h3⟩ := hc i hi; exact ⟨cs, fun _ => ⟨h1, h2, h3⟩⟩
      · exact ⟨[], fun h => absurd h hi⟩
    obtain ⟨f, hf⟩ : ∃ f : Nat → List Value, ∀ i, i < len → (f i).length = C ∧ ok (f i) ∧ ∀ j, j < C → w.cell? (x.add (i * C + j)) = (f i)[j]? := ⟨fun i => Classical.choose (hex i), fun i => Classical.choose_spec (hex i)⟩
    refine ⟨f, fun i hi => ⟨(hf i hi).1, (hf i hi).2.1⟩, some x, cap, rfl, hl, hm, fun hn => ?_⟩
    have h0 := (hf 0 hn).2.2 0 hC
    rw [Nat.zero_mul, List.getElem?_eq_getElem (by rw [(hf 0 hn).1]; exact hC)] at h0
    obtain ⟨b, off, spot⟩ := x
    have hspot : spot = none := by simpa [Addr.add] using World.cell?_spot h0
    subst hspot
    refine ⟨b, off, rfl, ?_, fun i hi j hj => ?_⟩
    · rw [add_plain] at h0
      rcases Nat.lt_or_ge b w.heap.size with h' | h'
      · exact h'
      · simp [World.cell?, Array.getElem?_eq_none h'] at h0
    · have := (hf i hi).2.2 j hj
      rw [add_plain] at this
      rw [Nat.add_assoc, this, List.getElem?_eq_getElem (by rw [(hf i hi).1]; exact hj)]
      simp [List.getD, List.getElem?_eq_getElem (show j < (f i).length by rw [(hf i hi).1]; exact hj)]

theorem choose_fn {α : Type} {n : Nat} {p : Nat → α → Prop} (d : α) (h : ∀ i, i < n → ∃ x, p i x) : ∃ f : Nat → α, ∀ i, i < n → p i (f i) := by
  have hex : ∀ i, ∃ x, i < n → p i x := fun i => by
    by_cases hi : i < n
    · obtain ⟨x, hx⟩ := h i hi; exact ⟨x, fun _ => hx⟩
    · exact ⟨d, fun h => absurd h hi⟩
  exact ⟨fun i => Classical.choose (hex i), fun i => Classical.choose_spec (hex i)⟩

section
variable {H : Type} {enc : TypeId × Value → H} {W : World}

/-- what a slice's one cell is -/
theorem slice_cell {P : Program} {base fuel : Nat} {t e : TypeId} {c : Value} {x : DataW H × List MemPlace} (ht : P.underlying t = some (.slice e)) (hf : DataW.trod enc P W base (fun _ => true) true fuel t [c] = some x) : ∃ a len cap, c = .slice a len cap := by
  rcases Go.Deep.open_slice ht hf with ⟨hcs, _⟩ | ⟨y, l, cp, m, n, D, Pl, hcs, _⟩
  · exact ⟨none, 0, 0, by simpa using hcs⟩
  · exact ⟨some y, l, cp, by simpa using hcs⟩

end

end Go.Proofs.YtmflkkkbahghgaaGreat
namespace Go.Proofs.YtmflkkkbahghgaaGreat
open Go.ChangeShapes Go.WideShapes Go.ChangeAt Go.RowKit Go.Joins
set_option linter.unusedVariables false
set_option maxRecDepth 100000

section
variable {H : Type} {enc : TypeId × Value → H} {W : World}
def sasV (x : Int × Int × ByteArray) : List Value := [.int .i64 x.1, .int .i64 x.2.1, .string x.2.2]
theorem sas_cells {base fuel : Nat} {l : List Value} {x : DataW H × List MemPlace} (hl : l.length = 3) (hf : DataW.trod enc Tryz.prog W base (fun _ => true) true fuel 30 l = some x) :
    ∃ y : Int × Int × ByteArray, l = sasV y := by
  obtain ⟨c0, c1, c2, rfl⟩ := list3 hl
  obtain ⟨n, hs⟩ := struct_cells Tryz.underlying30 hf
  obtain ⟨y0, g0⟩ := hs 0 3 0 1 rfl (by kernel_rfl)
  obtain ⟨a0, e0, _, w0⟩ := DataW.trod_int Tryz.underlying3 g0
  obtain rfl : c0 = .int .i64 a0 := by simpa using e0
  obtain ⟨y1, g1⟩ := hs 1 3 1 1 rfl (by kernel_rfl)
  obtain ⟨a1, e1, _, w1⟩ := DataW.trod_int Tryz.underlying3 g1
  obtain rfl : c1 = .int .i64 a1 := by simpa using e1
  obtain ⟨y2, g2⟩ := hs 2 9 2 1 rfl (by kernel_rfl)
  obtain ⟨a2, e2, _, w2⟩ := DataW.trod_string Tryz.underlying9 g2
  obtain rfl : c2 = .string a2 := by simpa using e2
  exact ⟨(a0, a1, a2), rfl⟩
theorem sas_row {len cap : Nat} {ao : Option Addr} (h : CellRows 3 (fun cs => ∃ x : Int × Int × ByteArray, cs = sasV x) W ao len cap) : ∃ A : Nat → Int × Int × ByteArray, SaAt W.heap.size len A ao cap W := by
  obtain ⟨f, hf1, hs⟩ := rows_sl (by omega) h
  obtain ⟨d, hd⟩ := choose_fn ((0, 0, ByteArray.empty) : Int × Int × ByteArray) fun i hi => (hf1 i hi).2
  obtain ⟨a1, c1, e1, s1, s2, s3⟩ := hs
  simp only [Value.slice.injEq, true_and] at e1
  obtain ⟨rfl, rfl⟩ := e1
  refine ⟨d, ⟨s1, s2⟩, fun hn => ?_⟩
  obtain ⟨B, o, e2, hA⟩ := s3 hn
  refine ⟨B, o, e2, hA.1, fun i hi => ?_⟩
  have h0 := hA.2 i hi 0 (by omega)
  have h1 := hA.2 i hi 1 (by omega)
  have h2 := hA.2 i hi 2 (by omega)
  rw [Nat.add_zero] at h0
  refine ⟨h0.trans ?_, h1.trans ?_, h2.trans ?_⟩
  · show some ((f i).getD 0 undef) = _
    rw [hd i hi]; rfl
  · show some ((f i).getD 1 undef) = _
    rw [hd i hi]; rfl
  · show some ((f i).getD 2 undef) = _
    rw [hd i hi]; rfl
/-- a slice of acts as a cell -/
theorem sas_of {base fuel : Nat} {c : Value} {x : DataW H × List MemPlace} (hf : DataW.trod enc Tryz.prog W base (fun _ => true) true fuel 22 [c] = some x) : ∃ (n : Nat) (A : Nat → Int × Int × ByteArray) (ao : Option Addr) (cap : Nat), c = .slice ao n cap ∧ SaAt W.heap.size n A ao cap W := by
  obtain ⟨a, len, cap, rfl⟩ := slice_cell Tryz.underlying22 hf
  have h : CellRows 3 (fun cs => ∃ x : Int × Int × ByteArray, cs = sasV x) W a len cap := by
    refine cellRows_of (C := 3) Tryz.underlying22 (by kernel_rfl) hf ?_
    intro cs m y hl hy
    exact sas_cells hl hy
  obtain ⟨A, hA⟩ := sas_row h
  exact ⟨len, A, a, cap, rfl, hA⟩
theorem open_sas {r : Reach} {b0 base : Nat} {v : Value} {d : DataW H} {p : List MemPlace} (hv : Value.okWide Tryz.prog W r b0 22 v) (h : DataW.Trod enc Tryz.prog W base (fun _ => true) true 22 v d p) :
    ∃ (n : Nat) (A : Nat → Int × Int × ByteArray) (ao : Option Addr) (cap : Nat), v = .slice ao n cap ∧ SaAt W.heap.size n A ao cap W := by
  obtain ⟨ao, len, cap, rfl⟩ := okWide_slice Tryz.underlying22 hv
  obtain ⟨fuel, hf⟩ := h
  exact sas_of (by simpa [Value.cells] using hf)
theorem u8_lt15 {n : Int} (h : (Lit.int .u8 n).wf = true) : ∃ k : Nat, n = (k : Int) ∧ k < 256 := by
  simp [Lit.wf] at h
  have e1 : IntKind.u8.min = 0 := rfl
  have e2 : IntKind.u8.max = 255 := rfl
  exact ⟨n.toNat, by omega, by omega⟩
end
end Go.Proofs.YtmflkkkbahghgaaGreat
