/- The walk of ShadowOnce, whatever the program's store is made of. -/
import Derived.Test.YtdpmpmaepjgndaaGreatYZ12
import Derived.Test.YtdpmpmaepjgndaaGreatYQPgR2
namespace Go.Proofs.YtdpmpmaepjgndaaGreat
open Go.RowKit Go.Deep
set_option linter.unusedVariables false
set_option linter.unusedSimpArgs false
set_option maxRecDepth 100000

/-- a physical page that passes its check: it is that one, of no later epoch -/
structure PgIn (d : Dk) (ep : Int) (i : Nat) : Prop where
  n : 2 + 4 * i + 4 ≤ d.n
  ok : getE (pageS d i) = 0
  id : (tellP (pageS d i)).id = (i : Int)
  ep : (tellP (pageS d i)).ep ≤ ep
structure Sh14R (PM : StM) : Prop where
  reach : ∀ {base D P a : Nat} {x : Stt} {S : Nat → Bool} {u : World}, PM base D P x a S u → OkX x → base ≤ u.heap.size → Calls Tryz.prog 14 #[.pointer (some ⟨P, 0, none⟩)] u fun r u' => ∃ v l, r = .returned v ∧ NewL u.heap.size l v u' ∧ Below u.heap.size u u' ∧ (l.length : Int) = keptS x.old ∧ l.Pairwise (· < ·) ∧ (∀ i ∈ l, (i : Int) < x.many) ∧ ∃ bS bm cS d, PDk base D bS bm cS d u' ∧ d.down = false ∧ d.n ≤ 4096 ∧ ∀ i ∈ l, PgIn d x.ep i
section
variable {PM : StM} {PF PC : FlM}
theorem bytes14_any {base D bS bm cS : Nat} {d : Dk} {u : World} (h : PDk base D bS bm cS d u) (hd : d.down = false) (hn : d.n ≤ 4096) (i : Nat) (hi : 2 + 4 * i + 4 ≤ d.n) : Calls Tryz.prog 16 #[.pointer (some ⟨D, 0, none⟩), .int .i64 (i : Int)] u fun r u' => r = .returned (.string (pageS d i)) ∧ u' = u := by
  have HR : Hid (∀ k : Nat, k < 4 → Calls Tryz.prog 54 #[.pointer (some ⟨D, 0, none⟩), .int .i64 (2 + 4 * (i : Int) + (k : Int))] u fun r u' => r = .returned (.tuple #[.string (sec (nowD d (2 + 4 * i + k))), .int .i64 0]) ∧ u' = u) := Lib.hid (fun k hk => by
    have := pread_any h hn (2 + 4 * (i : Int) + (k : Int))
    have e1 : readE d (2 + 4 * (i : Int) + (k : Int)) = 0 := by unfold readE; rw [hd, if_neg (by decide), if_neg (by omega)]
    have e2 : readS d (2 + 4 * (i : Int) + (k : Int)) = sec (nowD d (2 + 4 * i + k)) := by
      unfold readS
      rw [hd, if_neg (by decide), if_neg (by omega)]
      congr 2
    rw [e1, e2] at this
    exact this)
  have W1 : IntKind.i64.wrap (4 * (i : Int)) = 4 * (i : Int) := by rw [IntKind.wrap_i64]; omega
  have W2 : IntKind.i64.wrap (2 + 4 * (i : Int)) = 2 + 4 * (i : Int) := by rw [IntKind.wrap_i64]; omega
  have W3 : Hid (∀ j : Nat, j < 4 → IntKind.i64.wrap (2 + 4 * (i : Int) + (j : Int)) = 2 + 4 * (i : Int) + (j : Int)) := Lib.hid (fun j hj => by rw [IntKind.wrap_i64]; omega)
  clear h hd
  go_enter Tryz.func16, Tryz.ntmps16
  go_wp2_with fail
  go_loopw [5, 6] (fun v i2 wr => ∃ j : Nat, j ≤ 4 ∧ i2 = .int .i64 j ∧ v = .string (allF (fun k => nowD d (2 + 4 * i + k)) j) ∧ wr = u) (fun _ i _ => 4 - (intOf i).toNat)
  case atStart => exact ⟨0, by omega, rfl, rfl, rfl⟩
  case round =>
    obtain ⟨j, hj, rfl, rfl, hw⟩ := hrel
    rw [hw]
    clear hw wr
    by_cases hlt : j < 4
    · have d1 : decide ((j : Int) < 4) = true := decide_eq_true (by omega)
      have EA : Hid (allF (fun k => nowD d (2 + 4 * i + k)) (j + 1) = allF (fun k => nowD d (2 + 4 * i + k)) j ++ sec (nowD d (2 + 4 * i + j))) := Lib.hid rfl
      have hsz : (allF (fun k => nowD d (2 + 4 * i + k)) j).size = 64 * j := allF_size _ _
      have hsz2 : (sec (nowD d (2 + 4 * i + j))).size = 64 := sec_size _
      have H := Lib.hid (HR.out j hlt)
      have w3 := W3.out j hlt
      generalize allF (fun k => nowD d (2 + 4 * i + k)) j = t at *
      generalize sec (nowD d (2 + 4 * i + j)) = t2 at *
      have hlim : ¬ 9223372036854775807 < t.size + t2.size := by omega
      go_wp2_with fail
      refine (H.out).mono ?_
      rintro e w1 ⟨rfl, hw⟩
      rw [hw]
      clear hw w1
      go_wp2_with fail
      go_roundw
      case rel => exact ⟨j + 1, hlt, by go_num, by rw [EA.out], trivial⟩
      case measure => simp [intOf]; omega
    · obtain rfl : j = 4 := by omega
      have d1 : decide (((4 : Nat) : Int) < 4) = false := by decide
      go_wp2_with fail
      go_ret
      exact ⟨rfl, rfl⟩
theorem do_many14 (x : Stt) (kind l : Int) (s : ByteArray) : (doX x kind l s).many = x.many := by
  unfold doX newX dropSX comSX aboSX putWX
  repeat (split <;> try rfl)
theorem pair_at {l : List Nat} (h : l.Pairwise (· < ·)) {k : Nat} (hk : k + 1 < l.length) : l.getD k 0 < l.getD (k + 1) 0 := by
  rw [List.getD_eq_getElem?_getD, List.getD_eq_getElem?_getD, List.getElem?_eq_getElem (by omega), List.getElem?_eq_getElem hk]
  exact List.pairwise_iff_getElem.1 h k (k + 1) (by omega) hk (by omega)
theorem getD_mem14 {l : List Nat} {k : Nat} (hk : k < l.length) : l.getD k 0 ∈ l := by
  rw [List.getD_eq_getElem?_getD, List.getElem?_eq_getElem hk]
  exact List.getElem_mem hk
set_option maxHeartbeats 12800000 in
theorem once14_walk (I : Sh14 PM PF PC) (IR : Sh14R PM) (n : Nat) (A : Nat → Int × Int × ByteArray) (ao : Option Addr) (cap : Nat) (u : World) (ha : SaAt u.heap.size n A ao cap u) : Calls Tryz.prog 4 #[.slice ao n cap] u fun r u' => r = .returned (.bool true) ∧ Below u.heap.size u u' := by
  have HI := Lib.hid I
  have HIR := Lib.hid IR
  have HA := Lib.hid ha
  have HAW := Lib.hid (fun w => awake14_any I w)
  have HBG := Lib.hid (begun14_any I 12 (by omega) (by omega) u)
  change Hid (Calls _ _ #[.int .i64 12] u _) at HBG
  have hc := ha.c
  clear ha I IR
  go_enter Tryz.func4, Tryz.ntmps4
  go_wp2_with fail
  refine (HBG.out).mono ?_
  rintro e w1 ⟨D, P, Q, S, rfl, hbs, hb1⟩
  have BS := Lib.hid hbs
  have B1 := Lib.hid hb1
  clear hbs hb1 HBG
  go_wp2_with fail
  refine (HAW.out _).mono ?_
  rintro e w2 ⟨rfl, hb2⟩
  have BS2 := Lib.hid (BS.out.below HI.out hb2)
  have B2 := Lib.hid (bthen B1.out hb2)
  clear hb2 BS
  go_wp2_with fail
  go_loopw [4, 6] (fun v i wr => ∃ (j P : Nat) (x : Stt) (S : Nat → Bool), j ≤ n ∧ j ≤ 40 ∧ v = .pointer (some ⟨P, 0, none⟩) ∧ i = .int .i64 j ∧ Hid (Lim x (1 + (j : Int))) ∧ Hid (x.many = 12) ∧ Hid (Bs14 PM u.heap.size D P Q x 0 S wr) ∧ Hid (Below u.heap.size u wr)) (fun _ i _ => n - (intOf i).toNat)
  case atStart => exact ⟨0, P, _, S, Nat.zero_le _, by omega, rfl, rfl, Lib.hid ⟨by show (1 : Int) ≤ 1 + 0; omega, by show (64 : Int) ≤ 64 * (1 + 0); omega⟩, Lib.hid rfl, BS2, B2⟩
  case round =>
    clear BS2 B2
    obtain ⟨j, P, x, S, hj, hj40, rfl, rfl, HE, HMY, HBS, HB⟩ := hrel
    by_cases hlt : j < n
    · have hj1 : (j : Int) < (n : Int) := by omega
      have hj2 : (0 : Int) ≤ (j : Int) := by omega
      have d1 : decide ((j : Int) < (n : Int)) = true := decide_eq_true hj1
      by_cases h40 : j < 40
      · have d2 : decide ((j : Int) < 40) = true := decide_eq_true (by omega)
        obtain ⟨BA, oA, ha, hBA, hcl⟩ := (HA.out.below HB.out).x (by omega)
        subst ha
        obtain ⟨y0, y1, y2⟩ := hcl j hlt
        clear hcl
        generalize A j = t at *
        obtain ⟨kind, l, s⟩ := t
        dsimp only at y0 y1 y2
        have HSH := Lib.hid (short14_any kind l s wr)
        by_cases hs : s.size < 500
        · have HS := Lib.hid hs
          rw [decide_eq_true hs] at HSH
          clear hs
          go_wp2_with fail
          refine (HSH.out).mono ?_
          rintro e w3 ⟨rfl, hb3⟩
          have BS3 := Lib.hid (HBS.out.below HI.out hb3)
          have B3 := Lib.hid (bthen HB.out hb3)
          have HD := Lib.hid (do14_any HI.out BS3.out kind l s (by have := HS.out; omega))
          have z0 := cell_stays hb3 y0
          have z1 := cell_stays hb3 y1
          have z2 := cell_stays hb3 y2
          clear hb3 y0 y1 y2
          go_wp2_with fail
          refine (HD.out).mono ?_
          rintro e w4 ⟨P4, b4, rfl, _, hbo⟩
          obtain ⟨rfl, q2, ⟨S4, q3⟩, q4⟩ := both_bs BS3.out HE.out (by omega) hbo
          have E4 : Hid (Lim (doX x kind l s) (1 + ((j + 1 : Nat) : Int))) := Lib.hid (q2.up (by omega))
          have M4 : Hid ((doX x kind l s).many = 12) := Lib.hid (by rw [do_many14]; exact HMY.out)
          have BS4 := Lib.hid q3
          have B4 := Lib.hid (B3.out.trans q4)
          clear hbo q2 q3 q4 z0 z1 z2
          generalize (doX x kind l s) = y at *
          have HCT := Lib.hid (HI.out.count BS4.out.p BS4.out.ok BS4.out.sz)
          have KB : Hid (0 ≤ keptS y.old ∧ keptS y.old ≤ 1000 ∧ (freshS y.now : Int) ≤ 512 ∧ (leavingS y.now y.old : Int) ≤ 512 ∧ freeS y.many y.now y.old = 12 - keptS y.old - (freshS y.now : Int)) := Lib.hid (by
            have h3 := cntB_le (isS y.old) y.old.length
            have h4 := need_le (n := (y.old.length : Int)) (by have := BS4.out.ok.old; omega)
            have h5 := BS4.out.ok.old
            have h6 := BS4.out.ok.now
            have h7 := cntB_le (newS y.now) y.now.length
            have h8 := cntB_le (leftS y.now y.old) y.old.length
            have e : keptS y.old = (cntB (isS y.old) y.old.length : Int) + needR (y.old.length : Int) := rfl
            refine ⟨by omega, by omega, by show (cntB (newS y.now) y.now.length : Int) ≤ 512; omega, by show (cntB (leftS y.now y.old) y.old.length : Int) ≤ 512; omega, ?_⟩
            unfold freeS
            rw [M4.out])
          have HRC := Lib.hid (fun w (k : Below w4.heap.size w4 w) => HIR.out.reach (HI.out.below BS4.out.p k) BS4.out.ok (Nat.le_trans BS4.out.sz k.size))
          obtain ⟨kp, hkp⟩ : ∃ kp, kp = keptS y.old := ⟨_, rfl⟩
          obtain ⟨fs, hfs⟩ : ∃ fs, fs = (freshS y.now : Int) := ⟨_, rfl⟩
          obtain ⟨lv, hlv⟩ : ∃ lv, lv = (leavingS y.now y.old : Int) := ⟨_, rfl⟩
          have KLV : Hid (0 ≤ lv ∧ 0 ≤ fs) := Lib.hid (by omega)
          rw [← hkp, ← hfs, ← hlv] at KB HCT
          rw [KB.out.2.2.2.2] at HCT
          rw [← hkp] at HRC
          clear hkp hfs hlv
          have W1 : IntKind.i64.wrap (12 - kp - fs + (kp - lv)) = 12 - fs - lv := by have := KB.out; have := KLV.out; rw [IntKind.wrap_i64]; omega
          have W2 : IntKind.i64.wrap (12 - fs - lv + fs) = 12 - lv := by have := KB.out; have := KLV.out; rw [IntKind.wrap_i64]; omega
          have W3 : IntKind.i64.wrap (12 - lv + lv) = 12 := by have := KB.out; have := KLV.out; rw [IntKind.wrap_i64]; omega
          have W4 : IntKind.i64.wrap (kp - lv + lv) = kp := by have := KB.out; have := KLV.out; rw [IntKind.wrap_i64]; omega
          have W5 : IntKind.i64.wrap kp = kp := by have := KB.out; have := KLV.out; rw [IntKind.wrap_i64]; omega
          go_wp2_with fail
          refine (HCT.out).mono ?_
          rintro e w5 ⟨rfl, hb5⟩
          have B5 := Lib.hid hb5
          clear hb5
          go_wp2_with fail
          refine (HRC.out _ B5.out).mono ?_
          rintro e w6 ⟨v, rl, rfl, hnl, hb6, hlen, hpw, hin, bS, bm, cS, d, hpd, hdn, hdn2, hpg⟩
          have B6 := Lib.hid (bthen B5.out hb6)
          have NL := Lib.hid hnl.sl
          have PW := Lib.hid hpw
          have IN := Lib.hid hin
          have PD := Lib.hid hpd
          have DN := Lib.hid hdn
          have DN2 := Lib.hid hdn2
          have PG := Lib.hid hpg
          obtain ⟨av, cv, rfl, s1, s2, s3⟩ := hnl.sl
          have hkl : (rl.length : Int) = kp := hlen
          have S3 := Lib.hid s3
          clear hnl hb6 hlen hpw hin hpd hdn hdn2 hpg s3
          go_wp2_with fail
          go_loopw [12] (fun i2 wr => ∃ k : Nat, k ≤ rl.length ∧ i2 = .int .i64 k ∧ Hid (Below w6.heap.size w6 wr)) (fun i _ => rl.length - (intOf i).toNat)
          case atStart => exact ⟨0, Nat.zero_le _, rfl, Lib.hid (Below.refl _ _)⟩
          case round =>
            obtain ⟨k, hk, rfl, HK⟩ := hrel
            have BS9 := Lib.hid (BS4.out.below HI.out (bthen B6.out HK.out))
            have B9 := Lib.hid (bthen B4.out (bthen B6.out HK.out))
            by_cases hkl2 : k < rl.length
            · have hk1 : (k : Int) < (rl.length : Int) := by omega
              have hk2 : (0 : Int) ≤ (k : Int) := by omega
              have dk1 : decide ((k : Int) < (rl.length : Int)) = true := decide_eq_true hk1
              obtain ⟨bb, oo, hav, hAt⟩ := S3.out (by omega)
              cases hav
              have YC : Hid (∀ (q : Nat) (w : World), q < rl.length → Below wr.heap.size wr w → w.cell? ⟨bb, oo + q, none⟩ = some (.int .i64 ((rl.getD q 0 : Nat) : Int))) := Lib.hid (fun q w hq kb => by
                have h1 := hAt.2 q hq 0 (by omega)
                rw [Nat.mul_one, Nat.add_zero] at h1
                exact cell_stays (bthen HK.out kb) h1)
              have PGK := PG.out _ (getD_mem14 hkl2)
              have INK := IN.out _ (getD_mem14 hkl2)
              rw [M4.out] at INK
              have PWK : Hid (∀ q, q + 1 = k → rl.getD q 0 < rl.getD k 0) := Lib.hid (fun q hq => by subst hq; exact pair_at PW.out hkl2)
              obtain ⟨ik, hik⟩ : ∃ ik, ik = rl.getD k 0 := ⟨_, rfl⟩
              have yk := YC.out k wr hkl2 (Below.refl _ _)
              rw [← hik] at PGK INK PWK yk
              have HIK := Lib.hid hik
              clear hik
              have HBY := Lib.hid (bytes14_any (PD.out.below HK.out) DN.out DN2.out ik PGK.n)
              have HGT := Lib.hid (fun w => rget_any (pageS d ik) (by rw [pageS_size]; omega) w)
              rw [getRet_ok PGK.ok] at HGT
              have pid := PGK.id
              have pep := PGK.ep
              generalize tellP (pageS d ik) = tp at *
              obtain ⟨tid, tep, tkd, tpay⟩ := tp
              dsimp only at pid pep
              subst pid
              change Hid (∀ w, Calls _ _ _ w fun e w' => e = .returned (.tuple #[.agg #[.int .i64 (ik : Int), .int .i64 tep, .int .i64 tkd, .string tpay], .int .i64 0]) ∧ _) at HGT
              have PEP := Lib.hid pep
              clear PGK pep
              generalize pageS d ik = pgs at *
              go_wp2_with fail
              refine (HBY.out).mono ?_
              rintro e wx ⟨rfl, hw⟩
              rw [hw]
              clear hw wx
              go_wp2_with fail
              refine (HGT.out _).mono ?_
              rintro e wg ⟨rfl, hbg⟩
              have BG := Lib.hid hbg
              clear hbg
              have XG := Lib.hid (heap_alloc_new wg (.cells #[.int .i64 (ik : Int), .int .i64 tep, .int .i64 tkd, .string tpay] 41))
              have AG := Lib.hid (balloc wg (.cells #[.int .i64 (ik : Int), .int .i64 tep, .int .i64 tkd, .string tpay] 41))
              obtain ⟨G, hG⟩ : ∃ G, G = wg.heap.size := ⟨_, rfl⟩
              rw [← hG] at XG
              go_upto_region 17 with fail
              rw [← hG]
              clear hG
              generalize wg.alloc (.cells #[.int .i64 (ik : Int), .int .i64 tep, .int .i64 tkd, .string tpay] 41) = wh at *
              have BH := Lib.hid (bthen BG.out AG.out)
              have dlo : decide ((ik : Int) < 0) = false := decide_eq_false (by omega)
              have dhi : decide ((11 : Int) < (ik : Int)) = false := decide_eq_false (by omega)
              have dep : decide (y.ep < tep) = false := decide_eq_false (by have := PEP.out; omega)
              have HEPC := Lib.hid (fun w (k : Below wh.heap.size wh w) => HI.out.epoch (HI.out.below BS9.out.p (bthen BH.out k)) BS9.out.ok (Nat.le_trans BS9.out.sz (Nat.le_trans BH.out.size k.size)))
              clear yk
              by_cases hk0 : k = 0
              · subst hk0
                have dk0 : decide ((0 : Int) < ((0 : Nat) : Int)) = false := by decide
                have hkq : (0 : Int) < kp := by omega
                have SS : Hid (∀ w, Below wh.heap.size wh w → w.cell? ⟨bb, oo, none⟩ = some (.int .i64 (ik : Int)) ∧ w.cell? ⟨G, 0, none⟩ = some (.int .i64 (ik : Int)) ∧ w.cell? ⟨G, 1, none⟩ = some (.int .i64 tep)) := Lib.hid (fun w kb => by
                  refine ⟨by rw [HIK.out]; exact YC.out 0 w hkl2 (bthen BH.out kb), ?_, ?_⟩
                  · exact cell_stays kb (by rw [Lib.cell_of_heap XG.out]; rfl)
                  · exact cell_stays kb (by rw [Lib.cell_of_heap XG.out]; rfl))
                refine wp_region_held_drew (S := (fun w' => w'.cell? ⟨bb, oo, none⟩ = some (.int .i64 (ik : Int)) ∧ w'.cell? ⟨G, 0, none⟩ = some (.int .i64 (ik : Int)) ∧ w'.cell? ⟨G, 1, none⟩ = some (.int .i64 tep))) (by kernel_rfl) (SS.out _ (bdrew wh)) (fun hHeld => ?_)
                change wpAnyH _ _ _ _ _ _ _ _ (World.drew wh)
                have BD := Lib.hid (bdrew wh)
                clear hHeld
                have hHeld := SS.out _ BD.out
                generalize World.drew wh = wd at *
                first | refine tq0 0 rfl ?_ | refine tq1 0 rfl ?_
                try go_frame
                first | refine tq0 1 rfl ?_ | refine tq1 1 rfl ?_
                try go_frame
                first | refine tq0 2 rfl ?_ | refine tq1 2 rfl ?_
                try go_frame
                first | refine tq0 3 rfl ?_ | refine tq1 3 rfl ?_
                try go_frame
                first | refine tq0 4 rfl ?_ | refine tq1 4 rfl ?_
                try go_frame
                first | refine tq0 5 rfl ?_ | refine tq1 5 rfl ?_
                try go_frame
                first | refine tq0 6 rfl ?_ | refine tq1 6 rfl ?_
                try go_frame
                first | refine tq0 7 rfl ?_ | refine tq1 7 rfl ?_
                try go_frame
                first | refine tq0 8 rfl ?_ | refine tq1 8 rfl ?_
                try go_frame
                first | refine tq0 9 rfl ?_ | refine tq1 9 rfl ?_
                try go_frame
                first | refine tq0 10 rfl ?_ | refine tq1 10 rfl ?_
                try go_frame
                first | refine tq0 11 rfl ?_ | refine tq1 11 rfl ?_
                try go_frame
                first | refine tq0 12 rfl ?_ | refine tq1 12 rfl ?_
                try go_frame
                first | refine tq0 13 rfl ?_ | refine tq1 13 rfl ?_
                try go_frame
                first | refine tq0 14 rfl ?_ | refine tq1 14 rfl ?_
                try go_frame
                first | refine tq0 15 rfl ?_ | refine tq1 15 rfl ?_
                try go_frame
                first | refine tq0 16 rfl ?_ | refine tq1 16 rfl ?_
                try go_frame
                first | refine tq0 17 rfl ?_ | refine tq1 17 rfl ?_
                try go_frame
                first | refine tq0 18 rfl ?_ | refine tq1 18 rfl ?_
                try go_frame
                first | refine tq0 19 rfl ?_ | refine tq1 19 rfl ?_
                try go_frame
                first | refine tq0 20 rfl ?_ | refine tq1 20 rfl ?_
                try go_frame
                first | refine tq0 21 rfl ?_ | refine tq1 21 rfl ?_
                try go_frame
                first | refine tq0 22 rfl ?_ | refine tq1 22 rfl ?_
                try go_frame
                try simp only [hkw]
                first | refine tq0 23 rfl ?_ | refine tq1 23 rfl ?_
                try go_frame
                first | refine tq0 24 rfl ?_ | refine tq1 24 rfl ?_
                try go_frame
                first | refine tq0 25 rfl ?_ | refine tq1 25 rfl ?_
                try go_frame
                first | refine tq0 26 rfl ?_ | refine tq1 26 rfl ?_
                try go_frame
                first | refine tq0 27 rfl ?_ | refine tq1 27 rfl ?_
                try go_frame
                first | refine tq0 28 rfl ?_ | refine tq1 28 rfl ?_
                try go_frame
                first | refine tq0 29 rfl ?_ | refine tq1 29 rfl ?_
                try go_frame
                first | refine tq0 30 rfl ?_ | refine tq1 30 rfl ?_
                try go_frame
                first | refine tq0 31 rfl ?_ | refine tq1 31 rfl ?_
                try go_frame
                first | refine tq0 32 rfl ?_ | refine tq1 32 rfl ?_
                try go_frame
                first | refine tq0 33 rfl ?_ | refine tq1 33 rfl ?_
                try go_frame
                first | refine tq0 34 rfl ?_ | refine tq1 34 rfl ?_
                try go_frame
                first | refine tq0 35 rfl ?_ | refine tq1 35 rfl ?_
                try go_frame
                first | refine tq0 36 rfl ?_ | refine tq1 36 rfl ?_
                try go_frame
                first | refine tq0 37 rfl ?_ | refine tq1 37 rfl ?_
                try go_frame
                first | refine tq0 38 rfl ?_ | refine tq1 38 rfl ?_
                try go_frame
                first | refine tq0 39 rfl ?_ | refine tq1 39 rfl ?_
                try go_frame
                first | refine tq0 40 rfl ?_ | refine tq1 40 rfl ?_
                try go_frame
                first | refine tq0 41 rfl ?_ | refine tq1 41 rfl ?_
                try go_frame
                first | refine tq0 42 rfl ?_ | refine tq1 42 rfl ?_
                try go_frame
                first | refine tq0 43 rfl ?_ | refine tq1 43 rfl ?_
                try go_frame
                first | refine tq0 44 rfl ?_ | refine tq1 44 rfl ?_
                try go_frame
                refine wpAnyH_ready (rs := [45]) (by kernel_rfl) (by simp) ?_
                refine AllReadyH.cons (o := ⟨_, _, _, _, _, _⟩) rfl (fun Kx hKx => ?_) AllReadyH.nil
                go_simp
                refine (HEPC.out _ BD.out).mono ?_
                rintro r we ⟨rfl, hb⟩
                have BE := Lib.hid (bthen BD.out hb)
                clear hb hHeld
                refine hKx.out _ _ (SS.out _ BE.out) (fun hHeld => ?_)
                clear hKx Kx
                try simp only [Act.put, List.setIfInBounds_toArray, List.set_cons_zero, List.set_cons_succ]
                first | refine tq0 46 rfl ?_ | refine tq1 46 rfl ?_
                try go_frame
                first | refine tq0 47 rfl ?_ | refine tq1 47 rfl ?_
                try go_frame
                refine wpAnyH_done (by kernel_rfl) ?_ _
                clear hHeld
                have HK9 := Lib.hid (bthen HK.out (bthen BH.out BE.out))
                go_wp2_with fail
                go_roundw
                case rel => exact ⟨0 + 1, hkl2, by go_num, HK9⟩
                case measure => simp [intOf]; omega
              · have hkp : 0 < k := by omega
                have dk0 : decide ((0 : Int) < (k : Int)) = true := decide_eq_true (by omega)
                obtain ⟨k1, hk1e⟩ : ∃ k1, k = k1 + 1 := ⟨k - 1, by omega⟩
                obtain ⟨ip, hip⟩ : ∃ ip, ip = rl.getD k1 0 := ⟨_, rfl⟩
                have dle : decide ((ik : Int) ≤ (ip : Int)) = false := decide_eq_false (by have := PWK.out k1 hk1e.symm; omega)
                have dle2 : ¬ ik ≤ ip := by have := PWK.out k1 hk1e.symm; omega
                have hkm : ((k : Int) - 1).toNat = k1 := by omega
                have hkq1 : (1 : Int) ≤ (k : Int) := by omega
                have hkq2 : (k : Int) - 1 < kp := by omega
                have hkm2 : (0 : Int) ≤ (k : Int) - 1 := by omega
                have hkm3 : (k : Int) - 1 < (rl.length : Int) := by omega
                have hkw : IntKind.i64.wrap ((k : Int) - 1) = (k : Int) - 1 := by rw [IntKind.wrap_i64]; omega
                have SS : Hid (∀ w, Below wh.heap.size wh w → w.cell? ⟨bb, oo + k, none⟩ = some (.int .i64 (ik : Int)) ∧ w.cell? ⟨G, 0, none⟩ = some (.int .i64 (ik : Int)) ∧ w.cell? ⟨G, 1, none⟩ = some (.int .i64 tep) ∧ w.cell? ⟨bb, oo + k1, none⟩ = some (.int .i64 (ip : Int))) := Lib.hid (fun w kb => by
                  refine ⟨by rw [HIK.out]; exact YC.out k w hkl2 (bthen BH.out kb), ?_, ?_, by rw [hip]; exact YC.out k1 w (by omega) (bthen BH.out kb)⟩
                  · exact cell_stays kb (by rw [Lib.cell_of_heap XG.out]; rfl)
                  · exact cell_stays kb (by rw [Lib.cell_of_heap XG.out]; rfl))
                clear hip hk1e hk0
                refine wp_region_held_drew (S := (fun w' => w'.cell? ⟨bb, oo + k, none⟩ = some (.int .i64 (ik : Int)) ∧ w'.cell? ⟨G, 0, none⟩ = some (.int .i64 (ik : Int)) ∧ w'.cell? ⟨G, 1, none⟩ = some (.int .i64 tep) ∧ w'.cell? ⟨bb, oo + k1, none⟩ = some (.int .i64 (ip : Int)))) (by kernel_rfl) (SS.out _ (bdrew wh)) (fun hHeld => ?_)
                change wpAnyH _ _ _ _ _ _ _ _ (World.drew wh)
                have BD := Lib.hid (bdrew wh)
                clear hHeld
                have hHeld := SS.out _ BD.out
                generalize World.drew wh = wd at *
                first | refine tq0 0 rfl ?_ | refine tq1 0 rfl ?_
                try go_frame
                first | refine tq0 1 rfl ?_ | refine tq1 1 rfl ?_
                try go_frame
                first | refine tq0 2 rfl ?_ | refine tq1 2 rfl ?_
                try go_frame
                first | refine tq0 3 rfl ?_ | refine tq1 3 rfl ?_
                try go_frame
                first | refine tq0 4 rfl ?_ | refine tq1 4 rfl ?_
                try go_frame
                first | refine tq0 5 rfl ?_ | refine tq1 5 rfl ?_
                try go_frame
                first | refine tq0 6 rfl ?_ | refine tq1 6 rfl ?_
                try go_frame
                first | refine tq0 7 rfl ?_ | refine tq1 7 rfl ?_
                try go_frame
                first | refine tq0 8 rfl ?_ | refine tq1 8 rfl ?_
                try go_frame
                first | refine tq0 9 rfl ?_ | refine tq1 9 rfl ?_
                try go_frame
                first | refine tq0 10 rfl ?_ | refine tq1 10 rfl ?_
                try go_frame
                first | refine tq0 11 rfl ?_ | refine tq1 11 rfl ?_
                try go_frame
                first | refine tq0 12 rfl ?_ | refine tq1 12 rfl ?_
                try go_frame
                first | refine tq0 13 rfl ?_ | refine tq1 13 rfl ?_
                try go_frame
                first | refine tq0 14 rfl ?_ | refine tq1 14 rfl ?_
                try go_frame
                first | refine tq0 15 rfl ?_ | refine tq1 15 rfl ?_
                try go_frame
                first | refine tq0 16 rfl ?_ | refine tq1 16 rfl ?_
                try go_frame
                first | refine tq0 17 rfl ?_ | refine tq1 17 rfl ?_
                try go_frame
                first | refine tq0 18 rfl ?_ | refine tq1 18 rfl ?_
                try go_frame
                first | refine tq0 19 rfl ?_ | refine tq1 19 rfl ?_
                try go_frame
                first | refine tq0 20 rfl ?_ | refine tq1 20 rfl ?_
                try go_frame
                first | refine tq0 21 rfl ?_ | refine tq1 21 rfl ?_
                try go_frame
                first | refine tq0 22 rfl ?_ | refine tq1 22 rfl ?_
                try go_frame
                try simp only [hkw]
                first | refine tq0 23 rfl ?_ | refine tq1 23 rfl ?_
                try go_frame
                first | refine tq0 24 rfl ?_ | refine tq1 24 rfl ?_
                try go_frame
                first | refine tq0 25 rfl ?_ | refine tq1 25 rfl ?_
                try go_frame
                first | refine tq0 26 rfl ?_ | refine tq1 26 rfl ?_
                try go_frame
                first | refine tq0 27 rfl ?_ | refine tq1 27 rfl ?_
                try go_frame
                first | refine tq0 28 rfl ?_ | refine tq1 28 rfl ?_
                try go_frame
                first | refine tq0 29 rfl ?_ | refine tq1 29 rfl ?_
                try go_frame
                first | refine tq0 30 rfl ?_ | refine tq1 30 rfl ?_
                try go_frame
                first | refine tq0 31 rfl ?_ | refine tq1 31 rfl ?_
                try go_frame
                first | refine tq0 32 rfl ?_ | refine tq1 32 rfl ?_
                try go_frame
                first | refine tq0 33 rfl ?_ | refine tq1 33 rfl ?_
                try go_frame
                first | refine tq0 34 rfl ?_ | refine tq1 34 rfl ?_
                try go_frame
                first | refine tq0 35 rfl ?_ | refine tq1 35 rfl ?_
                try go_frame
                first | refine tq0 36 rfl ?_ | refine tq1 36 rfl ?_
                try go_frame
                first | refine tq0 37 rfl ?_ | refine tq1 37 rfl ?_
                try go_frame
                first | refine tq0 38 rfl ?_ | refine tq1 38 rfl ?_
                try go_frame
                first | refine tq0 39 rfl ?_ | refine tq1 39 rfl ?_
                try go_frame
                first | refine tq0 40 rfl ?_ | refine tq1 40 rfl ?_
                try go_frame
                first | refine tq0 41 rfl ?_ | refine tq1 41 rfl ?_
                try go_frame
                first | refine tq0 42 rfl ?_ | refine tq1 42 rfl ?_
                try go_frame
                first | refine tq0 43 rfl ?_ | refine tq1 43 rfl ?_
                try go_frame
                first | refine tq0 44 rfl ?_ | refine tq1 44 rfl ?_
                try go_frame
                refine wpAnyH_ready (rs := [45]) (by kernel_rfl) (by simp) ?_
                refine AllReadyH.cons (o := ⟨_, _, _, _, _, _⟩) rfl (fun Kx hKx => ?_) AllReadyH.nil
                go_simp
                refine (HEPC.out _ BD.out).mono ?_
                rintro r we ⟨rfl, hb⟩
                have BE := Lib.hid (bthen BD.out hb)
                clear hb hHeld
                refine hKx.out _ _ (SS.out _ BE.out) (fun hHeld => ?_)
                clear hKx Kx
                try simp only [Act.put, List.setIfInBounds_toArray, List.set_cons_zero, List.set_cons_succ]
                first | refine tq0 46 rfl ?_ | refine tq1 46 rfl ?_
                try go_frame
                first | refine tq0 47 rfl ?_ | refine tq1 47 rfl ?_
                try go_frame
                refine wpAnyH_done (by kernel_rfl) ?_ _
                clear hHeld
                have HK9 := Lib.hid (bthen HK.out (bthen BH.out BE.out))
                go_wp2_with fail
                go_roundw
                case rel => exact ⟨k + 1, hkl2, by go_num, HK9⟩
                case measure => simp [intOf]; omega
            · have dk1 : decide ((k : Int) < (rl.length : Int)) = false := decide_eq_false (by omega)
              go_wp2_with fail
              go_roundw
              case rel => exact ⟨j + 1, _, y, _, hlt, by omega, rfl, by go_num, E4, M4, BS9, B9⟩
              case measure => simp [intOf]; omega
        · rw [decide_eq_false hs] at HSH
          clear hs
          go_wp2_with fail
          refine (HSH.out).mono ?_
          rintro e w4 ⟨rfl, hb3⟩
          have BS4 := Lib.hid (HBS.out.below HI.out hb3)
          have B4 := Lib.hid (bthen HB.out hb3)
          have E4 : Hid (Lim x (1 + ((j + 1 : Nat) : Int))) := Lib.hid (HE.out.up (by omega))
          have M4 := HMY
          clear hb3 y0 y1 y2
          have HCT := Lib.hid (HI.out.count BS4.out.p BS4.out.ok BS4.out.sz)
          have KB : Hid (0 ≤ keptS x.old ∧ keptS x.old ≤ 1000 ∧ (freshS x.now : Int) ≤ 512 ∧ (leavingS x.now x.old : Int) ≤ 512 ∧ freeS x.many x.now x.old = 12 - keptS x.old - (freshS x.now : Int)) := Lib.hid (by
            have h3 := cntB_le (isS x.old) x.old.length
            have h4 := need_le (n := (x.old.length : Int)) (by have := BS4.out.ok.old; omega)
            have h5 := BS4.out.ok.old
            have h6 := BS4.out.ok.now
            have h7 := cntB_le (newS x.now) x.now.length
            have h8 := cntB_le (leftS x.now x.old) x.old.length
            have e : keptS x.old = (cntB (isS x.old) x.old.length : Int) + needR (x.old.length : Int) := rfl
            refine ⟨by omega, by omega, by show (cntB (newS x.now) x.now.length : Int) ≤ 512; omega, by show (cntB (leftS x.now x.old) x.old.length : Int) ≤ 512; omega, ?_⟩
            unfold freeS
            rw [M4.out])
          have HRC := Lib.hid (fun w (k : Below w4.heap.size w4 w) => HIR.out.reach (HI.out.below BS4.out.p k) BS4.out.ok (Nat.le_trans BS4.out.sz k.size))
          obtain ⟨kp, hkp⟩ : ∃ kp, kp = keptS x.old := ⟨_, rfl⟩
          obtain ⟨fs, hfs⟩ : ∃ fs, fs = (freshS x.now : Int) := ⟨_, rfl⟩
          obtain ⟨lv, hlv⟩ : ∃ lv, lv = (leavingS x.now x.old : Int) := ⟨_, rfl⟩
          have KLV : Hid (0 ≤ lv ∧ 0 ≤ fs) := Lib.hid (by omega)
          rw [← hkp, ← hfs, ← hlv] at KB HCT
          rw [KB.out.2.2.2.2] at HCT
          rw [← hkp] at HRC
          clear hkp hfs hlv
          have W1 : IntKind.i64.wrap (12 - kp - fs + (kp - lv)) = 12 - fs - lv := by have := KB.out; have := KLV.out; rw [IntKind.wrap_i64]; omega
          have W2 : IntKind.i64.wrap (12 - fs - lv + fs) = 12 - lv := by have := KB.out; have := KLV.out; rw [IntKind.wrap_i64]; omega
          have W3 : IntKind.i64.wrap (12 - lv + lv) = 12 := by have := KB.out; have := KLV.out; rw [IntKind.wrap_i64]; omega
          have W4 : IntKind.i64.wrap (kp - lv + lv) = kp := by have := KB.out; have := KLV.out; rw [IntKind.wrap_i64]; omega
          have W5 : IntKind.i64.wrap kp = kp := by have := KB.out; have := KLV.out; rw [IntKind.wrap_i64]; omega
          go_wp2_with fail
          refine (HCT.out).mono ?_
          rintro e w5 ⟨rfl, hb5⟩
          have B5 := Lib.hid hb5
          clear hb5
          go_wp2_with fail
          refine (HRC.out _ B5.out).mono ?_
          rintro e w6 ⟨v, rl, rfl, hnl, hb6, hlen, hpw, hin, bS, bm, cS, d, hpd, hdn, hdn2, hpg⟩
          have B6 := Lib.hid (bthen B5.out hb6)
          have NL := Lib.hid hnl.sl
          have PW := Lib.hid hpw
          have IN := Lib.hid hin
          have PD := Lib.hid hpd
          have DN := Lib.hid hdn
          have DN2 := Lib.hid hdn2
          have PG := Lib.hid hpg
          obtain ⟨av, cv, rfl, s1, s2, s3⟩ := hnl.sl
          have hkl : (rl.length : Int) = kp := hlen
          have S3 := Lib.hid s3
          clear hnl hb6 hlen hpw hin hpd hdn hdn2 hpg s3
          go_wp2_with fail
          go_loopw [12] (fun i2 wr => ∃ k : Nat, k ≤ rl.length ∧ i2 = .int .i64 k ∧ Hid (Below w6.heap.size w6 wr)) (fun i _ => rl.length - (intOf i).toNat)
          case atStart => exact ⟨0, Nat.zero_le _, rfl, Lib.hid (Below.refl _ _)⟩
          case round =>
            obtain ⟨k, hk, rfl, HK⟩ := hrel
            have BS9 := Lib.hid (BS4.out.below HI.out (bthen B6.out HK.out))
            have B9 := Lib.hid (bthen B4.out (bthen B6.out HK.out))
            by_cases hkl2 : k < rl.length
            · have hk1 : (k : Int) < (rl.length : Int) := by omega
              have hk2 : (0 : Int) ≤ (k : Int) := by omega
              have dk1 : decide ((k : Int) < (rl.length : Int)) = true := decide_eq_true hk1
              obtain ⟨bb, oo, hav, hAt⟩ := S3.out (by omega)
              cases hav
              have YC : Hid (∀ (q : Nat) (w : World), q < rl.length → Below wr.heap.size wr w → w.cell? ⟨bb, oo + q, none⟩ = some (.int .i64 ((rl.getD q 0 : Nat) : Int))) := Lib.hid (fun q w hq kb => by
                have h1 := hAt.2 q hq 0 (by omega)
                rw [Nat.mul_one, Nat.add_zero] at h1
                exact cell_stays (bthen HK.out kb) h1)
              have PGK := PG.out _ (getD_mem14 hkl2)
              have INK := IN.out _ (getD_mem14 hkl2)
              rw [M4.out] at INK
              have PWK : Hid (∀ q, q + 1 = k → rl.getD q 0 < rl.getD k 0) := Lib.hid (fun q hq => by subst hq; exact pair_at PW.out hkl2)
              obtain ⟨ik, hik⟩ : ∃ ik, ik = rl.getD k 0 := ⟨_, rfl⟩
              have yk := YC.out k wr hkl2 (Below.refl _ _)
              rw [← hik] at PGK INK PWK yk
              have HIK := Lib.hid hik
              clear hik
              have HBY := Lib.hid (bytes14_any (PD.out.below HK.out) DN.out DN2.out ik PGK.n)
              have HGT := Lib.hid (fun w => rget_any (pageS d ik) (by rw [pageS_size]; omega) w)
              rw [getRet_ok PGK.ok] at HGT
              have pid := PGK.id
              have pep := PGK.ep
              generalize tellP (pageS d ik) = tp at *
              obtain ⟨tid, tep, tkd, tpay⟩ := tp
              dsimp only at pid pep
              subst pid
              change Hid (∀ w, Calls _ _ _ w fun e w' => e = .returned (.tuple #[.agg #[.int .i64 (ik : Int), .int .i64 tep, .int .i64 tkd, .string tpay], .int .i64 0]) ∧ _) at HGT
              have PEP := Lib.hid pep
              clear PGK pep
              generalize pageS d ik = pgs at *
              go_wp2_with fail
              refine (HBY.out).mono ?_
              rintro e wx ⟨rfl, hw⟩
              rw [hw]
              clear hw wx
              go_wp2_with fail
              refine (HGT.out _).mono ?_
              rintro e wg ⟨rfl, hbg⟩
              have BG := Lib.hid hbg
              clear hbg
              have XG := Lib.hid (heap_alloc_new wg (.cells #[.int .i64 (ik : Int), .int .i64 tep, .int .i64 tkd, .string tpay] 41))
              have AG := Lib.hid (balloc wg (.cells #[.int .i64 (ik : Int), .int .i64 tep, .int .i64 tkd, .string tpay] 41))
              obtain ⟨G, hG⟩ : ∃ G, G = wg.heap.size := ⟨_, rfl⟩
              rw [← hG] at XG
              go_upto_region 17 with fail
              rw [← hG]
              clear hG
              generalize wg.alloc (.cells #[.int .i64 (ik : Int), .int .i64 tep, .int .i64 tkd, .string tpay] 41) = wh at *
              have BH := Lib.hid (bthen BG.out AG.out)
              have dlo : decide ((ik : Int) < 0) = false := decide_eq_false (by omega)
              have dhi : decide ((11 : Int) < (ik : Int)) = false := decide_eq_false (by omega)
              have dep : decide (x.ep < tep) = false := decide_eq_false (by have := PEP.out; omega)
              have HEPC := Lib.hid (fun w (k : Below wh.heap.size wh w) => HI.out.epoch (HI.out.below BS9.out.p (bthen BH.out k)) BS9.out.ok (Nat.le_trans BS9.out.sz (Nat.le_trans BH.out.size k.size)))
              clear yk
              by_cases hk0 : k = 0
              · subst hk0
                have dk0 : decide ((0 : Int) < ((0 : Nat) : Int)) = false := by decide
                have hkq : (0 : Int) < kp := by omega
                have SS : Hid (∀ w, Below wh.heap.size wh w → w.cell? ⟨bb, oo, none⟩ = some (.int .i64 (ik : Int)) ∧ w.cell? ⟨G, 0, none⟩ = some (.int .i64 (ik : Int)) ∧ w.cell? ⟨G, 1, none⟩ = some (.int .i64 tep)) := Lib.hid (fun w kb => by
                  refine ⟨by rw [HIK.out]; exact YC.out 0 w hkl2 (bthen BH.out kb), ?_, ?_⟩
                  · exact cell_stays kb (by rw [Lib.cell_of_heap XG.out]; rfl)
                  · exact cell_stays kb (by rw [Lib.cell_of_heap XG.out]; rfl))
                refine wp_region_held_drew (S := (fun w' => w'.cell? ⟨bb, oo, none⟩ = some (.int .i64 (ik : Int)) ∧ w'.cell? ⟨G, 0, none⟩ = some (.int .i64 (ik : Int)) ∧ w'.cell? ⟨G, 1, none⟩ = some (.int .i64 tep))) (by kernel_rfl) (SS.out _ (bdrew wh)) (fun hHeld => ?_)
                change wpAnyH _ _ _ _ _ _ _ _ (World.drew wh)
                have BD := Lib.hid (bdrew wh)
                clear hHeld
                have hHeld := SS.out _ BD.out
                generalize World.drew wh = wd at *
                first | refine tq0 0 rfl ?_ | refine tq1 0 rfl ?_
                try go_frame
                first | refine tq0 1 rfl ?_ | refine tq1 1 rfl ?_
                try go_frame
                first | refine tq0 2 rfl ?_ | refine tq1 2 rfl ?_
                try go_frame
                first | refine tq0 3 rfl ?_ | refine tq1 3 rfl ?_
                try go_frame
                first | refine tq0 4 rfl ?_ | refine tq1 4 rfl ?_
                try go_frame
                first | refine tq0 5 rfl ?_ | refine tq1 5 rfl ?_
                try go_frame
                first | refine tq0 6 rfl ?_ | refine tq1 6 rfl ?_
                try go_frame
                first | refine tq0 7 rfl ?_ | refine tq1 7 rfl ?_
                try go_frame
                first | refine tq0 8 rfl ?_ | refine tq1 8 rfl ?_
                try go_frame
                first | refine tq0 9 rfl ?_ | refine tq1 9 rfl ?_
                try go_frame
                first | refine tq0 10 rfl ?_ | refine tq1 10 rfl ?_
                try go_frame
                first | refine tq0 11 rfl ?_ | refine tq1 11 rfl ?_
                try go_frame
                first | refine tq0 12 rfl ?_ | refine tq1 12 rfl ?_
                try go_frame
                first | refine tq0 13 rfl ?_ | refine tq1 13 rfl ?_
                try go_frame
                first | refine tq0 14 rfl ?_ | refine tq1 14 rfl ?_
                try go_frame
                first | refine tq0 15 rfl ?_ | refine tq1 15 rfl ?_
                try go_frame
                first | refine tq0 16 rfl ?_ | refine tq1 16 rfl ?_
                try go_frame
                first | refine tq0 17 rfl ?_ | refine tq1 17 rfl ?_
                try go_frame
                first | refine tq0 18 rfl ?_ | refine tq1 18 rfl ?_
                try go_frame
                first | refine tq0 19 rfl ?_ | refine tq1 19 rfl ?_
                try go_frame
                first | refine tq0 20 rfl ?_ | refine tq1 20 rfl ?_
                try go_frame
                first | refine tq0 21 rfl ?_ | refine tq1 21 rfl ?_
                try go_frame
                first | refine tq0 22 rfl ?_ | refine tq1 22 rfl ?_
                try go_frame
                try simp only [hkw]
                first | refine tq0 23 rfl ?_ | refine tq1 23 rfl ?_
                try go_frame
                first | refine tq0 24 rfl ?_ | refine tq1 24 rfl ?_
                try go_frame
                first | refine tq0 25 rfl ?_ | refine tq1 25 rfl ?_
                try go_frame
                first | refine tq0 26 rfl ?_ | refine tq1 26 rfl ?_
                try go_frame
                first | refine tq0 27 rfl ?_ | refine tq1 27 rfl ?_
                try go_frame
                first | refine tq0 28 rfl ?_ | refine tq1 28 rfl ?_
                try go_frame
                first | refine tq0 29 rfl ?_ | refine tq1 29 rfl ?_
                try go_frame
                first | refine tq0 30 rfl ?_ | refine tq1 30 rfl ?_
                try go_frame
                first | refine tq0 31 rfl ?_ | refine tq1 31 rfl ?_
                try go_frame
                first | refine tq0 32 rfl ?_ | refine tq1 32 rfl ?_
                try go_frame
                first | refine tq0 33 rfl ?_ | refine tq1 33 rfl ?_
                try go_frame
                first | refine tq0 34 rfl ?_ | refine tq1 34 rfl ?_
                try go_frame
                first | refine tq0 35 rfl ?_ | refine tq1 35 rfl ?_
                try go_frame
                first | refine tq0 36 rfl ?_ | refine tq1 36 rfl ?_
                try go_frame
                first | refine tq0 37 rfl ?_ | refine tq1 37 rfl ?_
                try go_frame
                first | refine tq0 38 rfl ?_ | refine tq1 38 rfl ?_
                try go_frame
                first | refine tq0 39 rfl ?_ | refine tq1 39 rfl ?_
                try go_frame
                first | refine tq0 40 rfl ?_ | refine tq1 40 rfl ?_
                try go_frame
                first | refine tq0 41 rfl ?_ | refine tq1 41 rfl ?_
                try go_frame
                first | refine tq0 42 rfl ?_ | refine tq1 42 rfl ?_
                try go_frame
                first | refine tq0 43 rfl ?_ | refine tq1 43 rfl ?_
                try go_frame
                first | refine tq0 44 rfl ?_ | refine tq1 44 rfl ?_
                try go_frame
                refine wpAnyH_ready (rs := [45]) (by kernel_rfl) (by simp) ?_
                refine AllReadyH.cons (o := ⟨_, _, _, _, _, _⟩) rfl (fun Kx hKx => ?_) AllReadyH.nil
                go_simp
                refine (HEPC.out _ BD.out).mono ?_
                rintro r we ⟨rfl, hb⟩
                have BE := Lib.hid (bthen BD.out hb)
                clear hb hHeld
                refine hKx.out _ _ (SS.out _ BE.out) (fun hHeld => ?_)
                clear hKx Kx
                try simp only [Act.put, List.setIfInBounds_toArray, List.set_cons_zero, List.set_cons_succ]
                first | refine tq0 46 rfl ?_ | refine tq1 46 rfl ?_
                try go_frame
                first | refine tq0 47 rfl ?_ | refine tq1 47 rfl ?_
                try go_frame
                refine wpAnyH_done (by kernel_rfl) ?_ _
                clear hHeld
                have HK9 := Lib.hid (bthen HK.out (bthen BH.out BE.out))
                go_wp2_with fail
                go_roundw
                case rel => exact ⟨0 + 1, hkl2, by go_num, HK9⟩
                case measure => simp [intOf]; omega
              · have hkp : 0 < k := by omega
                have dk0 : decide ((0 : Int) < (k : Int)) = true := decide_eq_true (by omega)
                obtain ⟨k1, hk1e⟩ : ∃ k1, k = k1 + 1 := ⟨k - 1, by omega⟩
                obtain ⟨ip, hip⟩ : ∃ ip, ip = rl.getD k1 0 := ⟨_, rfl⟩
                have dle : decide ((ik : Int) ≤ (ip : Int)) = false := decide_eq_false (by have := PWK.out k1 hk1e.symm; omega)
                have dle2 : ¬ ik ≤ ip := by have := PWK.out k1 hk1e.symm; omega
                have hkm : ((k : Int) - 1).toNat = k1 := by omega
                have hkq1 : (1 : Int) ≤ (k : Int) := by omega
                have hkq2 : (k : Int) - 1 < kp := by omega
                have hkm2 : (0 : Int) ≤ (k : Int) - 1 := by omega
                have hkm3 : (k : Int) - 1 < (rl.length : Int) := by omega
                have hkw : IntKind.i64.wrap ((k : Int) - 1) = (k : Int) - 1 := by rw [IntKind.wrap_i64]; omega
                have SS : Hid (∀ w, Below wh.heap.size wh w → w.cell? ⟨bb, oo + k, none⟩ = some (.int .i64 (ik : Int)) ∧ w.cell? ⟨G, 0, none⟩ = some (.int .i64 (ik : Int)) ∧ w.cell? ⟨G, 1, none⟩ = some (.int .i64 tep) ∧ w.cell? ⟨bb, oo + k1, none⟩ = some (.int .i64 (ip : Int))) := Lib.hid (fun w kb => by
                  refine ⟨by rw [HIK.out]; exact YC.out k w hkl2 (bthen BH.out kb), ?_, ?_, by rw [hip]; exact YC.out k1 w (by omega) (bthen BH.out kb)⟩
                  · exact cell_stays kb (by rw [Lib.cell_of_heap XG.out]; rfl)
                  · exact cell_stays kb (by rw [Lib.cell_of_heap XG.out]; rfl))
                clear hip hk1e hk0
                refine wp_region_held_drew (S := (fun w' => w'.cell? ⟨bb, oo + k, none⟩ = some (.int .i64 (ik : Int)) ∧ w'.cell? ⟨G, 0, none⟩ = some (.int .i64 (ik : Int)) ∧ w'.cell? ⟨G, 1, none⟩ = some (.int .i64 tep) ∧ w'.cell? ⟨bb, oo + k1, none⟩ = some (.int .i64 (ip : Int)))) (by kernel_rfl) (SS.out _ (bdrew wh)) (fun hHeld => ?_)
                change wpAnyH _ _ _ _ _ _ _ _ (World.drew wh)
                have BD := Lib.hid (bdrew wh)
                clear hHeld
                have hHeld := SS.out _ BD.out
                generalize World.drew wh = wd at *
                first | refine tq0 0 rfl ?_ | refine tq1 0 rfl ?_
                try go_frame
                first | refine tq0 1 rfl ?_ | refine tq1 1 rfl ?_
                try go_frame
                first | refine tq0 2 rfl ?_ | refine tq1 2 rfl ?_
                try go_frame
                first | refine tq0 3 rfl ?_ | refine tq1 3 rfl ?_
                try go_frame
                first | refine tq0 4 rfl ?_ | refine tq1 4 rfl ?_
                try go_frame
                first | refine tq0 5 rfl ?_ | refine tq1 5 rfl ?_
                try go_frame
                first | refine tq0 6 rfl ?_ | refine tq1 6 rfl ?_
                try go_frame
                first | refine tq0 7 rfl ?_ | refine tq1 7 rfl ?_
                try go_frame
                first | refine tq0 8 rfl ?_ | refine tq1 8 rfl ?_
                try go_frame
                first | refine tq0 9 rfl ?_ | refine tq1 9 rfl ?_
                try go_frame
                first | refine tq0 10 rfl ?_ | refine tq1 10 rfl ?_
                try go_frame
                first | refine tq0 11 rfl ?_ | refine tq1 11 rfl ?_
                try go_frame
                first | refine tq0 12 rfl ?_ | refine tq1 12 rfl ?_
                try go_frame
                first | refine tq0 13 rfl ?_ | refine tq1 13 rfl ?_
                try go_frame
                first | refine tq0 14 rfl ?_ | refine tq1 14 rfl ?_
                try go_frame
                first | refine tq0 15 rfl ?_ | refine tq1 15 rfl ?_
                try go_frame
                first | refine tq0 16 rfl ?_ | refine tq1 16 rfl ?_
                try go_frame
                first | refine tq0 17 rfl ?_ | refine tq1 17 rfl ?_
                try go_frame
                first | refine tq0 18 rfl ?_ | refine tq1 18 rfl ?_
                try go_frame
                first | refine tq0 19 rfl ?_ | refine tq1 19 rfl ?_
                try go_frame
                first | refine tq0 20 rfl ?_ | refine tq1 20 rfl ?_
                try go_frame
                first | refine tq0 21 rfl ?_ | refine tq1 21 rfl ?_
                try go_frame
                first | refine tq0 22 rfl ?_ | refine tq1 22 rfl ?_
                try go_frame
                try simp only [hkw]
                first | refine tq0 23 rfl ?_ | refine tq1 23 rfl ?_
                try go_frame
                first | refine tq0 24 rfl ?_ | refine tq1 24 rfl ?_
                try go_frame
                first | refine tq0 25 rfl ?_ | refine tq1 25 rfl ?_
                try go_frame
                first | refine tq0 26 rfl ?_ | refine tq1 26 rfl ?_
                try go_frame
                first | refine tq0 27 rfl ?_ | refine tq1 27 rfl ?_
                try go_frame
                first | refine tq0 28 rfl ?_ | refine tq1 28 rfl ?_
                try go_frame
                first | refine tq0 29 rfl ?_ | refine tq1 29 rfl ?_
                try go_frame
                first | refine tq0 30 rfl ?_ | refine tq1 30 rfl ?_
                try go_frame
                first | refine tq0 31 rfl ?_ | refine tq1 31 rfl ?_
                try go_frame
                first | refine tq0 32 rfl ?_ | refine tq1 32 rfl ?_
                try go_frame
                first | refine tq0 33 rfl ?_ | refine tq1 33 rfl ?_
                try go_frame
                first | refine tq0 34 rfl ?_ | refine tq1 34 rfl ?_
                try go_frame
                first | refine tq0 35 rfl ?_ | refine tq1 35 rfl ?_
                try go_frame
                first | refine tq0 36 rfl ?_ | refine tq1 36 rfl ?_
                try go_frame
                first | refine tq0 37 rfl ?_ | refine tq1 37 rfl ?_
                try go_frame
                first | refine tq0 38 rfl ?_ | refine tq1 38 rfl ?_
                try go_frame
                first | refine tq0 39 rfl ?_ | refine tq1 39 rfl ?_
                try go_frame
                first | refine tq0 40 rfl ?_ | refine tq1 40 rfl ?_
                try go_frame
                first | refine tq0 41 rfl ?_ | refine tq1 41 rfl ?_
                try go_frame
                first | refine tq0 42 rfl ?_ | refine tq1 42 rfl ?_
                try go_frame
                first | refine tq0 43 rfl ?_ | refine tq1 43 rfl ?_
                try go_frame
                first | refine tq0 44 rfl ?_ | refine tq1 44 rfl ?_
                try go_frame
                refine wpAnyH_ready (rs := [45]) (by kernel_rfl) (by simp) ?_
                refine AllReadyH.cons (o := ⟨_, _, _, _, _, _⟩) rfl (fun Kx hKx => ?_) AllReadyH.nil
                go_simp
                refine (HEPC.out _ BD.out).mono ?_
                rintro r we ⟨rfl, hb⟩
                have BE := Lib.hid (bthen BD.out hb)
                clear hb hHeld
                refine hKx.out _ _ (SS.out _ BE.out) (fun hHeld => ?_)
                clear hKx Kx
                try simp only [Act.put, List.setIfInBounds_toArray, List.set_cons_zero, List.set_cons_succ]
                first | refine tq0 46 rfl ?_ | refine tq1 46 rfl ?_
                try go_frame
                first | refine tq0 47 rfl ?_ | refine tq1 47 rfl ?_
                try go_frame
                refine wpAnyH_done (by kernel_rfl) ?_ _
                clear hHeld
                have HK9 := Lib.hid (bthen HK.out (bthen BH.out BE.out))
                go_wp2_with fail
                go_roundw
                case rel => exact ⟨k + 1, hkl2, by go_num, HK9⟩
                case measure => simp [intOf]; omega
            · have dk1 : decide ((k : Int) < (rl.length : Int)) = false := decide_eq_false (by omega)
              go_wp2_with fail
              go_roundw
              case rel => exact ⟨j + 1, _, x, _, hlt, by omega, rfl, by go_num, E4, M4, BS9, B9⟩
              case measure => simp [intOf]; omega
      · have d2 : decide ((j : Int) < 40) = false := decide_eq_false (by omega)
        go_wp2_with fail
        go_ret
        exact ⟨rfl, HB.out⟩
    · have d1 : decide ((j : Int) < (n : Int)) = false := decide_eq_false (by omega)
      go_wp2_with fail
      go_ret
      exact ⟨rfl, HB.out⟩
end

end Go.Proofs.YtdpmpmaepjgndaaGreat
