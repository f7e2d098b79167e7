/- The walk of ShadowImages, whatever the program's store is made of. -/
import Derived.Deep.CutBlock
import Derived.Test.YtdpmpmaepjgndaaGreatYQShOnceW
namespace Go.Proofs.YtdpmpmaepjgndaaGreat
open Go.RowKit Go.Deep
set_option linter.unusedVariables false
set_option linter.unusedSimpArgs false
set_option maxRecDepth 100000

/-- base, the disk's block, the store's, the disk, the epoch, the logical pages, its blocks: a store that Open found on any disk -/
abbrev ImM := Nat → Nat → Nat → Dk → Int → List Nat → World → Prop
/-- a disk that may be opened -/
def DkOk (d : Dk) : Prop := d.down = false ∧ d.arm = 0 ∧ 1 ≤ d.n ∧ d.n ≤ 4096 ∧ d.calls < 1000000
structure Sh14I (PM : StM) (IM : ImM) : Prop where
  disk : ∀ {base D P : Nat} {x : Stt} {S : Nat → Bool} {u : World}, PM base D P x 0 S u → ∃ bS bm cS d, PDk base D bS bm cS d u ∧ d.down = false ∧ d.arm = 0 ∧ 1 ≤ d.n ∧ d.n ≤ 4096 ∧ d.calls ≤ x.cl
  «open» : ∀ {base D bS bm cS : Nat} {d : Dk} {u : World}, PDk base D bS bm cS d u → DkOk d → base ≤ u.heap.size → Calls Tryz.prog 25 #[.pointer (some ⟨D, 0, none⟩)] u fun r u' => Below u.heap.size u u' ∧ ((∃ e, r = .returned (.tuple #[.pointer none, .int .i64 e]) ∧ (e = 14 ∨ (e = 3 ∧ d.n < 2))) ∨ ∃ P ep pl, r = .returned (.tuple #[.pointer (some ⟨P, 0, none⟩), .int .i64 0]) ∧ IM base D P d ep pl u')
  below : ∀ {base D P : Nat} {d : Dk} {ep : Int} {pl : List Nat} {u u2 : World}, IM base D P d ep pl u → Below u.heap.size u u2 → IM base D P d ep pl u2
  reach : ∀ {base D P : Nat} {d : Dk} {ep : Int} {pl : List Nat} {u : World}, IM base D P d ep pl u → base ≤ u.heap.size → Calls Tryz.prog 14 #[.pointer (some ⟨P, 0, none⟩)] u fun r u' => ∃ v l, r = .returned v ∧ NewL u.heap.size l v u' ∧ Below u.heap.size u u' ∧ ∀ i ∈ l, PgIn d ep i ∧ ((tellP (pageS d i)).kd = 1 ∨ (tellP (pageS d i)).kd = 2)
  epoch : ∀ {base D P : Nat} {d : Dk} {ep : Int} {pl : List Nat} {u : World}, IM base D P d ep pl u → base ≤ u.heap.size → Calls Tryz.prog 17 #[.pointer (some ⟨P, 0, none⟩)] u fun r u' => r = .returned (.int .i64 ep) ∧ Below u.heap.size u u'
  pages : ∀ {base D P : Nat} {d : Dk} {ep : Int} {pl : List Nat} {u : World}, IM base D P d ep pl u → base ≤ u.heap.size → Calls Tryz.prog 27 #[.pointer (some ⟨P, 0, none⟩)] u fun r u' => ∃ v, r = .returned v ∧ NewL u.heap.size pl v u' ∧ Below u.heap.size u u'
  read : ∀ {base D P : Nat} {d : Dk} {ep : Int} {pl : List Nat} {u : World} (i : Nat), IM base D P d ep pl u → base ≤ u.heap.size → i ∈ pl → Calls Tryz.prog 28 #[.pointer (some ⟨P, 0, none⟩), .int .i64 (i : Int)] u fun r u' => (∃ t, r = .returned (.tuple #[.string t, .int .i64 0])) ∧ Below u.heap.size u u'
section
variable {PM : StM} {PF PC : FlM} {IM : ImM}
theorem dk_write {d : Dk} (h : DkOk d) (hc : d.calls ≤ 5000) {i : Int} {s : ByteArray} : DkOk (writeD d i s) := by
  obtain ⟨h1, h2, h3, h4, h5⟩ := h
  unfold writeD
  rw [h1, if_neg (by decide)]
  split
  · exact ⟨h1, h2, h3, h4, h5⟩
  · unfold countD
    rw [if_neg (by show ¬ d.arm = 1; omega)]
    exact ⟨rfl, by show d.arm - 1 = 0; omega, h3, h4, by show d.calls + 1 < 1000000; omega⟩
set_option maxHeartbeats 12800000 in
theorem images14_walk (I : Sh14 PM PF PC) (II : Sh14I PM IM) (n : Nat) (A : Nat → Int × Int × ByteArray) (ao : Option Addr) (cap : Nat) (at_ : Int) (b img : ByteArray) (u : World) (ha : SaAt u.heap.size n A ao cap u) : Calls Tryz.prog 6 #[.agg #[.slice ao n cap, .int .i64 at_, .string b, .string img]] u fun r u' => r = .returned (.bool true) ∧ Below u.heap.size u u' := by
  have HI := Lib.hid I
  have HII := Lib.hid II
  have HA := Lib.hid ha
  have HAW := Lib.hid (fun w => awake14_any I w)
  have HBG := Lib.hid (fun w => begun14_any I 8 (by omega) (by omega) w)
  change Hid (∀ w, Calls _ _ #[.int .i64 8] w _) at HBG
  have hcap := ha.c
  have X1 := Lib.hid (heap_alloc_new u (.cells #[.slice ao n cap, .int .i64 at_, .string b, .string img] 62))
  have B1 := Lib.hid (balloc u (.cells #[.slice ao n cap, .int .i64 at_, .string b, .string img] 62))
  clear ha I II
  go_enter Tryz.func6, Tryz.ntmps6
  go_upto_region 1 with fail
  obtain ⟨G, hG⟩ : ∃ G, G = u.heap.size := ⟨_, rfl⟩
  rw [← hG] at X1 ⊢
  clear hG
  generalize u.alloc (.cells #[.slice ao n cap, .int .i64 at_, .string b, .string img] 62) = w1 at *
  have SS : Hid (∀ w, Below w1.heap.size w1 w → w.cell? ⟨G, 0, none⟩ = some (.slice ao n cap) ∧ w.cell? ⟨G, 1, none⟩ = some (.int .i64 at_) ∧ w.cell? ⟨G, 2, none⟩ = some (.string b) ∧ w.cell? ⟨G, 3, none⟩ = some (.string img)) := Lib.hid (fun w k => by
    have e := (k.block G (lt_of_block X1.out)).trans X1.out
    refine ⟨?_, ?_, ?_, ?_⟩ <;> (rw [Lib.cell_of_heap e]; rfl))
  refine wp_region_held_drew (S := (fun w' => w'.cell? ⟨G, 0, none⟩ = some (.slice ao n cap) ∧ w'.cell? ⟨G, 1, none⟩ = some (.int .i64 at_) ∧ w'.cell? ⟨G, 2, none⟩ = some (.string b) ∧ w'.cell? ⟨G, 3, none⟩ = some (.string img))) (by kernel_rfl) (SS.out _ (bdrew w1)) (fun hHeld => ?_)
  change wpAnyH _ _ _ _ _ _ _ _ (World.drew w1)
  have BW := Lib.hid (B1.out.trans ((bdrew w1).mono B1.out.size))
  clear hHeld
  have hHeld := SS.out _ (bdrew w1)
  generalize World.drew w1 = w2 at *
  first | refine tq0 0 rfl ?_ | refine tq1 0 rfl ?_
  try go_frame
  first | refine tq0 1 rfl ?_ | refine tq1 1 rfl ?_
  try go_frame
  first | refine tq0 2 rfl ?_ | refine tq1 2 rfl ?_
  try go_frame
  first | refine tq0 3 rfl ?_ | refine tq1 3 rfl ?_
  try go_frame
  first | refine tq0 4 rfl ?_ | refine tq1 4 rfl ?_
  try go_frame
  first | refine tq0 5 rfl ?_ | refine tq1 5 rfl ?_
  try go_frame
  first | refine tq0 6 rfl ?_ | refine tq1 6 rfl ?_
  try go_frame
  first | refine tq0 7 rfl ?_ | refine tq1 7 rfl ?_
  try go_frame
  first | refine tq0 8 rfl ?_ | refine tq1 8 rfl ?_
  try go_frame
  first | refine tq0 9 rfl ?_ | refine tq1 9 rfl ?_
  try go_frame
  first | refine tq0 10 rfl ?_ | refine tq1 10 rfl ?_
  try go_frame
  first | refine tq0 11 rfl ?_ | refine tq1 11 rfl ?_
  try go_frame
  refine wpAnyH_done (by kernel_rfl) ?_ _
  clear hHeld SS X1 B1
  have HA2 := Lib.hid (HA.out.below BW.out)
  go_wp2_with fail
  refine (HBG.out _).mono ?_
  rintro e w3 ⟨D, P, Q, S, rfl, hbs, hb3⟩
  have BS3 := Lib.hid hbs
  have B3 := Lib.hid hb3
  clear hbs hb3 HBG
  go_wp2_with fail
  refine (HAW.out _).mono ?_
  rintro e w4 ⟨rfl, hb4⟩
  have BS4 := Lib.hid (BS3.out.below HI.out hb4)
  have B4 := Lib.hid (bthen B3.out hb4)
  clear hb4 BS3
  go_upto_block 0 with fail
  go_cut [8, 10] (fun v i wx => ∃ (j P : Nat) (x : Stt) (S : Nat → Bool), j ≤ 20 ∧ v = .pointer (some ⟨P, 0, none⟩) ∧ i = .int .i64 j ∧ Hid (Lim x (1 + (j : Int))) ∧ Hid (Bs14 PM w2.heap.size D P Q x 0 S wx) ∧ Hid (Below w2.heap.size w2 wx))
  case first =>
    go_wp2_with fail
    go_loopw [8, 10] (fun v i wr => ∃ (j P : Nat) (x : Stt) (S : Nat → Bool), j ≤ n ∧ j ≤ 20 ∧ v = .pointer (some ⟨P, 0, none⟩) ∧ i = .int .i64 j ∧ Hid (Lim x (1 + (j : Int))) ∧ Hid (Bs14 PM w2.heap.size D P Q x 0 S wr) ∧ Hid (Below w2.heap.size w2 wr)) (fun _ i _ => n - (intOf i).toNat)
    case atStart => exact ⟨0, P, _, S, Nat.zero_le _, by omega, rfl, rfl, Lib.hid ⟨by show (1 : Int) ≤ 1 + 0; omega, by show (64 : Int) ≤ 64 * (1 + 0); omega⟩, BS4, B4⟩
    case round =>
      clear BS4 B4
      obtain ⟨j, P, x, S, hj, hj20, rfl, rfl, HE, HBS, HB⟩ := hrel
      by_cases hlt : j < n
      · have hj1 : (j : Int) < (n : Int) := by omega
        have hj2 : (0 : Int) ≤ (j : Int) := by omega
        have d1 : decide ((j : Int) < (n : Int)) = true := decide_eq_true hj1
        by_cases h20 : j < 20
        · have d2 : decide ((j : Int) < 20) = true := decide_eq_true (by omega)
          obtain ⟨BA, oA, ha, hBA, hcl⟩ := (HA2.out.below (HB.out.mono BW.out.size)).x (by omega)
          subst ha
          obtain ⟨y0, y1, y2⟩ := hcl j hlt
          clear hcl
          generalize A j = t at *
          obtain ⟨kind, l, s⟩ := t
          dsimp only at y0 y1 y2
          have HSH := Lib.hid (short14_any kind l s wr)
          by_cases hs : s.size < 500
          · have HS := Lib.hid hs
            rw [decide_eq_true hs] at HSH
            clear hs
            go_wp2_with fail
            refine (HSH.out).mono ?_
            rintro e w5 ⟨rfl, hb5⟩
            have BS5 := Lib.hid (HBS.out.below HI.out hb5)
            have B5 := Lib.hid (bthen HB.out hb5)
            have HD := Lib.hid (do14_any HI.out BS5.out kind l s (by have := HS.out; omega))
            have z0 := cell_stays hb5 y0
            have z1 := cell_stays hb5 y1
            have z2 := cell_stays hb5 y2
            clear hb5 y0 y1 y2
            go_wp2_with fail
            refine (HD.out).mono ?_
            rintro e w6 ⟨P4, b4, rfl, _, hbo⟩
            obtain ⟨rfl, q2, ⟨S4, q3⟩, q4⟩ := both_bs BS5.out HE.out (by omega) hbo
            have E4 : Hid (Lim (doX x kind l s) (1 + ((j + 1 : Nat) : Int))) := Lib.hid (q2.up (by omega))
            have BS6 := Lib.hid q3
            have B6 := Lib.hid (B5.out.trans q4)
            clear hbo q2 q3 q4 z0 z1 z2
            go_wp2_with fail
            go_roundw
            case rel => exact ⟨j + 1, P4, _, S4, hlt, by omega, rfl, by go_num, E4, BS6, B6⟩
            case measure => simp [intOf]; omega
          · rw [decide_eq_false hs] at HSH
            clear hs
            go_wp2_with fail
            refine (HSH.out).mono ?_
            rintro e w5 ⟨rfl, hb5⟩
            have BS5 := Lib.hid (HBS.out.below HI.out hb5)
            have B5 := Lib.hid (bthen HB.out hb5)
            clear hb5 y0 y1 y2
            go_wp2_with fail
            go_roundw
            case rel => exact ⟨j + 1, P, x, S, hlt, by omega, rfl, by go_num, Lib.hid (HE.out.up (by omega)), BS5, B5⟩
            case measure => simp [intOf]; omega
        · have d2 : decide ((j : Int) < 20) = false := decide_eq_false (by omega)
          go_wp2_with fail
          go_meet
          case rel => exact ⟨j, P, x, S, hj20, rfl, rfl, HE, HBS, HB⟩
      · have d1 : decide ((j : Int) < (n : Int)) = false := decide_eq_false (by omega)
        go_wp2_with fail
        go_meet
        case rel => exact ⟨j, P, x, S, hj20, rfl, rfl, HE, HBS, HB⟩
  case rest =>
    clear BS4 B4
    obtain ⟨j, P, x, S, hj20, rfl, rfl, HE, HBS, HB⟩ := hcut
    obtain ⟨bS, bm, cS, d, hpd, hdn, harm, hn1, hn2, hcl⟩ := HII.out.disk HBS.out.p
    have PD := Lib.hid hpd
    have DF : Hid (DkOk d ∧ d.calls ≤ 5000) := Lib.hid ⟨⟨hdn, harm, hn1, hn2, by have := HE.out.2; omega⟩, by have := HE.out.2; omega⟩
    have SZ := Lib.hid HBS.out.sz
    have HW := Lib.hid (pwrite_any PD.out ⟨hn2, by have := HE.out.2; omega, by omega⟩ at_ b)
    clear hpd hdn harm hn1 hn2 hcl
    go_upto_if 68 with fail
    go_cut [68] (fun c wx => ∃ bm2 d2, Hid (PDk w2.heap.size D bS bm2 cS d2 wx) ∧ Hid (DkOk d2) ∧ Hid (Below w2.heap.size w2 wx))
    case first =>
      by_cases hb : b.size < 500
      · have db : decide ((b.size : Int) < 500) = true := decide_eq_true (by omega)
        go_wp2_with fail
        refine (HW.out).mono ?_
        rintro e wx ⟨rfl, hp5, k5⟩
        have P5 := Lib.hid hp5
        have B5 := Lib.hid (HB.out.trans (PD.out.bot k5 SZ.out))
        clear hp5 k5
        go_wp2_with fail
        go_meet
        case rel => exact ⟨_, _, P5, Lib.hid (dk_write DF.out.1 DF.out.2), B5⟩
      · have db : decide ((b.size : Int) < 500) = false := decide_eq_false (by omega)
        go_wp2_with fail
        go_meet
        case rel => exact ⟨_, _, PD, Lib.hid DF.out.1, HB⟩
    case rest =>
      obtain ⟨bm2, d2', P2, DF2, B2⟩ := hcut
      have SZ2 := Lib.hid B2.out.size
      clear HW PD DF HB
      go_upto_region 12 with fail
      go_cut [80] (fun c wx => c = .bool (decide (0 < img.size ∧ img.size < 3000)) ∧ wx = wc)
      case first =>
        by_cases hi0 : 0 < img.size
        · have di0 : decide ((0 : Int) < (img.size : Int)) = true := decide_eq_true (by omega)
          by_cases hi1 : img.size < 3000
          · have di1 : decide ((img.size : Int) < 3000) = true := decide_eq_true (by omega)
            go_wp2_with fail
            go_meet
            case rel => exact ⟨by rw [decide_eq_true (show 0 < img.size ∧ img.size < 3000 from ⟨hi0, hi1⟩)], rfl⟩
          · have di1 : decide ((img.size : Int) < 3000) = false := decide_eq_false (by omega)
            go_wp2_with fail
            go_meet
            case rel => exact ⟨by rw [decide_eq_false (show ¬ (0 < img.size ∧ img.size < 3000) from fun h => hi1 h.2)], rfl⟩
        · have di0 : decide ((0 : Int) < (img.size : Int)) = false := decide_eq_false (by omega)
          go_wp2_with fail
          go_meet
          case rel => exact ⟨by rw [decide_eq_false (show ¬ (0 < img.size ∧ img.size < 3000) from fun h => hi0 h.1)], rfl⟩
      case rest =>
        obtain ⟨rfl, hwc⟩ := hcut
        rw [hwc]
        clear hwc
        go_upto_if 80 with fail
        go_cut [7, 80] (fun v c wx => ∃ D3 bS3 bm3 cS3 d3, v = .pointer (some ⟨D3, 0, none⟩) ∧ Hid (PDk w2.heap.size D3 bS3 bm3 cS3 d3 wx) ∧ Hid (DkOk d3) ∧ Hid (Below w2.heap.size w2 wx))
        case first =>
          by_cases hi : 0 < img.size ∧ img.size < 3000
          · have di : decide (0 < img.size ∧ img.size < 3000) = true := decide_eq_true hi
            obtain ⟨nn, hnn⟩ : ∃ nn, nn = (img.size + 63) / 64 := ⟨_, rfl⟩
            have HOF := Lib.hid (fun w => pofi_any img hi.1 (by omega) nn hnn w)
            have NB : Hid (1 ≤ nn ∧ nn ≤ 4096) := Lib.hid (by omega)
            rw [di]
            clear hi di hnn
            go_wp2_with fail
            refine (HOF.out _).mono ?_
            rintro e wx ⟨D3, bS3, bm3, cS3, rfl, hp3, hb3⟩
            have P3' := Lib.hid (hp3.mono (Nat.le_trans SZ2.out (Nat.le_refl _)))
            have B3' := Lib.hid (bthen B2.out hb3)
            clear hp3 hb3
            go_wp2_with fail
            go_meet
            case rel => exact ⟨_, _, _, _, _, rfl, P3', Lib.hid ⟨rfl, rfl, NB.out.1, NB.out.2, by show 0 < 1000000; omega⟩, B3'⟩
          · have di : decide (0 < img.size ∧ img.size < 3000) = false := decide_eq_false hi
            rw [di]
            clear hi di
            go_wp2_with fail
            go_meet
            case rel => exact ⟨D, _, _, _, _, rfl, P2, DF2, B2⟩
        case rest =>
          obtain ⟨D3, bS3, bm3, cS3, d3, rfl, PD3, DF3, B3⟩ := hcut
          clear P2 DF2 B2
          have SZ3 := Lib.hid B3.out.size
          have HOP := Lib.hid (HII.out.open PD3.out DF3.out SZ3.out)
          have HSC := Lib.hid (fun w (k : Below _ _ w) => psectors_any (PD3.out.below k))
          go_wp2_with fail
          refine (HOP.out).mono ?_
          rintro r w5 ⟨hb5, hbad | ⟨P5, ep, pl, rfl, him⟩⟩
          · obtain ⟨e, rfl, rfl | ⟨rfl, hn2⟩⟩ := hbad
            · have FF := Lib.hid (BW.out.trans ((bthen B3.out hb5).mono BW.out.size))
              clear hb5
              go_wp2_with fail
              go_ret
              exact ⟨rfl, FF.out⟩
            · have FF := Lib.hid (BW.out.trans ((bthen B3.out hb5).mono BW.out.size))
              have dn : decide ((d3.n : Int) < 2) = true := decide_eq_true (by omega)
              have HS2 := Lib.hid (HSC.out _ hb5)
              clear hb5
              go_wp2_with fail
              refine (HS2.out).mono ?_
              rintro e wx ⟨rfl, hw⟩
              rw [hw]
              clear hw wx
              go_wp2_with fail
              go_ret
              exact ⟨rfl, FF.out⟩
          · have IM5 := Lib.hid him
            have PD5 := Lib.hid (PD3.out.below hb5)
            have B5 := Lib.hid (bthen B3.out hb5)
            have SZ5 := Lib.hid B5.out.size
            have HRC := Lib.hid (HII.out.reach him B5.out.size)
            clear him hb5 HOP HSC
            go_wp2_with fail
            refine (HRC.out).mono ?_
            rintro r w6 ⟨v6, rl, rfl, hnl, hb6, hpg⟩
            have PG := Lib.hid hpg
            have B6 := Lib.hid hb6
            have IM6 := Lib.hid (HII.out.below IM5.out hb6)
            have PD6 := Lib.hid (PD5.out.below hb6)
            obtain ⟨av, cv, rfl, s1, s2, s3⟩ := hnl.sl
            have S3 := Lib.hid s3
            clear hnl hb6 hpg s3 HRC
            go_wp2_with fail
            go_loopw [14] (fun i2 wr => ∃ k : Nat, k ≤ rl.length ∧ i2 = .int .i64 k ∧ Hid (Below w6.heap.size w6 wr)) (fun i _ => rl.length - (intOf i).toNat)
            case atStart => exact ⟨0, Nat.zero_le _, rfl, Lib.hid (Below.refl _ _)⟩
            case round =>
              obtain ⟨k, hk, rfl, HK⟩ := hrel
              by_cases hkl : k < rl.length
              · have hk1 : (k : Int) < (rl.length : Int) := by omega
                have hk2 : (0 : Int) ≤ (k : Int) := by omega
                have dk1 : decide ((k : Int) < (rl.length : Int)) = true := decide_eq_true hk1
                obtain ⟨bb, oo, hav, hAt⟩ := S3.out (by omega)
                cases hav
                have YC : Hid (∀ (w : World), Below wr.heap.size wr w → w.cell? ⟨bb, oo + k, none⟩ = some (.int .i64 ((rl.getD k 0 : Nat) : Int))) := Lib.hid (fun w kb => by
                  have h1 := hAt.2 k hkl 0 (by omega)
                  rw [Nat.mul_one, Nat.add_zero] at h1
                  exact cell_stays (bthen HK.out kb) h1)
                obtain ⟨PGK, hkd⟩ := PG.out _ (getD_mem14 hkl)
                obtain ⟨ik, hik⟩ : ∃ ik, ik = rl.getD k 0 := ⟨_, rfl⟩
                have yk := YC.out wr (Below.refl _ _)
                rw [← hik] at PGK hkd yk YC
                clear hik
                have HBY := Lib.hid (bytes14_any (PD6.out.below HK.out) DF3.out.1 DF3.out.2.2.2.1 ik PGK.n)
                have HGT := Lib.hid (fun w => rget_any (pageS d3 ik) (by rw [pageS_size]; omega) w)
                rw [getRet_ok PGK.ok] at HGT
                have pid := PGK.id
                have pep := PGK.ep
                generalize tellP (pageS d3 ik) = tp at *
                obtain ⟨tid, tep, tkd, tpay⟩ := tp
                dsimp only at pid pep hkd
                subst pid
                change Hid (∀ w, Calls _ _ _ w fun e w' => e = .returned (.tuple #[.agg #[.int .i64 (ik : Int), .int .i64 tep, .int .i64 tkd, .string tpay], .int .i64 0]) ∧ _) at HGT
                have PEP := Lib.hid pep
                have HKD := Lib.hid hkd
                clear PGK pep hkd
                generalize pageS d3 ik = pgs at *
                go_wp2_with fail
                refine (HBY.out).mono ?_
                rintro e wx ⟨rfl, hw⟩
                rw [hw]
                clear hw wx
                go_wp2_with fail
                refine (HGT.out _).mono ?_
                rintro e wg ⟨rfl, hbg⟩
                have BG := Lib.hid hbg
                clear hbg
                have XG := Lib.hid (heap_alloc_new wg (.cells #[.int .i64 (ik : Int), .int .i64 tep, .int .i64 tkd, .string tpay] 41))
                have AG := Lib.hid (balloc wg (.cells #[.int .i64 (ik : Int), .int .i64 tep, .int .i64 tkd, .string tpay] 41))
                obtain ⟨G2, hG⟩ : ∃ G2, G2 = wg.heap.size := ⟨_, rfl⟩
                rw [← hG] at XG
                go_upto_region 22 with fail
                rw [← hG]
                clear hG
                generalize wg.alloc (.cells #[.int .i64 (ik : Int), .int .i64 tep, .int .i64 tkd, .string tpay] 41) = wh at *
                have BH := Lib.hid (bthen BG.out AG.out)
                have dep : decide (ep < tep) = false := decide_eq_false (by have := PEP.out; omega)
                have HEPC := Lib.hid (fun w (kb : Below wh.heap.size wh w) => HII.out.epoch (HII.out.below IM6.out (bthen HK.out (bthen BH.out kb))) (Nat.le_trans SZ5.out (Nat.le_trans (bthen B6.out (bthen HK.out (bthen BH.out kb))).size (Nat.le_refl _))))
                clear yk
                have SS : Hid (∀ w, Below wh.heap.size wh w → w.cell? ⟨bb, oo + k, none⟩ = some (.int .i64 (ik : Int)) ∧ w.cell? ⟨G2, 0, none⟩ = some (.int .i64 (ik : Int)) ∧ w.cell? ⟨G2, 1, none⟩ = some (.int .i64 tep) ∧ w.cell? ⟨G2, 2, none⟩ = some (.int .i64 tkd)) := Lib.hid (fun w kb => by
                  refine ⟨YC.out w (bthen BH.out kb), ?_, ?_, ?_⟩
                  · exact cell_stays kb (by rw [Lib.cell_of_heap XG.out]; rfl)
                  · exact cell_stays kb (by rw [Lib.cell_of_heap XG.out]; rfl)
                  · exact cell_stays kb (by rw [Lib.cell_of_heap XG.out]; rfl))
                refine wp_region_held_drew (S := (fun w' => w'.cell? ⟨bb, oo + k, none⟩ = some (.int .i64 (ik : Int)) ∧ w'.cell? ⟨G2, 0, none⟩ = some (.int .i64 (ik : Int)) ∧ w'.cell? ⟨G2, 1, none⟩ = some (.int .i64 tep) ∧ w'.cell? ⟨G2, 2, none⟩ = some (.int .i64 tkd))) (by kernel_rfl) (SS.out _ (bdrew wh)) (fun hHeld => ?_)
                change wpAnyH _ _ _ _ _ _ _ _ (World.drew wh)
                have BD := Lib.hid (bdrew wh)
                clear hHeld
                have hHeld := SS.out _ BD.out
                generalize World.drew wh = wd at *
                rcases HKD.out with hkd | hkd
                · subst hkd
                  first | refine tq0 0 rfl ?_ | refine tq1 0 rfl ?_
                  try go_frame
                  first | refine tq0 1 rfl ?_ | refine tq1 1 rfl ?_
                  try go_frame
                  first | refine tq0 2 rfl ?_ | refine tq1 2 rfl ?_
                  try go_frame
                  first | refine tq0 3 rfl ?_ | refine tq1 3 rfl ?_
                  try go_frame
                  first | refine tq0 4 rfl ?_ | refine tq1 4 rfl ?_
                  try go_frame
                  first | refine tq0 5 rfl ?_ | refine tq1 5 rfl ?_
                  try go_frame
                  first | refine tq0 6 rfl ?_ | refine tq1 6 rfl ?_
                  try go_frame
                  first | refine tq0 7 rfl ?_ | refine tq1 7 rfl ?_
                  try go_frame
                  first | refine tq0 8 rfl ?_ | refine tq1 8 rfl ?_
                  try go_frame
                  first | refine tq0 9 rfl ?_ | refine tq1 9 rfl ?_
                  try go_frame
                  first | refine tq0 10 rfl ?_ | refine tq1 10 rfl ?_
                  try go_frame
                  first | refine tq0 11 rfl ?_ | refine tq1 11 rfl ?_
                  try go_frame
                  first | refine tq0 12 rfl ?_ | refine tq1 12 rfl ?_
                  try go_frame
                  first | refine tq0 13 rfl ?_ | refine tq1 13 rfl ?_
                  try go_frame
                  first | refine tq0 14 rfl ?_ | refine tq1 14 rfl ?_
                  try go_frame
                  refine wpAnyH_ready (rs := [15]) (by kernel_rfl) (by simp) ?_
                  refine AllReadyH.cons (o := ⟨_, _, _, _, _, _⟩) rfl (fun Kx hKx => ?_) AllReadyH.nil
                  go_simp
                  refine (HEPC.out _ BD.out).mono ?_
                  rintro r we ⟨rfl, hb⟩
                  have BE := Lib.hid (bthen BD.out hb)
                  clear hb hHeld
                  refine hKx.out _ _ (SS.out _ BE.out) (fun hHeld => ?_)
                  clear hKx Kx
                  try simp only [Act.put, List.setIfInBounds_toArray, List.set_cons_zero, List.set_cons_succ]
                  first | refine tq0 16 rfl ?_ | refine tq1 16 rfl ?_
                  try go_frame
                  first | refine tq0 17 rfl ?_ | refine tq1 17 rfl ?_
                  try go_frame
                  first | refine tq0 18 rfl ?_ | refine tq1 18 rfl ?_
                  try go_frame
                  first | refine tq0 19 rfl ?_ | refine tq1 19 rfl ?_
                  try go_frame
                  first | refine tq0 20 rfl ?_ | refine tq1 20 rfl ?_
                  try go_frame
                  first | refine tq0 21 rfl ?_ | refine tq1 21 rfl ?_
                  try go_frame
                  first | refine tq0 22 rfl ?_ | refine tq1 22 rfl ?_
                  try go_frame
                  first | refine tq0 23 rfl ?_ | refine tq1 23 rfl ?_
                  try go_frame
                  first | refine tq0 24 rfl ?_ | refine tq1 24 rfl ?_
                  try go_frame
                  first | refine tq0 25 rfl ?_ | refine tq1 25 rfl ?_
                  try go_frame
                  first | refine tq0 26 rfl ?_ | refine tq1 26 rfl ?_
                  try go_frame
                  first | refine tq0 27 rfl ?_ | refine tq1 27 rfl ?_
                  try go_frame
                  refine wpAnyH_done (by kernel_rfl) ?_ _
                  clear hHeld
                  have HK9 := Lib.hid (bthen HK.out (bthen BH.out BE.out))
                  go_wp2_with fail
                  go_roundw
                  case rel => exact ⟨k + 1, hkl, by go_num, HK9⟩
                  case measure => simp [intOf]; omega
                · subst hkd
                  first | refine tq0 0 rfl ?_ | refine tq1 0 rfl ?_
                  try go_frame
                  first | refine tq0 1 rfl ?_ | refine tq1 1 rfl ?_
                  try go_frame
                  first | refine tq0 2 rfl ?_ | refine tq1 2 rfl ?_
                  try go_frame
                  first | refine tq0 3 rfl ?_ | refine tq1 3 rfl ?_
                  try go_frame
                  first | refine tq0 4 rfl ?_ | refine tq1 4 rfl ?_
                  try go_frame
                  first | refine tq0 5 rfl ?_ | refine tq1 5 rfl ?_
                  try go_frame
                  first | refine tq0 6 rfl ?_ | refine tq1 6 rfl ?_
                  try go_frame
                  first | refine tq0 7 rfl ?_ | refine tq1 7 rfl ?_
                  try go_frame
                  first | refine tq0 8 rfl ?_ | refine tq1 8 rfl ?_
                  try go_frame
                  first | refine tq0 9 rfl ?_ | refine tq1 9 rfl ?_
                  try go_frame
                  first | refine tq0 10 rfl ?_ | refine tq1 10 rfl ?_
                  try go_frame
                  first | refine tq0 11 rfl ?_ | refine tq1 11 rfl ?_
                  try go_frame
                  first | refine tq0 12 rfl ?_ | refine tq1 12 rfl ?_
                  try go_frame
                  first | refine tq0 13 rfl ?_ | refine tq1 13 rfl ?_
                  try go_frame
                  first | refine tq0 14 rfl ?_ | refine tq1 14 rfl ?_
                  try go_frame
                  refine wpAnyH_ready (rs := [15]) (by kernel_rfl) (by simp) ?_
                  refine AllReadyH.cons (o := ⟨_, _, _, _, _, _⟩) rfl (fun Kx hKx => ?_) AllReadyH.nil
                  go_simp
                  refine (HEPC.out _ BD.out).mono ?_
                  rintro r we ⟨rfl, hb⟩
                  have BE := Lib.hid (bthen BD.out hb)
                  clear hb hHeld
                  refine hKx.out _ _ (SS.out _ BE.out) (fun hHeld => ?_)
                  clear hKx Kx
                  try simp only [Act.put, List.setIfInBounds_toArray, List.set_cons_zero, List.set_cons_succ]
                  first | refine tq0 16 rfl ?_ | refine tq1 16 rfl ?_
                  try go_frame
                  first | refine tq0 17 rfl ?_ | refine tq1 17 rfl ?_
                  try go_frame
                  first | refine tq0 18 rfl ?_ | refine tq1 18 rfl ?_
                  try go_frame
                  first | refine tq0 19 rfl ?_ | refine tq1 19 rfl ?_
                  try go_frame
                  first | refine tq0 20 rfl ?_ | refine tq1 20 rfl ?_
                  try go_frame
                  first | refine tq0 21 rfl ?_ | refine tq1 21 rfl ?_
                  try go_frame
                  first | refine tq0 22 rfl ?_ | refine tq1 22 rfl ?_
                  try go_frame
                  first | refine tq0 23 rfl ?_ | refine tq1 23 rfl ?_
                  try go_frame
                  first | refine tq0 24 rfl ?_ | refine tq1 24 rfl ?_
                  try go_frame
                  first | refine tq0 25 rfl ?_ | refine tq1 25 rfl ?_
                  try go_frame
                  first | refine tq0 26 rfl ?_ | refine tq1 26 rfl ?_
                  try go_frame
                  first | refine tq0 27 rfl ?_ | refine tq1 27 rfl ?_
                  try go_frame
                  refine wpAnyH_done (by kernel_rfl) ?_ _
                  clear hHeld
                  have HK9 := Lib.hid (bthen HK.out (bthen BH.out BE.out))
                  go_wp2_with fail
                  go_roundw
                  case rel => exact ⟨k + 1, hkl, by go_num, HK9⟩
                  case measure => simp [intOf]; omega
              · have dk1 : decide ((k : Int) < (rl.length : Int)) = false := decide_eq_false (by omega)
                have IM7 := Lib.hid (HII.out.below IM6.out HK.out)
                have B7 := Lib.hid (bthen B5.out (bthen B6.out HK.out))
                have HPG := Lib.hid (HII.out.pages IM7.out B7.out.size)
                go_wp2_with fail
                refine (HPG.out).mono ?_
                rintro r w8 ⟨v8, rfl, hnl8, hb8⟩
                have IM8 := Lib.hid (HII.out.below IM7.out hb8)
                have B8 := Lib.hid (bthen B7.out hb8)
                obtain ⟨av8, cv8, rfl, t1, t2, t3⟩ := hnl8.sl
                have T3 := Lib.hid t3
                clear hnl8 hb8 t3 HPG
                go_wp2_with fail
                go_loopw [157] (fun i2 wr => ∃ q : Nat, q ≤ pl.length ∧ i2 = .int .i64 q ∧ Hid (Below w8.heap.size w8 wr)) (fun i _ => pl.length - (intOf i).toNat)
                case atStart => exact ⟨0, Nat.zero_le _, rfl, Lib.hid (Below.refl _ _)⟩
                case round =>
                  obtain ⟨q, hq, rfl, HQ⟩ := hrel
                  by_cases hql : q < pl.length
                  · have hq1 : (q : Int) < (pl.length : Int) := by omega
                    have hq2 : (0 : Int) ≤ (q : Int) := by omega
                    have dq1 : decide ((q : Int) < (pl.length : Int)) = true := decide_eq_true hq1
                    obtain ⟨bb, oo, hav, hAt⟩ := T3.out (by omega)
                    cases hav
                    have yq : wr.cell? ⟨bb, oo + q, none⟩ = some (.int .i64 ((pl.getD q 0 : Nat) : Int)) := by
                      have h1 := hAt.2 q hql 0 (by omega)
                      rw [Nat.mul_one, Nat.add_zero] at h1
                      exact cell_stays HQ.out h1
                    have HRD := Lib.hid (HII.out.read (pl.getD q 0) (HII.out.below IM8.out HQ.out) (Nat.le_trans B8.out.size HQ.out.size) (getD_mem14 hql))
                    generalize pl.getD q 0 = iq at *
                    go_wp2_with fail
                    refine (HRD.out).mono ?_
                    rintro r w9 ⟨⟨tx, rfl⟩, hb9⟩
                    have HQ9 := Lib.hid (bthen HQ.out hb9)
                    clear hb9 yq
                    go_wp2_with fail
                    go_roundw
                    case rel => exact ⟨q + 1, hql, by go_num, HQ9⟩
                    case measure => simp [intOf]; omega
                  · have dq1 : decide ((q : Int) < (pl.length : Int)) = false := decide_eq_false (by omega)
                    have FF := Lib.hid (BW.out.trans ((bthen B8.out HQ.out).mono BW.out.size))
                    go_wp2_with fail
                    go_ret
                    exact ⟨rfl, FF.out⟩
end

end Go.Proofs.YtdpmpmaepjgndaaGreat
