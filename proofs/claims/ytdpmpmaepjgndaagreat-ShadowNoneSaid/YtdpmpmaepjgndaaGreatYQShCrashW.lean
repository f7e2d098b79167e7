/- The walk of ShadowCrash, whatever the program's store is made of. -/
import Derived.Test.YtdpmpmaepjgndaaGreatYQShCrashed
namespace Go.Proofs.YtdpmpmaepjgndaaGreat
open Go.RowKit Go.Deep
set_option linter.unusedVariables false
set_option linter.unusedSimpArgs false
set_option maxRecDepth 100000

section
variable {PM : StM} {PF PC : FlM} {base D P Q a : Nat} {x : Stt} {S : Nat → Bool} {u w : World}
theorem SaAt.mono {b2 n : Nat} {A : Nat → Int × Int × ByteArray} {ao : Option Addr} {cap : Nat} (h : SaAt base n A ao cap u) (k : base ≤ b2) : SaAt b2 n A ao cap u :=
  ⟨h.c, fun hn => by
    obtain ⟨B, o, e, hB, hc⟩ := h.x hn
    exact ⟨B, o, e, Nat.lt_of_lt_of_le hB k, hc⟩⟩
theorem CrA.mono {b2 : Nat} {keep : List Bool} {t b : Int} {v : Value} (h : CrA base keep t b v u) (k : base ≤ b2) : CrA b2 keep t b v u := by
  obtain ⟨ao, cap, e, h1, h2, h3⟩ := h.k
  exact ⟨⟨ao, cap, e, h1, h2, fun hp => by
    obtain ⟨B, o, e2, hB, hc⟩ := h3 hp
    exact ⟨B, o, e2, Nat.lt_of_lt_of_le hB k, hc⟩⟩, h.t, h.b⟩
theorem bs_step (I : Sh14 PM PF PC) (h : Bs14 PM base D P Q x a S u) {S2 : Nat → Bool} {a2 : Nat} (n : NewB S S2 u) (k : KpS S u w) (hp : PM base D P x a2 S2 w) : Bs14 PM base D P Q x a2 S2 w ∧ Below base u w := by
  obtain ⟨r, d⟩ := rs_step h.r h.d n k
  have hb := I.bot h.p h.sz k
  exact ⟨⟨hp, r, d, h.ok, Nat.le_trans h.sz hb.size⟩, hb⟩
set_option maxHeartbeats 12800000 in
theorem crash14_walk (I : Sh14 PM PF PC) (C : Sh14C PM PF PC) (n : Nat) (A : Nat → Int × Int × ByteArray) (ao : Option Addr) (cap : Nat) (p : Nat) (hp : p < 256) {keep : List Bool} {t b : Int} {v : Value} (m : Nat) (M : Nat → Int × Int × ByteArray) (mo : Option Addr) (mcap : Nat) (u : World) (ha : SaAt u.heap.size n A ao cap u) (hc : CrA u.heap.size keep t b v u) (hm : SaAt u.heap.size m M mo mcap u) : Calls Tryz.prog 5 #[.agg #[.slice ao n cap, .int .u8 (p : Int), v, .int .i64 t, .int .i64 b, .slice mo m mcap]] u fun r u' => r = .returned (.bool true) ∧ Below u.heap.size u u' := by
  have HI := Lib.hid I
  have HC := Lib.hid C
  have HA := Lib.hid ha
  have HCR := Lib.hid hc
  have HM := Lib.hid hm
  have HAW := Lib.hid (fun w => awake14_any I w)
  have FC := hc.k
  obtain ⟨akc, ckc, rfl, _⟩ := FC
  have hcap := ha.c
  have hcap2 := hm.c
  have X1 := Lib.hid (heap_alloc_new u (.cells #[.slice ao n cap, .int .u8 (p : Int), .slice akc keep.length ckc, .int .i64 t, .int .i64 b, .slice mo m mcap] 52))
  have B1 := Lib.hid (balloc u (.cells #[.slice ao n cap, .int .u8 (p : Int), .slice akc keep.length ckc, .int .i64 t, .int .i64 b, .slice mo m mcap] 52))
  have HBG := Lib.hid (fun w => begun14_any I 14 (by omega) (by omega) w)
  change Hid (∀ w, Calls _ _ #[.int .i64 14] w _) at HBG
  obtain ⟨q, hq⟩ : ∃ q, q = p % 30 := ⟨_, rfl⟩
  obtain ⟨rr, hrr⟩ : ∃ rr, rr = p / 30 + 1 := ⟨_, rfl⟩
  have HRR : Hid (1 ≤ rr ∧ rr ≤ 1000) := Lib.hid (by omega)
  have W1 : IntKind.i64.wrap ((p : Int) % 30) = (q : Int) := by rw [IntKind.wrap_i64]; omega
  have W3 : Int.tmod (p : Int) 30 = (p : Int) % 30 := by rw [Int.tmod_eq_emod_of_nonneg (by omega)]
  have W4 : Int.tdiv (p : Int) 30 = (p : Int) / 30 := by rw [Int.tdiv_eq_ediv_of_nonneg (by omega)]
  have W5 : IntKind.i64.wrap (p : Int) = (p : Int) := by rw [IntKind.wrap_i64]; omega
  have W6 : IntKind.i64.wrap ((p : Int) / 30) = (p : Int) / 30 := by rw [IntKind.wrap_i64]; omega
  have W7 : IntKind.i64.wrap ((p : Int) / 30 + 1) = (rr : Int) := by rw [IntKind.wrap_i64]; omega
  clear I C ha hc hm hq hrr
  go_enter Tryz.func5, Tryz.ntmps5
  go_upto_region 1 with fail
  obtain ⟨G, hG⟩ : ∃ G, G = u.heap.size := ⟨_, rfl⟩
  have HG := Lib.hid hG
  rw [← hG] at X1 ⊢
  clear hG
  generalize u.alloc (.cells #[.slice ao n cap, .int .u8 (p : Int), .slice akc keep.length ckc, .int .i64 t, .int .i64 b, .slice mo m mcap] 52) = w1 at *
  have SS : Hid (∀ w, Below w1.heap.size w1 w → w.cell? ⟨G, 0, none⟩ = some (.slice ao n cap) ∧ w.cell? ⟨G, 1, none⟩ = some (.int .u8 (p : Int)) ∧ w.cell? ⟨G, 2, none⟩ = some (.slice akc keep.length ckc) ∧ w.cell? ⟨G, 3, none⟩ = some (.int .i64 t) ∧ w.cell? ⟨G, 4, none⟩ = some (.int .i64 b) ∧ w.cell? ⟨G, 5, none⟩ = some (.slice mo m mcap)) := Lib.hid (fun w k => by
    have e := (k.block G (lt_of_block X1.out)).trans X1.out
    refine ⟨?_, ?_, ?_, ?_, ?_, ?_⟩ <;> (rw [Lib.cell_of_heap e]; rfl))
  refine wp_region_held_drew (S := (fun w' => w'.cell? ⟨G, 0, none⟩ = some (.slice ao n cap) ∧ w'.cell? ⟨G, 1, none⟩ = some (.int .u8 (p : Int)) ∧ w'.cell? ⟨G, 2, none⟩ = some (.slice akc keep.length ckc) ∧ w'.cell? ⟨G, 3, none⟩ = some (.int .i64 t) ∧ w'.cell? ⟨G, 4, none⟩ = some (.int .i64 b) ∧ w'.cell? ⟨G, 5, none⟩ = some (.slice mo m mcap))) (by kernel_rfl) (SS.out _ (bdrew w1)) (fun hHeld => ?_)
  change wpAnyH _ _ _ _ _ _ _ _ (World.drew w1)
  have B2 := Lib.hid (bdrew w1)
  clear hHeld
  have hHeld := SS.out _ B2.out
  generalize World.drew w1 = w2 at *
  first | refine tq0 0 rfl ?_ | refine tq1 0 rfl ?_
  try go_frame
  first | refine tq0 1 rfl ?_ | refine tq1 1 rfl ?_
  try go_frame
  first | refine tq0 2 rfl ?_ | refine tq1 2 rfl ?_
  try go_frame
  first | refine tq0 3 rfl ?_ | refine tq1 3 rfl ?_
  try go_frame
  first | refine tq0 4 rfl ?_ | refine tq1 4 rfl ?_
  try go_frame
  first | refine tq0 5 rfl ?_ | refine tq1 5 rfl ?_
  try go_frame
  first | refine tq0 6 rfl ?_ | refine tq1 6 rfl ?_
  try go_frame
  first | refine tq0 7 rfl ?_ | refine tq1 7 rfl ?_
  try go_frame
  have A3 := Lib.hid (balloc w2 (.cells #[.slice none 0 0, .int .i64 0, .int .i64 0] 50))
  have X3 := Lib.hid (heap_alloc_new w2 (.cells #[.slice none 0 0, .int .i64 0, .int .i64 0] 50))
  have B3 := Lib.hid (bthen B2.out A3.out)
  refine wpAnyH_ready (rs := [8]) (by kernel_rfl) (by simp) ?_
  refine AllReadyH.cons (o := ⟨_, _, _, _, _, _⟩) rfl (fun Kx hKx => ?_) AllReadyH.nil
  go_simp
  clear hHeld
  refine hKx.out _ _ (SS.out _ B3.out) (fun hHeld => ?_)
  clear hKx Kx
  try simp only [Act.put, List.setIfInBounds_toArray, List.set_cons_zero, List.set_cons_succ]
  first | refine tq0 9 rfl ?_ | refine tq1 9 rfl ?_
  try go_frame
  first | refine tq0 10 rfl ?_ | refine tq1 10 rfl ?_
  try go_frame
  obtain ⟨E, hE⟩ : ∃ E, E = w2.heap.size := ⟨_, rfl⟩
  have HE := Lib.hid hE
  rw [← hE] at X3 ⊢
  clear hE
  generalize w2.alloc (.cells #[.slice none 0 0, .int .i64 0, .int .i64 0] 50) = w3 at *
  have c0 : w3.cell? ⟨E, 0, none⟩ = some (.slice none 0 0) := by rw [Lib.cell_of_heap X3.out]; rfl
  have c1 : w3.cell? ⟨E, 1, none⟩ = some (.int .i64 0) := by rw [Lib.cell_of_heap X3.out]; rfl
  have c2 : w3.cell? ⟨E, 2, none⟩ = some (.int .i64 0) := by rw [Lib.cell_of_heap X3.out]; rfl
  have cf0 := Lib.frozen_of_heap X3.out 0
  have cf1 := Lib.frozen_of_heap X3.out 1
  have cf2 := Lib.frozen_of_heap X3.out 2
  have LE : Hid (u.heap.size ≤ w2.heap.size) := Lib.hid (Nat.le_trans B1.out.size B2.out.size)
  have B4 : Hid (Below w1.heap.size w1 (((w3.setCell ⟨E, 0, none⟩ (.slice akc keep.length ckc)).setCell ⟨E, 1, none⟩ (.int .i64 t)).setCell ⟨E, 2, none⟩ (.int .i64 b))) := Lib.hid (by
    have h1 : w1.heap.size ≤ E := by have := HE.out; have := B2.out.size; omega
    exact ((B3.out.setCell (p := ⟨E, 0, none⟩) h1 _).setCell (p := ⟨E, 1, none⟩) h1 _).setCell (p := ⟨E, 2, none⟩) h1 _)
  have X4 := Lib.hid (Joins.block_setCell (i := 2) (Joins.block_setCell (i := 1) (Joins.block_setCell (i := 0) X3.out (.slice akc keep.length ckc)) (.int .i64 t)) (.int .i64 b))
  refine wpAnyH_ready (rs := [11]) (by kernel_rfl) (by simp) ?_
  refine AllReadyH.cons (o := ⟨_, _, _, _, _, _⟩) rfl (fun Kx hKx => ?_) AllReadyH.nil
  go_simp

  refine hKx.out _ _ (SS.out _ B4.out) (fun hHeld => ?_)
  clear hKx Kx
  try simp only [Act.put, List.setIfInBounds_toArray, List.set_cons_zero, List.set_cons_succ]
  first | refine tq0 12 rfl ?_ | refine tq1 12 rfl ?_
  try go_frame
  refine wpAnyH_done (by kernel_rfl) ?_ _
  clear hHeld cf0 cf1 cf2 c0 c1 c2
  generalize ((w3.setCell ⟨E, 0, none⟩ (.slice akc keep.length ckc)).setCell ⟨E, 1, none⟩ (.int .i64 t)).setCell ⟨E, 2, none⟩ (.int .i64 b) = w4 at *
  have BU := Lib.hid (B1.out.trans (B4.out.mono B1.out.size))
  have HA4 := Lib.hid (HA.out.below BU.out)
  have HM4 := Lib.hid (HM.out.below BU.out)
  have HCR4 := Lib.hid (HCR.out.below BU.out)
  go_wp2_with fail
  refine (HBG.out _).mono ?_
  rintro e w5 ⟨D, P, Q, S, rfl, hbs, hb5⟩
  have BS5 := Lib.hid hbs
  have B5 := Lib.hid hb5
  clear hbs hb5 HBG
  go_wp2_with fail
  refine (HAW.out _).mono ?_
  rintro e w6 ⟨rfl, hb6⟩
  have BS6 := Lib.hid (BS5.out.below HI.out hb6)
  have B6 := Lib.hid (bthen B5.out hb6)
  have E6 := Lib.hid (show E < w4.heap.size from lt_of_block X4.out)
  clear hb6 BS5 HAW
  go_wp2_with fail
  go_loopw [10] (fun i wr => ∃ (j a : Nat) (x : Stt) (S : Nat → Bool), j ≤ n ∧ j ≤ 40 ∧ i = .int .i64 j ∧ Hid (Lim x (1 + (j : Int))) ∧ Hid (Bs14 PM w4.heap.size D P Q x a S wr) ∧ Hid (Below w4.heap.size w4 wr)) (fun i _ => n - (intOf i).toNat)
  case atStart => exact ⟨0, 0, _, S, Nat.zero_le _, by omega, rfl, Lib.hid ⟨by show (1 : Int) ≤ 1 + 0; omega, by show (64 : Int) ≤ 64 * (1 + 0); omega⟩, BS6, B6⟩
  case round =>
    clear BS6 B6
    obtain ⟨j, a, x, S, hj, hj40, rfl, HEP, HBS, HB⟩ := hrel
    by_cases hlt : j < n
    · have hj1 : (j : Int) < (n : Int) := by omega
      have hj2 : (0 : Int) ≤ (j : Int) := by omega
      have d1 : decide ((j : Int) < (n : Int)) = true := decide_eq_true hj1
      by_cases h40 : j < 40
      · have d2 : decide ((j : Int) < 40) = true := decide_eq_true (by omega)
        by_cases hq : j = q
        · have dq : ((j : Int) == (q : Int)) = true := by simp [hq]
          have HARM := Lib.hid (HC.out.arm (rr : Int) HBS.out.p HBS.out.ok HBS.out.sz (by have := HRR.out.1; omega) (by have := HRR.out.2; omega))
          clear hq
          go_wp2_with fail
          refine (HARM.out).mono ?_
          rintro r wa ⟨e, Sa, rfl, n2, k2, hp2⟩
          obtain ⟨bs, bb⟩ := bs_step HI.out HBS.out n2 k2 hp2
          have BSa := Lib.hid bs
          have Ba := Lib.hid (HB.out.trans bb)
          clear n2 k2 hp2 bs bb HARM
          have LU : Hid (u.heap.size ≤ w4.heap.size) := Lib.hid BU.out.size
          obtain ⟨BA, oA, ha, hBA, hcl⟩ := HA4.out.x (by omega)
          cases ha
          have YS : Hid (∀ w, Below w4.heap.size w4 w → w.cell? ⟨BA, oA + j * 3, none⟩ = some (.int .i64 (A j).1) ∧ w.cell? ⟨BA, oA + j * 3 + 1, none⟩ = some (.int .i64 (A j).2.1) ∧ w.cell? ⟨BA, oA + j * 3 + 2, none⟩ = some (.string (A j).2.2)) := Lib.hid (fun w k => by
            obtain ⟨q0, q1, q2⟩ := hcl j hlt
            have hb := k.block BA (Nat.lt_of_lt_of_le hBA LU.out)
            exact ⟨(World.cell?_of_block hb).trans q0, (World.cell?_of_block hb).trans q1, (World.cell?_of_block hb).trans q2⟩)
          clear hcl
          generalize A j = tt at *
          obtain ⟨kind, l, s⟩ := tt
          dsimp only at YS
          obtain ⟨y0, y1, y2⟩ := YS.out _ Ba.out
          have HSH := Lib.hid (short14_any kind l s wa)
          by_cases hs : s.size < 500
          · have HS := Lib.hid hs
            rw [decide_eq_true hs] at HSH
            clear hs
            by_cases k9 : kind = 9
            · subst k9
              go_wp2_with fail
              refine (HSH.out).mono ?_
              rintro e wb ⟨rfl, hb⟩
              have BSb := Lib.hid (BSa.out.below HI.out hb)
              have Bb := Lib.hid (bthen Ba.out hb)
              obtain ⟨z0, z1, z2⟩ := YS.out _ Bb.out
              clear hb y0 y1 y2
              go_wp2_with fail
              go_roundw
              case rel => exact ⟨j + 1, _, x, _, hlt, by omega, by go_num, Lib.hid (HEP.out.up (by omega)), BSb, Bb⟩
              case measure => simp [intOf]; omega
            · have n9 : (kind == 9) = false := by simp [k9]
              have K9 := Lib.hid k9
              clear k9
              go_wp2_with fail
              refine (HSH.out).mono ?_
              rintro e wb ⟨rfl, hb⟩
              have BSb := Lib.hid (BSa.out.below HI.out hb)
              have Bb := Lib.hid (bthen Ba.out hb)
              obtain ⟨z0, z1, z2⟩ := YS.out _ Bb.out
              have HNX := Lib.hid (rnext14_any BSb.out.r BSb.out.ok.now)
              clear hb y0 y1 y2
              go_wp2_with fail
              refine (HNX.out).mono ?_
              rintro e wc ⟨v', rfl, hvs, hb⟩
              obtain ⟨an, cn, rfl⟩ := hvs.form
              have BSc := Lib.hid (BSb.out.below HI.out hb)
              have Bc := Lib.hid (bthen Bb.out hb)
              have VN := Lib.hid (hvs.mono BSb.out.sz)
              have VLO := Lib.hid (hvs.lo)
              have SLO := Lib.hid (HI.out.lo BSb.out.p)
              have QLO := Lib.hid BSb.out.r.lt
              clear z0 z1 z2
              obtain ⟨z0, z1, z2⟩ := YS.out _ Bc.out
              have HDN := Lib.hid (HC.out.down BSc.out.p)
              have HPT := Lib.hid (part14_any HI.out HC.out BSc.out HEP.out (by omega) kind l s K9.out (by have := HS.out; omega))
              clear hb hvs HNX
              go_wp2_with fail
              refine (HDN.out).mono ?_
              rintro e wx ⟨rfl, hw⟩
              rw [hw]
              clear hw wx
              go_wp2_with fail
              refine (HDN.out).mono ?_
              rintro e wx ⟨rfl, hw⟩
              rw [hw]
              clear hw wx
              go_wp2_with fail
              refine (HPT.out).mono ?_
              rintro e wd ⟨b9, rfl, bb, kk, S2, n2, alt⟩
              have Bd := Lib.hid (Bc.out.trans bb)
              clear z0 z1 z2
              obtain ⟨z0, z1, z2⟩ := YS.out _ Bd.out
              obtain ⟨o1, o2⟩ := okx_do BSc.out.ok HEP.out (by omega) kind l s
              rcases alt with ⟨rfl, a2, bs⟩ | ⟨rfl, pf, rq, dq9⟩
              · have BSd := Lib.hid bs
                have E9 : Hid (Lim (doX x kind l s) (1 + ((j + 1 : Nat) : Int))) := Lib.hid (o2.up (by omega))
                clear bs bb kk n2 o1 o2 HPT
                go_wp2_with fail
                go_roundw
                case rel => exact ⟨j + 1, a2, _, S2, hlt, by omega, by go_num, E9, BSd, Bd⟩
                case measure => simp [intOf]; omega
              · have PF9 := Lib.hid pf
                have RQ9 := Lib.hid rq
                have DQ9 := Lib.hid dq9
                have XE := Lib.hid ((Bd.out.block E E6.out).trans X4.out)
                have e0 : wd.cell? ⟨E, 0, none⟩ = some (.slice akc keep.length ckc) := by rw [Lib.cell_of_heap XE.out]; rfl
                have e1 : wd.cell? ⟨E, 1, none⟩ = some (.int .i64 t) := by rw [Lib.cell_of_heap XE.out]; rfl
                have e2 : wd.cell? ⟨E, 2, none⟩ = some (.int .i64 b) := by rw [Lib.cell_of_heap XE.out]; rfl
                have SZd := Lib.hid (Nat.le_trans BSc.out.sz bb.size)
                have CRd := Lib.hid ((HCR4.out.mono LU.out).below Bd.out)
                have Md := Lib.hid ((HM4.out.mono LU.out).below Bd.out)
                have FINB : Hid (∀ w, Below w4.heap.size wd w → Below u.heap.size u w) := Lib.hid (fun w k => BU.out.trans ((Bd.out.trans k).mono LU.out))
                have EP9 : Hid (Lim x (1 + (j : Int)) ∧ 1 + (j : Int) ≤ 1000) := Lib.hid ⟨HEP.out, by omega⟩
                have VB : Hid (∀ b9, (Value.slice an (nextS x.now).length cn).ownBlock = some b9 → (fun k => Sa k || Q1 Q k) b9 = false) := Lib.hid (fun b9 hb9 => by
                  have h1 := (VLO.out b9 hb9).1
                  have h2 : Sa b9 = false := by
                    cases c : Sa b9 with
                    | false => rfl
                    | true => have := (SLO.out b9 c).2; omega
                  simp only [h2, Bool.false_or]
                  exact Q1.no (by have := QLO.out; omega))
                have VNd := Lib.hid (VN.out.kept _ VB.out kk)
                have VNS : Hid (∀ b9, (Value.slice an (nextS x.now).length cn).ownBlock = some b9 → S2 b9 = false) := Lib.hid (fun b9 hb9 => by
                  cases c : S2 b9 with
                  | false => rfl
                  | true =>
                    rcases n2 b9 c with d | d
                    · have h2 := VB.out b9 hb9
                      simp only [d, Bool.true_or] at h2
                      cases h2
                    · have := (VN.out.lo b9 hb9).2; omega)
                have NL : Hid ((nextS x.now).length ≤ 512) := Lib.hid (by rw [nextS_len]; have := trimS_le x.now x.now.length; have := BSc.out.ok.now; omega)
                clear pf rq dq9 bb kk n2 o1 o2 HPT HDN
                by_cases k67 : kind = 6 ∨ kind = 7
                · have NX := Lib.hid (show nxX x kind = nextS x.now from by unfold nxX; rw [if_pos k67])
                  rw [NX.out] at PF9
                  have HCD := Lib.hid (crashed14_any HI.out HC.out (.inr PF9.out) RQ9.out DQ9.out BSc.out.ok EP9.out.1 EP9.out.2 NL.out SZd.out VNd.out VNS.out CRd.out Md.out)
                  rcases k67 with rfl | rfl
                  · go_wp2_with fail
                    refine (HCD.out).mono ?_
                    rintro e we ⟨rfl, hbe⟩
                    have FF := Lib.hid (FINB.out _ hbe)
                    clear hbe
                    go_wp2_with fail
                    go_ret
                    exact ⟨rfl, FF.out⟩
                  · go_wp2_with fail
                    refine (HCD.out).mono ?_
                    rintro e we ⟨rfl, hbe⟩
                    have FF := Lib.hid (FINB.out _ hbe)
                    clear hbe
                    go_wp2_with fail
                    go_ret
                    exact ⟨rfl, FF.out⟩
                · have NX := Lib.hid (show nxX x kind = x.old from by unfold nxX; rw [if_neg k67])
                  rw [NX.out] at PF9
                  have k6 : (kind != 6) = true := by simp; omega
                  have k7 : (kind != 7) = true := by simp; omega
                  obtain ⟨a1, c1, a2, c2, x0, x1, x2, x3, h1, h2, _, _, _, hx, _, _⟩ := RQ9.out.cells
                  have HCD := Lib.hid (crashed14_any HI.out HC.out (.inr PF9.out) RQ9.out DQ9.out BSc.out.ok EP9.out.1 EP9.out.2 BSc.out.ok.old SZd.out h2 (fun b9 hb9 => DQ9.out b9 (.inr ⟨_, _, _, _, _, hx, .inr hb9⟩)) CRd.out Md.out)
                  clear x0 x1 x3 h1 h2 hx k67
                  go_wp2_with fail
                  refine (HCD.out).mono ?_
                  rintro e we ⟨rfl, hbe⟩
                  have FF := Lib.hid (FINB.out _ hbe)
                  clear hbe
                  go_wp2_with fail
                  go_ret
                  exact ⟨rfl, FF.out⟩
          · rw [decide_eq_false hs] at HSH
            clear hs
            go_wp2_with fail
            refine (HSH.out).mono ?_
            rintro e wb ⟨rfl, hb⟩
            have BSb := Lib.hid (BSa.out.below HI.out hb)
            have Bb := Lib.hid (bthen Ba.out hb)
            clear hb y0 y1 y2
            go_wp2_with fail
            go_roundw
            case rel => exact ⟨j + 1, _, x, _, hlt, by omega, by go_num, Lib.hid (HEP.out.up (by omega)), BSb, Bb⟩
            case measure => simp [intOf]; omega
        · have dq : ((j : Int) == (q : Int)) = false := by simp; omega
          have BSa := HBS
          have Ba := HB
          clear hq
          have LU : Hid (u.heap.size ≤ w4.heap.size) := Lib.hid BU.out.size
          obtain ⟨BA, oA, ha, hBA, hcl⟩ := HA4.out.x (by omega)
          cases ha
          have YS : Hid (∀ w, Below w4.heap.size w4 w → w.cell? ⟨BA, oA + j * 3, none⟩ = some (.int .i64 (A j).1) ∧ w.cell? ⟨BA, oA + j * 3 + 1, none⟩ = some (.int .i64 (A j).2.1) ∧ w.cell? ⟨BA, oA + j * 3 + 2, none⟩ = some (.string (A j).2.2)) := Lib.hid (fun w k => by
            obtain ⟨q0, q1, q2⟩ := hcl j hlt
            have hb := k.block BA (Nat.lt_of_lt_of_le hBA LU.out)
            exact ⟨(World.cell?_of_block hb).trans q0, (World.cell?_of_block hb).trans q1, (World.cell?_of_block hb).trans q2⟩)
          clear hcl
          generalize A j = tt at *
          obtain ⟨kind, l, s⟩ := tt
          dsimp only at YS
          obtain ⟨y0, y1, y2⟩ := YS.out _ Ba.out
          have HSH := Lib.hid (short14_any kind l s wr)
          by_cases hs : s.size < 500
          · have HS := Lib.hid hs
            rw [decide_eq_true hs] at HSH
            clear hs
            by_cases k9 : kind = 9
            · subst k9
              go_wp2_with fail
              refine (HSH.out).mono ?_
              rintro e wb ⟨rfl, hb⟩
              have BSb := Lib.hid (BSa.out.below HI.out hb)
              have Bb := Lib.hid (bthen Ba.out hb)
              obtain ⟨z0, z1, z2⟩ := YS.out _ Bb.out
              clear hb y0 y1 y2
              go_wp2_with fail
              go_roundw
              case rel => exact ⟨j + 1, _, x, _, hlt, by omega, by go_num, Lib.hid (HEP.out.up (by omega)), BSb, Bb⟩
              case measure => simp [intOf]; omega
            · have n9 : (kind == 9) = false := by simp [k9]
              have K9 := Lib.hid k9
              clear k9
              go_wp2_with fail
              refine (HSH.out).mono ?_
              rintro e wb ⟨rfl, hb⟩
              have BSb := Lib.hid (BSa.out.below HI.out hb)
              have Bb := Lib.hid (bthen Ba.out hb)
              obtain ⟨z0, z1, z2⟩ := YS.out _ Bb.out
              have HNX := Lib.hid (rnext14_any BSb.out.r BSb.out.ok.now)
              clear hb y0 y1 y2
              go_wp2_with fail
              refine (HNX.out).mono ?_
              rintro e wc ⟨v', rfl, hvs, hb⟩
              obtain ⟨an, cn, rfl⟩ := hvs.form
              have BSc := Lib.hid (BSb.out.below HI.out hb)
              have Bc := Lib.hid (bthen Bb.out hb)
              have VN := Lib.hid (hvs.mono BSb.out.sz)
              have VLO := Lib.hid (hvs.lo)
              have SLO := Lib.hid (HI.out.lo BSb.out.p)
              have QLO := Lib.hid BSb.out.r.lt
              clear z0 z1 z2
              obtain ⟨z0, z1, z2⟩ := YS.out _ Bc.out
              have HDN := Lib.hid (HC.out.down BSc.out.p)
              have HPT := Lib.hid (part14_any HI.out HC.out BSc.out HEP.out (by omega) kind l s K9.out (by have := HS.out; omega))
              clear hb hvs HNX
              go_wp2_with fail
              refine (HDN.out).mono ?_
              rintro e wx ⟨rfl, hw⟩
              rw [hw]
              clear hw wx
              go_wp2_with fail
              refine (HDN.out).mono ?_
              rintro e wx ⟨rfl, hw⟩
              rw [hw]
              clear hw wx
              go_wp2_with fail
              refine (HPT.out).mono ?_
              rintro e wd ⟨b9, rfl, bb, kk, S2, n2, alt⟩
              have Bd := Lib.hid (Bc.out.trans bb)
              clear z0 z1 z2
              obtain ⟨z0, z1, z2⟩ := YS.out _ Bd.out
              obtain ⟨o1, o2⟩ := okx_do BSc.out.ok HEP.out (by omega) kind l s
              rcases alt with ⟨rfl, a2, bs⟩ | ⟨rfl, pf, rq, dq9⟩
              · have BSd := Lib.hid bs
                have E9 : Hid (Lim (doX x kind l s) (1 + ((j + 1 : Nat) : Int))) := Lib.hid (o2.up (by omega))
                clear bs bb kk n2 o1 o2 HPT
                go_wp2_with fail
                go_roundw
                case rel => exact ⟨j + 1, a2, _, S2, hlt, by omega, by go_num, E9, BSd, Bd⟩
                case measure => simp [intOf]; omega
              · have PF9 := Lib.hid pf
                have RQ9 := Lib.hid rq
                have DQ9 := Lib.hid dq9
                have XE := Lib.hid ((Bd.out.block E E6.out).trans X4.out)
                have e0 : wd.cell? ⟨E, 0, none⟩ = some (.slice akc keep.length ckc) := by rw [Lib.cell_of_heap XE.out]; rfl
                have e1 : wd.cell? ⟨E, 1, none⟩ = some (.int .i64 t) := by rw [Lib.cell_of_heap XE.out]; rfl
                have e2 : wd.cell? ⟨E, 2, none⟩ = some (.int .i64 b) := by rw [Lib.cell_of_heap XE.out]; rfl
                have SZd := Lib.hid (Nat.le_trans BSc.out.sz bb.size)
                have CRd := Lib.hid ((HCR4.out.mono LU.out).below Bd.out)
                have Md := Lib.hid ((HM4.out.mono LU.out).below Bd.out)
                have FINB : Hid (∀ w, Below w4.heap.size wd w → Below u.heap.size u w) := Lib.hid (fun w k => BU.out.trans ((Bd.out.trans k).mono LU.out))
                have EP9 : Hid (Lim x (1 + (j : Int)) ∧ 1 + (j : Int) ≤ 1000) := Lib.hid ⟨HEP.out, by omega⟩
                have VB : Hid (∀ b9, (Value.slice an (nextS x.now).length cn).ownBlock = some b9 → (fun k => S k || Q1 Q k) b9 = false) := Lib.hid (fun b9 hb9 => by
                  have h1 := (VLO.out b9 hb9).1
                  have h2 : S b9 = false := by
                    cases c : S b9 with
                    | false => rfl
                    | true => have := (SLO.out b9 c).2; omega
                  simp only [h2, Bool.false_or]
                  exact Q1.no (by have := QLO.out; omega))
                have VNd := Lib.hid (VN.out.kept _ VB.out kk)
                have VNS : Hid (∀ b9, (Value.slice an (nextS x.now).length cn).ownBlock = some b9 → S2 b9 = false) := Lib.hid (fun b9 hb9 => by
                  cases c : S2 b9 with
                  | false => rfl
                  | true =>
                    rcases n2 b9 c with d | d
                    · have h2 := VB.out b9 hb9
                      simp only [d, Bool.true_or] at h2
                      cases h2
                    · have := (VN.out.lo b9 hb9).2; omega)
                have NL : Hid ((nextS x.now).length ≤ 512) := Lib.hid (by rw [nextS_len]; have := trimS_le x.now x.now.length; have := BSc.out.ok.now; omega)
                clear pf rq dq9 bb kk n2 o1 o2 HPT HDN
                by_cases k67 : kind = 6 ∨ kind = 7
                · have NX := Lib.hid (show nxX x kind = nextS x.now from by unfold nxX; rw [if_pos k67])
                  rw [NX.out] at PF9
                  have HCD := Lib.hid (crashed14_any HI.out HC.out (.inr PF9.out) RQ9.out DQ9.out BSc.out.ok EP9.out.1 EP9.out.2 NL.out SZd.out VNd.out VNS.out CRd.out Md.out)
                  rcases k67 with rfl | rfl
                  · go_wp2_with fail
                    refine (HCD.out).mono ?_
                    rintro e we ⟨rfl, hbe⟩
                    have FF := Lib.hid (FINB.out _ hbe)
                    clear hbe
                    go_wp2_with fail
                    go_ret
                    exact ⟨rfl, FF.out⟩
                  · go_wp2_with fail
                    refine (HCD.out).mono ?_
                    rintro e we ⟨rfl, hbe⟩
                    have FF := Lib.hid (FINB.out _ hbe)
                    clear hbe
                    go_wp2_with fail
                    go_ret
                    exact ⟨rfl, FF.out⟩
                · have NX := Lib.hid (show nxX x kind = x.old from by unfold nxX; rw [if_neg k67])
                  rw [NX.out] at PF9
                  have k6 : (kind != 6) = true := by simp; omega
                  have k7 : (kind != 7) = true := by simp; omega
                  obtain ⟨a1, c1, a2, c2, x0, x1, x2, x3, h1, h2, _, _, _, hx, _, _⟩ := RQ9.out.cells
                  have HCD := Lib.hid (crashed14_any HI.out HC.out (.inr PF9.out) RQ9.out DQ9.out BSc.out.ok EP9.out.1 EP9.out.2 BSc.out.ok.old SZd.out h2 (fun b9 hb9 => DQ9.out b9 (.inr ⟨_, _, _, _, _, hx, .inr hb9⟩)) CRd.out Md.out)
                  clear x0 x1 x3 h1 h2 hx k67
                  go_wp2_with fail
                  refine (HCD.out).mono ?_
                  rintro e we ⟨rfl, hbe⟩
                  have FF := Lib.hid (FINB.out _ hbe)
                  clear hbe
                  go_wp2_with fail
                  go_ret
                  exact ⟨rfl, FF.out⟩
          · rw [decide_eq_false hs] at HSH
            clear hs
            go_wp2_with fail
            refine (HSH.out).mono ?_
            rintro e wb ⟨rfl, hb⟩
            have BSb := Lib.hid (BSa.out.below HI.out hb)
            have Bb := Lib.hid (bthen Ba.out hb)
            clear hb y0 y1 y2
            go_wp2_with fail
            go_roundw
            case rel => exact ⟨j + 1, _, x, _, hlt, by omega, by go_num, Lib.hid (HEP.out.up (by omega)), BSb, Bb⟩
            case measure => simp [intOf]; omega
      · have d2 : decide ((j : Int) < 40) = false := decide_eq_false (by omega)
        go_wp2_with fail
        go_upto_region 17 with fail
        have XE := Lib.hid ((HB.out.block E E6.out).trans X4.out)
        obtain ⟨a1, c1, a2, c2, x0, x1, x2, x3, h1, h2, _, _, _, hx, _, _⟩ := HBS.out.r.cells
        have VO := Lib.hid h2
        have HX := Lib.hid hx
        have LU : Hid (u.heap.size ≤ w4.heap.size) := Lib.hid BU.out.size
        have SS2 : Hid (∀ w, Below wr.heap.size wr w → w.cell? ⟨Q, 2, none⟩ = some (.slice a2 x.old.length c2) ∧ w.cell? ⟨E, 0, none⟩ = some (.slice akc keep.length ckc) ∧ w.cell? ⟨E, 1, none⟩ = some (.int .i64 t) ∧ w.cell? ⟨E, 2, none⟩ = some (.int .i64 b)) := Lib.hid (fun w k => by
          have e1 := (k.block Q (lt_of_block HX.out)).trans HX.out
          have e2 := (k.block E (lt_of_block XE.out)).trans XE.out
          refine ⟨?_, ?_, ?_, ?_⟩
          · rw [Lib.cell_of_heap e1]; rfl
          · rw [Lib.cell_of_heap e2]; rfl
          · rw [Lib.cell_of_heap e2]; rfl
          · rw [Lib.cell_of_heap e2]; rfl)
        clear x0 x1 x2 x3 h1 h2 hx
        refine wp_region_held_drew (S := (fun w' => True)) (by kernel_rfl) trivial (fun hHeld => ?_)
        change wpAnyH _ _ _ _ _ _ _ _ (World.drew wr)
        have Bz := Lib.hid (bdrew wr)
        obtain ⟨q2, g0, g1, g2⟩ := SS2.out _ Bz.out
        generalize World.drew wr = wz at *
        first | refine tq0 0 rfl ?_ | refine tq1 0 rfl ?_
        try go_frame
        first | refine tq0 1 rfl ?_ | refine tq1 1 rfl ?_
        try go_frame
        first | refine tq0 2 rfl ?_ | refine tq1 2 rfl ?_
        try go_frame
        first | refine tq0 3 rfl ?_ | refine tq1 3 rfl ?_
        try go_frame
        first | refine tq0 4 rfl ?_ | refine tq1 4 rfl ?_
        try go_frame
        first | refine tq0 7 rfl ?_ | refine tq1 7 rfl ?_
        try go_frame
        have BSz := Lib.hid (HBS.out.below HI.out Bz.out)
        have Bzz := Lib.hid (bthen HB.out Bz.out)
        have HCD := Lib.hid (crashed14_any HI.out HC.out (.inl ⟨P, a, BSz.out.p, rfl⟩) BSz.out.r BSz.out.d BSz.out.ok HEP.out (by omega) BSz.out.ok.old BSz.out.sz (VO.out.below Bz.out) (fun b9 hb9 => BSz.out.d b9 (.inr ⟨_, _, _, _, _, (Bz.out.block Q (lt_of_block HX.out)).trans HX.out, .inr hb9⟩)) ((HCR4.out.mono LU.out).below Bzz.out) ((HM4.out.mono LU.out).below Bzz.out))
        refine wpAnyH_ready (rs := [5, 6]) (by kernel_rfl) (by simp) ?_
        refine AllReadyH.cons (o := ⟨_, _, _, _, _, _⟩) rfl (fun Kx hKx => ?_) (AllReadyH.cons (o := ⟨_, _, _, _, _, _⟩) rfl (fun Kx hKx => ?_) AllReadyH.nil)
        · go_simp
          refine hKx.out _ _ trivial (fun hHeld => ?_)
          clear hKx Kx
          try simp only [Act.put, List.setIfInBounds_toArray, List.set_cons_zero, List.set_cons_succ]
          refine wpAnyH_ready (rs := [6]) (by kernel_rfl) (by simp) ?_
          refine AllReadyH.cons (o := ⟨_, _, _, _, _, _⟩) rfl (fun Kx hKx => ?_) AllReadyH.nil
          go_simp
          refine hKx.out _ _ trivial (fun hHeld => ?_)
          clear hKx Kx
          try simp only [Act.put, List.setIfInBounds_toArray, List.set_cons_zero, List.set_cons_succ]
          refine wpAnyH_ready (rs := [8]) (by kernel_rfl) (by simp) ?_
          refine AllReadyH.cons (o := ⟨_, _, _, _, _, _⟩) rfl (fun Kx hKx => ?_) AllReadyH.nil
          go_simp
          refine (HCD.out).mono ?_
          rintro r we ⟨rfl, hbe⟩
          have FF := Lib.hid (BU.out.trans ((Bzz.out.trans hbe).mono LU.out))
          clear hbe
          refine hKx.out _ _ trivial (fun hHeld => ?_)
          clear hKx Kx
          try simp only [Act.put, List.setIfInBounds_toArray, List.set_cons_zero, List.set_cons_succ]
          first | refine tq0 9 rfl ?_ | refine tq1 9 rfl ?_
          try go_frame
          refine wpAnyH_done (by kernel_rfl) ?_ _
          clear hHeld
          go_wp2_with fail
          go_ret
          exact ⟨rfl, FF.out⟩
        · go_simp
          refine hKx.out _ _ trivial (fun hHeld => ?_)
          clear hKx Kx
          try simp only [Act.put, List.setIfInBounds_toArray, List.set_cons_zero, List.set_cons_succ]
          refine wpAnyH_ready (rs := [5]) (by kernel_rfl) (by simp) ?_
          refine AllReadyH.cons (o := ⟨_, _, _, _, _, _⟩) rfl (fun Kx hKx => ?_) AllReadyH.nil
          go_simp
          refine hKx.out _ _ trivial (fun hHeld => ?_)
          clear hKx Kx
          try simp only [Act.put, List.setIfInBounds_toArray, List.set_cons_zero, List.set_cons_succ]
          refine wpAnyH_ready (rs := [8]) (by kernel_rfl) (by simp) ?_
          refine AllReadyH.cons (o := ⟨_, _, _, _, _, _⟩) rfl (fun Kx hKx => ?_) AllReadyH.nil
          go_simp
          refine (HCD.out).mono ?_
          rintro r we ⟨rfl, hbe⟩
          have FF := Lib.hid (BU.out.trans ((Bzz.out.trans hbe).mono LU.out))
          clear hbe
          refine hKx.out _ _ trivial (fun hHeld => ?_)
          clear hKx Kx
          try simp only [Act.put, List.setIfInBounds_toArray, List.set_cons_zero, List.set_cons_succ]
          first | refine tq0 9 rfl ?_ | refine tq1 9 rfl ?_
          try go_frame
          refine wpAnyH_done (by kernel_rfl) ?_ _
          clear hHeld
          go_wp2_with fail
          go_ret
          exact ⟨rfl, FF.out⟩
    · have d1 : decide ((j : Int) < (n : Int)) = false := decide_eq_false (by omega)
      go_wp2_with fail
      go_upto_region 17 with fail
      have XE := Lib.hid ((HB.out.block E E6.out).trans X4.out)
      obtain ⟨a1, c1, a2, c2, x0, x1, x2, x3, h1, h2, _, _, _, hx, _, _⟩ := HBS.out.r.cells
      have VO := Lib.hid h2
      have HX := Lib.hid hx
      have LU : Hid (u.heap.size ≤ w4.heap.size) := Lib.hid BU.out.size
      have SS2 : Hid (∀ w, Below wr.heap.size wr w → w.cell? ⟨Q, 2, none⟩ = some (.slice a2 x.old.length c2) ∧ w.cell? ⟨E, 0, none⟩ = some (.slice akc keep.length ckc) ∧ w.cell? ⟨E, 1, none⟩ = some (.int .i64 t) ∧ w.cell? ⟨E, 2, none⟩ = some (.int .i64 b)) := Lib.hid (fun w k => by
        have e1 := (k.block Q (lt_of_block HX.out)).trans HX.out
        have e2 := (k.block E (lt_of_block XE.out)).trans XE.out
        refine ⟨?_, ?_, ?_, ?_⟩
        · rw [Lib.cell_of_heap e1]; rfl
        · rw [Lib.cell_of_heap e2]; rfl
        · rw [Lib.cell_of_heap e2]; rfl
        · rw [Lib.cell_of_heap e2]; rfl)
      clear x0 x1 x2 x3 h1 h2 hx
      refine wp_region_held_drew (S := (fun w' => True)) (by kernel_rfl) trivial (fun hHeld => ?_)
      change wpAnyH _ _ _ _ _ _ _ _ (World.drew wr)
      have Bz := Lib.hid (bdrew wr)
      obtain ⟨q2, g0, g1, g2⟩ := SS2.out _ Bz.out
      generalize World.drew wr = wz at *
      first | refine tq0 0 rfl ?_ | refine tq1 0 rfl ?_
      try go_frame
      first | refine tq0 1 rfl ?_ | refine tq1 1 rfl ?_
      try go_frame
      first | refine tq0 2 rfl ?_ | refine tq1 2 rfl ?_
      try go_frame
      first | refine tq0 3 rfl ?_ | refine tq1 3 rfl ?_
      try go_frame
      first | refine tq0 4 rfl ?_ | refine tq1 4 rfl ?_
      try go_frame
      first | refine tq0 7 rfl ?_ | refine tq1 7 rfl ?_
      try go_frame
      have BSz := Lib.hid (HBS.out.below HI.out Bz.out)
      have Bzz := Lib.hid (bthen HB.out Bz.out)
      have HCD := Lib.hid (crashed14_any HI.out HC.out (.inl ⟨P, a, BSz.out.p, rfl⟩) BSz.out.r BSz.out.d BSz.out.ok HEP.out (by omega) BSz.out.ok.old BSz.out.sz (VO.out.below Bz.out) (fun b9 hb9 => BSz.out.d b9 (.inr ⟨_, _, _, _, _, (Bz.out.block Q (lt_of_block HX.out)).trans HX.out, .inr hb9⟩)) ((HCR4.out.mono LU.out).below Bzz.out) ((HM4.out.mono LU.out).below Bzz.out))
      refine wpAnyH_ready (rs := [5, 6]) (by kernel_rfl) (by simp) ?_
      refine AllReadyH.cons (o := ⟨_, _, _, _, _, _⟩) rfl (fun Kx hKx => ?_) (AllReadyH.cons (o := ⟨_, _, _, _, _, _⟩) rfl (fun Kx hKx => ?_) AllReadyH.nil)
      · go_simp
        refine hKx.out _ _ trivial (fun hHeld => ?_)
        clear hKx Kx
        try simp only [Act.put, List.setIfInBounds_toArray, List.set_cons_zero, List.set_cons_succ]
        refine wpAnyH_ready (rs := [6]) (by kernel_rfl) (by simp) ?_
        refine AllReadyH.cons (o := ⟨_, _, _, _, _, _⟩) rfl (fun Kx hKx => ?_) AllReadyH.nil
        go_simp
        refine hKx.out _ _ trivial (fun hHeld => ?_)
        clear hKx Kx
        try simp only [Act.put, List.setIfInBounds_toArray, List.set_cons_zero, List.set_cons_succ]
        refine wpAnyH_ready (rs := [8]) (by kernel_rfl) (by simp) ?_
        refine AllReadyH.cons (o := ⟨_, _, _, _, _, _⟩) rfl (fun Kx hKx => ?_) AllReadyH.nil
        go_simp
        refine (HCD.out).mono ?_
        rintro r we ⟨rfl, hbe⟩
        have FF := Lib.hid (BU.out.trans ((Bzz.out.trans hbe).mono LU.out))
        clear hbe
        refine hKx.out _ _ trivial (fun hHeld => ?_)
        clear hKx Kx
        try simp only [Act.put, List.setIfInBounds_toArray, List.set_cons_zero, List.set_cons_succ]
        first | refine tq0 9 rfl ?_ | refine tq1 9 rfl ?_
        try go_frame
        refine wpAnyH_done (by kernel_rfl) ?_ _
        clear hHeld
        go_wp2_with fail
        go_ret
        exact ⟨rfl, FF.out⟩
      · go_simp
        refine hKx.out _ _ trivial (fun hHeld => ?_)
        clear hKx Kx
        try simp only [Act.put, List.setIfInBounds_toArray, List.set_cons_zero, List.set_cons_succ]
        refine wpAnyH_ready (rs := [5]) (by kernel_rfl) (by simp) ?_
        refine AllReadyH.cons (o := ⟨_, _, _, _, _, _⟩) rfl (fun Kx hKx => ?_) AllReadyH.nil
        go_simp
        refine hKx.out _ _ trivial (fun hHeld => ?_)
        clear hKx Kx
        try simp only [Act.put, List.setIfInBounds_toArray, List.set_cons_zero, List.set_cons_succ]
        refine wpAnyH_ready (rs := [8]) (by kernel_rfl) (by simp) ?_
        refine AllReadyH.cons (o := ⟨_, _, _, _, _, _⟩) rfl (fun Kx hKx => ?_) AllReadyH.nil
        go_simp
        refine (HCD.out).mono ?_
        rintro r we ⟨rfl, hbe⟩
        have FF := Lib.hid (BU.out.trans ((Bzz.out.trans hbe).mono LU.out))
        clear hbe
        refine hKx.out _ _ trivial (fun hHeld => ?_)
        clear hKx Kx
        try simp only [Act.put, List.setIfInBounds_toArray, List.set_cons_zero, List.set_cons_succ]
        first | refine tq0 9 rfl ?_ | refine tq1 9 rfl ?_
        try go_frame
        refine wpAnyH_done (by kernel_rfl) ?_ _
        clear hHeld
        go_wp2_with fail
        go_ret
        exact ⟨rfl, FF.out⟩
end

end Go.Proofs.YtdpmpmaepjgndaaGreat
