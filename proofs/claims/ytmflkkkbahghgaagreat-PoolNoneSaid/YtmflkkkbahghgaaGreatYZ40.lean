/- The program's bring: a root and its parts are written. What is no block of a store's. -/
import Derived.Test.YtmflkkkbahghgaaGreatYZ39
import Derived.Test.YtmflkkkbahghgaaGreatYZ38
import Derived.Test.YtmflkkkbahghgaaGreatYZ36
import Derived.Test.YtmflkkkbahghgaaGreatYZ14
namespace Go.Proofs.YtmflkkkbahghgaaGreat
open Go.RowKit Go.Deep
set_option linter.unusedVariables false
set_option linter.unusedSimpArgs false
set_option maxRecDepth 100000

theorem sync_bd14 (d : Dk) : (syncD d).calls ≤ d.calls + 1 ∧ (syncD d).arm ≤ d.arm := by
  unfold syncD
  split
  · exact ⟨by omega, Nat.le_refl _⟩
  · unfold safeD countD
    split
    · exact ⟨Nat.le_refl _, Nat.zero_le _⟩
    · exact ⟨Nat.le_refl _, Nat.sub_le _ _⟩
theorem sync_armed {d : Dk} (hd : d.down = false) (h : syncE d ≠ 0) : d.arm ≠ 0 := by
  unfold syncE countE at h
  rw [hd, if_neg (by decide)] at h
  split at h
  · omega
  · exact absurd rfl h
/-- what a commit's next root and parts are -/
structure BrIn (x : Stt) (n : Nat) (K : Nat → Nat) (tb : Nat → Int) (tl ps : List Int) : Prop where
  len : tl.length = (nextS x.now).length
  htl : ∀ l, l < tl.length → tl.getD l 0 = tb l
  hot : ∀ l, isS x.now l = true → atL tl l = tb l
  hno : ∀ l, isS x.now l = false → atL tl l = -1
  bd : ∀ y ∈ tl, y ≤ 1023
  pl : (ps.length : Int) = needR (tl.length : Int)
  pin : ∀ p ∈ ps, 0 ≤ p ∧ p < (n : Int) ∧ K p.toNat = 0
  pap : ps.Pairwise (· ≠ ·)
section
variable {base D P a : Nat} {x : Stt} {M bS bm cS : Nat} {d : Dk} {n : Nat} {K K2 : Nat → Nat} {tb : Nat → Int} {ot parts : List Int} {slot : Nat} {vp : Value} {SK : Nat → Bool} {u u2 : World}
theorem sto_wr {ep : Int} (m : StoM base D P M bS bm cS d n K ep slot tb ot parts vp SK u) (hb : BdD d) (i : Int) (s : ByteArray) : Calls Tryz.prog 66 #[.pointer (some ⟨D, 0, none⟩), .int .i64 i, .string s] u fun r u' => r = .returned (.int .i64 (writeE d i)) ∧ KpS (P3 D bS bm) u u' ∧ StoM base D P M bS bm cS (writeD d i s) n K ep slot tb ot parts vp SK u' := by
  refine (pwrite_any m.dk hb i s).mono ?_
  rintro r u' ⟨hr, hd, k⟩
  exact ⟨hr, k, m.disk hd (.inl rfl) k⟩
/-- where bring gave up -/
def BrBad (base D P : Nat) (x : Stt) (M bS bm cS : Nat) (d : Dk) (n : Nat) (K : Nat → Nat) (tb : Nat → Int) (ot parts : List Int) (slot : Nat) (vp : Value) (SK : Nat → Bool) (u u' : World) : Prop :=
  d.arm ≠ 0 ∧ ∃ bm2 d2, NewOr bm u bm2 ∧ StoM base D P M bS bm2 cS d2 n K x.ep slot tb ot parts vp SK u' ∧ FallP d2 x (nextS x.now) ∧ d2.calls ≤ d.calls + 40 ∧ d2.n = d.n
/-- what bring leaves -/
def BrO (base D P : Nat) (x : Stt) (M bS bm cS : Nat) (d : Dk) (n : Nat) (K : Nat → Nat) (tb : Nat → Int) (ot parts : List Int) (slot : Nat) (vp : Value) (SK : Nat → Bool) (tl ps : List Int) (r : Ending) (u u' : World) : Prop :=
  KpS (P3 D bS bm) u u' ∧
  ((r = .returned (.tuple #[]) ∧ ∃ bm2 d2, NewOr bm u bm2 ∧ StoM base D P M bS bm2 cS d2 n K x.ep slot tb ot parts vp SK u' ∧ ComV d2.sf (n : Int) (nextS x.now) (x.ep + 1) (1 - slot) tl ps ∧ (∀ k, d2.is k = false) ∧ d2.down = false ∧ OkD d2 ∧ d2.calls ≤ d.calls + 40 ∧ d2.arm ≤ d.arm ∧ d2.n = d.n) ∨
   (r = .panicked (gaveV 13) ∧ BrBad base D P x M bS bm cS d n K tb ot parts slot vp SK u u'))
theorem many_in2 {n m : Nat} (h : (n : Int) ≤ manyP (m : Int)) (h1 : 1 ≤ n) : 2 ≤ m := by
  unfold manyP at h
  split at h <;> omega
set_option maxHeartbeats 6400000 in
theorem sbring_any {tl ps : List Int} {v : Value} (m : StoM base D P M bS bm cS d n K2 x.ep slot tb ot parts vp SK u) (h : HoldP d x n K tb ot parts slot) (hn : d.n ≤ 4096) (hc : d.calls < 940000) (ha : d.arm ≤ 9223372036854775807) (hx : OkX x) (hsl : slot = 0 ∨ slot = 1)
    (hin : BrIn x n K tb tl ps) (hps : LstI ps v u) (hv : ∀ g, v.ownBlock = some g → P3 D bS bm g = false) :
    Calls Tryz.prog 93 #[.pointer (some ⟨P, 0, none⟩), rtV (x.ep + 1) (tl.length : Int) v] u fun r u' => BrO base D P x M bS bm cS d n K2 tb ot parts slot vp SK tl ps r u u' := by
  have hxe := hx.ep
  have h512 : tl.length ≤ 512 := by rw [hin.len, nextS_len]; have := trimS_le x.now x.now.length; have := hx.now; omega
  have hn1 := h.mn.2.1
  have h5 : ps.length ≤ 5 := by have := need_le (n := (tl.length : Int)) (by omega); have := hin.pl; omega
  have hright : RightR ⟨x.ep + 1, (tl.length : Int), ps⟩ := ⟨hin.pap, fun p hp => by have := hin.pin p hp; omega, by show 1 ≤ x.ep + 1; omega, by show x.ep + 1 ≤ _; omega, by show (0 : Int) ≤ (tl.length : Int); omega, by show (tl.length : Int) ≤ 512; omega, hin.pl⟩
  have HPT := Lib.hid (fun (w : World) (q : LstI ps v w) => pputR_any (x.ep + 1) (tl.length : Int) ps v w (by unfold big64; omega) (by unfold big64; omega) (by omega) q)
  obtain ⟨er1, er2⟩ := rtO_yes hright
  rw [er1, er2] at HPT
  have HMK := Lib.hid (fun w => spwmake_any P tl.length (x.ep + 1) v w h512)
  have HM0 := Lib.hid (fun w => smust_ok w)
  have HMB := Lib.hid (fun w => smust_bad 13 (by decide) w)
  have MM := Lib.hid m
  have H := Lib.hid h
  have HX := Lib.hid hx
  have HIN := Lib.hid hin
  have HPS := Lib.hid hps
  have HV := Lib.hid hv
  have HB := Lib.hid (And.intro hn (And.intro hc ha))
  have HSL := Lib.hid hsl
  have H5 := Lib.hid h5
  have H512 := Lib.hid h512
  have LP := Lib.hid (pdk_lo m.dk)
  have LO := Lib.hid m.s_lo
  have X0 := Lib.hid (heap_alloc_new u (.cells #[.int .i64 (x.ep + 1), .int .i64 (tl.length : Int), v] 98))
  have B0 := Lib.hid (balloc u (.cells #[.int .i64 (x.ep + 1), .int .i64 (tl.length : Int), v] 98))
  obtain ⟨R, hR⟩ : ∃ R, R = u.heap.size := ⟨_, rfl⟩
  have HRE := Lib.hid hR
  rw [← hR] at X0
  have nP3 : ∀ g, u.heap.size ≤ g → P3 D bS bm g = false := fun g hg => by
    cases c : P3 D bS bm g with
    | false => rfl
    | true => have := (LP.out g c).2; omega
  have NP3 := Lib.hid nP3
  obtain ⟨ao, cap, rfl, hc1, hc2, _⟩ := hps
  clear m h hn hc ha hx hin hv hright er1 er2 hxe nP3 hsl hn1 h5 h512
  unfold rtV at HPT HMK ⊢
  go_enter Tryz.func93, Tryz.ntmps93
  go_upto_region 1 with fail
  rw [← hR]
  generalize u.alloc (.cells #[.int .i64 (x.ep + 1), .int .i64 (tl.length : Int), .slice ao ps.length cap] 98) = w0 at *
  clear hR
  obtain ⟨r0, r1, r2⟩ := three_of X0.out
  go_wp2_with fail
  refine (HPT.out _ (HPS.out.below B0.out)).mono ?_
  rintro r w1 ⟨rfl, hb1⟩
  have B1 := Lib.hid (bthen B0.out hb1)
  have X1 := Lib.hid (heap_stays X0.out hb1)
  clear hb1 r0 r1 r2
  obtain ⟨r0, r1, r2⟩ := three_of X1.out
  go_wp2_with fail
  refine (HM0.out _).mono ?_
  rintro r w9 ⟨rfl, hw9⟩
  rw [hw9]
  clear hw9 w9
  go_wp2_with fail
  refine (HMK.out _).mono ?_
  rintro r w2 ⟨b5, b2, b3, rfl, hg5, hg2, hg3, hpw, hb2⟩
  have B2 := Lib.hid (bthen B1.out hb2)
  have X2 := Lib.hid (heap_stays X1.out hb2)
  have PW2 := Lib.hid hpw
  have G2 : Hid (P3 D bS bm b2 = false) := Lib.hid (NP3.out b2 (Nat.le_trans B1.out.size hg2))
  have G3 : Hid (P3 D bS bm b3 = false) := Lib.hid (NP3.out b3 (Nat.le_trans B1.out.size hg3))
  have G5 : Hid (P3 D bS bm b5 = false) := Lib.hid (NP3.out b5 (Nat.le_trans B1.out.size hg5))
  have M2 := Lib.hid (MM.out.below B2.out)
  have P2 := Lib.hid (HPS.out.below B2.out)
  have HPW := Lib.hid (fun (w : World) (i : Nat) (dj : Dk) (q : StoM base D P M bS bm cS dj n K2 x.ep slot tb ot parts vp SK w) (hj : HoldP dj x n K tb ot parts slot) (b1 : dj.n ≤ 4096) (b2' : dj.calls < 950000) (b3' : dj.arm ≤ 9223372036854775807) (pw : PwAt P tl.length (x.ep + 1) (.slice ao ps.length cap) b5 b2 b3 w) (pl : LstI ps (.slice ao ps.length cap) w) (hi : i < ps.length) => spw_any q hj b1 b2' b3' HX.out pw pl H512.out HIN.out.htl HIN.out.bd HIN.out.pl HIN.out.pin G2.out G3.out HV.out hi (nextS x.now))
  clear hg5 hg2 hg3 hpw hb2 r0 r1 r2 HMK HPT
  obtain ⟨r0, r1, r2⟩ := three_of X2.out
  unfold pwV
  go_wp2_with fail
  clear r0 r1 r2
  go_loopw [21] (fun i wr => ∃ j : Nat, j ≤ ps.length ∧ i = .int .i64 j ∧ ∃ dj, Hid (StoM base D P M bS bm cS dj n K2 x.ep slot tb ot parts vp SK wr) ∧ Hid (HoldP dj x n K tb ot parts slot) ∧ Hid (dj.calls ≤ d.calls + 4 * j ∧ dj.arm ≤ d.arm ∧ dj.n = d.n) ∧ Hid (∀ i (hi : i < ps.length), i < j → PageOk (nowD dj) (x.ep + 1) 1 ps[i] (padN (partS tl i) 232)) ∧ Hid (KpS (P3 D bS bm) u wr) ∧ Hid (PwAt P tl.length (x.ep + 1) (.slice ao ps.length cap) b5 b2 b3 wr) ∧ Hid (LstI ps (.slice ao ps.length cap) wr)) (fun i _ => ps.length - (intOf i).toNat)
  case atStart => exact ⟨0, Nat.zero_le _, rfl, d, M2, H, Lib.hid ⟨by omega, Nat.le_refl _, rfl⟩, Lib.hid (fun i hi h => absurd h (Nat.not_lt_zero i)), Lib.hid (KpS.of B2.out), PW2, P2⟩
  case round =>
    obtain ⟨j, hj, rfl, dj, HMj, HHj, HBj, HOj, HKj, HWj, HLj⟩ := hrel
    by_cases hlt : j < ps.length
    · have hj1 : (j : Int) < (ps.length : Int) := by omega
      have hj2 : (0 : Int) ≤ (j : Int) := by omega
      have d1 : decide ((j : Int) < (ps.length : Int)) = true := by rw [decide_eq_true_eq]; omega
      have d2 : decide (j < ps.length) = true := by rw [decide_eq_true_eq]; omega
      have HLT := Lib.hid hlt
      have HP := Lib.hid (HPW.out wr j dj HMj.out HHj.out (by rw [HBj.out.2.2]; exact HB.out.1) (by have := HBj.out.1; have := HB.out.2.1; have := H5.out; omega) (by have := HBj.out.2.1; have := HB.out.2.2; omega) HWj.out HLj.out hlt)
      clear hlt
      go_wp2_with fail
      refine (HP.out).mono ?_
      rintro r w3 ⟨k3, hcase⟩
      have K3 := Lib.hid (HKj.out.trans k3)
      have W3 : Hid (PwAt P tl.length (x.ep + 1) (.slice ao ps.length cap) b5 b2 b3 w3) := Lib.hid
        ⟨(k3.blk (lt_of_block HWj.out.t) G5.out).trans HWj.out.t, (k3.blk (lt_of_block HWj.out.s) G2.out).trans HWj.out.s, (k3.blk (lt_of_block HWj.out.r) G3.out).trans HWj.out.r⟩
      have L3 := Lib.hid (HLj.out.kps HV.out k3)
      clear k3 HP
      rcases hcase with ⟨rfl, he, hm⟩ | ⟨rfl, harm, hm, hf, hcl, hnn⟩
      · have hgd : ps.getD j 0 = ps[j]'HLT.out := by rw [List.getD_eq_getElem?_getD, List.getElem?_eq_getElem HLT.out]; rfl
        rw [hgd] at he hm
        have hpm := HIN.out.pin _ (List.getElem_mem HLT.out)
        have hxe := HX.out.ep
        have hE : putE ⟨ps[j]'HLT.out, x.ep + 1, 1, partS tl j⟩ = 0 := putE_zero.2 ⟨⟨hpm.1, by show 0 ≤ x.ep + 1; omega, by show x.ep + 1 ≤ _; omega, by show (0 : Int) ≤ 1; omega, by show (1 : Int) ≤ _; omega⟩, part_size tl j⟩
        obtain ⟨q1, q2, q3⟩ := HHj.out.side hE hpm.2.1 hpm.2.2 he
        have M4 := Lib.hid hm
        have H4 := Lib.hid q1
        have B4 : Hid ((writeP dj ⟨ps[j]'HLT.out, x.ep + 1, 1, partS tl j⟩).1.calls ≤ d.calls + 4 * (j + 1) ∧ (writeP dj ⟨ps[j]'HLT.out, x.ep + 1, 1, partS tl j⟩).1.arm ≤ d.arm ∧ (writeP dj ⟨ps[j]'HLT.out, x.ep + 1, 1, partS tl j⟩).1.n = d.n) := Lib.hid (by
          have h1 := (writeP_bd dj ⟨ps[j]'HLT.out, x.ep + 1, 1, partS tl j⟩)
          have h2 := writeP_n dj ⟨ps[j]'HLT.out, x.ep + 1, 1, partS tl j⟩
          have h3 := HBj.out
          exact ⟨by omega, by omega, by omega⟩)
        have O4 : Hid (∀ i (hi : i < ps.length), i < j + 1 → PageOk (nowD (writeP dj ⟨ps[j]'HLT.out, x.ep + 1, 1, partS tl j⟩).1) (x.ep + 1) 1 ps[i] (padN (partS tl i) 232)) := Lib.hid (fun i hi hij => by
          rcases Nat.lt_succ_iff_lt_or_eq.1 hij with c | rfl
          · exact q3 _ _ _ _ (fun e => (List.pairwise_iff_getElem.1 HIN.out.pap) i j hi HLT.out c e) (HOj.out i hi c)
          · exact q2)
        generalize (writeP dj ⟨ps[j]'HLT.out, x.ep + 1, 1, partS tl j⟩).1 = d4 at *
        clear he hm hpm hxe hE q1 q2 q3 hgd
        go_wp2_with fail
        go_roundw
        case rel => have := HLT.out; exact ⟨j + 1, by omega, by go_num, d4, M4, H4, B4, O4, K3, W3, L3⟩
        case measure => have := HLT.out; simp [intOf]; omega
      · have BAD : Hid (BrBad base D P x M bS bm cS d n K2 tb ot parts slot vp SK u w3) := Lib.hid (by
          have h3 := HBj.out
          have h2 := writeP_n dj ⟨ps.getD j 0, x.ep + 1, 1, partS tl j⟩
          have h5 := H5.out
          exact ⟨by omega, bm, _, .inl rfl, hm, hf, by omega, by omega⟩)
        clear harm hm hf hcl hnn
        go_wp2_with fail
        exact ⟨rfl, K3.out, .inr ⟨rfl, BAD.out⟩⟩
    · have ej : j = ps.length := by omega
      have d1 : decide ((j : Int) < (ps.length : Int)) = false := by rw [decide_eq_false_iff_not]; omega
      have d2 : decide (j < ps.length) = false := by rw [decide_eq_false_iff_not]; omega
      have HN : Hid (NextP (nowD dj) (n : Int) (nextS x.now) (x.ep + 1) tl ps) := Lib.hid (HHj.out.nextP HIN.out.len HIN.out.hot HIN.out.hno (by have := HX.out.ep; omega) (by rw [← HIN.out.len]; exact H512.out) (by rw [← HIN.out.len]; exact HIN.out.pl) HIN.out.pap HIN.out.pin (fun i hi => HOj.out i hi (by omega)))
      have HSY := Lib.hid (sto_sync HMj.out ⟨by rw [HBj.out.2.2]; exact HB.out.1, by have := HBj.out.1; have := HB.out.2.1; have := H5.out; omega, by have := HBj.out.2.1; have := HB.out.2.2; omega⟩)
      have HC4 : Hid (dj.calls ≤ d.calls + 20) := Lib.hid (by have := HBj.out.1; have := H5.out; omega)
      obtain ⟨c0, c3, c4, c5, c6, c7, cf⟩ := HMj.out.look
      obtain ⟨ee, hee⟩ : ∃ ee, syncE dj = ee := ⟨_, rfl⟩
      rw [hee] at HSY
      have HEE := Lib.hid hee
      clear hlt ej hj HOj c3 c4 c5 c6 c7 cf hee
      go_wp2_with fail
      refine (HSY.out).mono ?_
      rintro r w3 ⟨rfl, k3, bm2, hbm2, _, hm3⟩
      have K3 := Lib.hid (HKj.out.trans k3)
      have M3 := Lib.hid hm3
      have NB2 : Hid (NewOr bm u bm2) := Lib.hid (Or.imp id (fun h => Nat.le_trans HKj.out.size h) hbm2)
      clear k3 hbm2 hm3 HSY c0
      by_cases he : ee ≠ 0
      · have hs := HHj.out.sfell (by rw [HEE.out]; exact he) (nextS x.now)
        have harm := sync_armed HHj.out.dn (by rw [HEE.out]; exact he)
        have e13 : ee = 13 := by rw [← HEE.out]; exact hs.1
        have BAD : Hid (BrBad base D P x M bS bm cS d n K2 tb ot parts slot vp SK u w3) := Lib.hid (by
          have h3 := HBj.out
          have h4 := HC4.out
          have h2 := sync_bd14 dj
          have h1 := sync_n dj
          exact ⟨by omega, bm2, _, NB2.out, M3.out, hs.2, by omega, by omega⟩)
        clear hs harm he
        rw [e13]
        clear e13
        go_wp2_with fail
        refine (HMB.out _).mono ?_
        rintro r w9 ⟨rfl, hw9⟩
        rw [hw9]
        clear hw9 w9
        go_wp2_with fail
        exact ⟨rfl, K3.out, .inr ⟨rfl, BAD.out⟩⟩
      have he := Decidable.not_not.1 he
      subst he
      obtain ⟨q1, q2, q3, q4⟩ := HHj.out.synced HEE.out
      have hlast := q1.last (l2 := nextS x.now) (tb2 := tl) (ps := ps) q2 (by rw [q3]; exact HN.out)
      rw [← HIN.out.len] at hlast
      have HS3 := Lib.hid q1
      have HLAST := Lib.hid hlast
      have HB3 : Hid ((syncD dj).calls ≤ d.calls + 21 ∧ (syncD dj).arm ≤ d.arm ∧ (syncD dj).n = d.n) := Lib.hid (by
        have h3 := HBj.out
        have h4 := HC4.out
        have h2 := sync_bd14 dj
        have h1 := sync_n dj
        exact ⟨by omega, by omega, by omega⟩)
      generalize hds : syncD dj = ds at *
      clear q1 q2 q3 q4 hlast hds
      obtain ⟨c0, c3, c4, c5, c6, c7, cf⟩ := M3.out.look
      clear c3 c4 c5 c6 c7 cf
      go_wp2_with fail
      refine (HM0.out _).mono ?_
      rintro r w9 ⟨rfl, hw9⟩
      rw [hw9]
      clear hw9 w9
      go_upto_region 10 with fail
      refine wp_region_held_drew (S := (fun w' => w'.cell? ⟨P, 0, none⟩ = some (.pointer (some ⟨D, 0, none⟩)))) (by kernel_rfl) c0 (fun hHeld => ?_)
      change wpAnyH _ _ _ _ _ _ _ _ (World.drew w3)
      have MD := Lib.hid (M3.out.below (bdrew w3))
      have KD := Lib.hid (K3.out.trans (KpS.of (bdrew w3)))
      clear c0
      generalize World.drew w3 = wd at *
      first | refine tq0 0 rfl ?_ | refine tq1 0 rfl ?_
      try go_frame
      first | refine tq0 1 rfl ?_ | refine tq1 1 rfl ?_
      try go_frame
      first | refine tq0 2 rfl ?_ | refine tq1 2 rfl ?_
      try go_frame
      first | refine tq0 3 rfl ?_ | refine tq1 3 rfl ?_
      try go_frame
      first | refine tq0 4 rfl ?_ | refine tq1 4 rfl ?_
      try go_frame
      first | refine tq0 6 rfl ?_ | refine tq1 6 rfl ?_
      try go_frame
      have HSP := Lib.hid (sspare_any MD.out HSL.out)
      refine wpAnyH_ready (rs := [5]) (by kernel_rfl) (by simp) ?_
      refine AllReadyH.cons (o := ⟨_, _, _, _, _, _⟩) rfl (fun Kx hKx => ?_) AllReadyH.nil
      go_simp
      go_at_call 138
      refine (HSP.out).mono ?_
      rintro r w9 ⟨rfl, hw9⟩
      rw [hw9]
      clear hw9 w9
      refine hKx.out _ _ hHeld (fun hHeld => ?_)
      clear hKx Kx
      try simp only [Act.put, List.setIfInBounds_toArray, List.set_cons_zero, List.set_cons_succ]
      have HWR := Lib.hid (sto_wr MD.out ⟨by rw [HB3.out.2.2]; exact HB.out.1, by have := HB3.out.1; have := HB.out.2.1; omega, by have := HB3.out.2.1; have := HB.out.2.2; omega⟩ ((1 - slot : Nat) : Int) (bytesR ⟨x.ep + 1, (tl.length : Int), ps⟩))
      obtain ⟨we, hwe⟩ : ∃ we, writeE ds ((1 - slot : Nat) : Int) = we := ⟨_, rfl⟩
      rw [hwe] at HWR
      have HWE := Lib.hid hwe
      clear hwe
      refine wpAnyH_ready (rs := [7]) (by kernel_rfl) (by simp) ?_
      refine AllReadyH.cons (o := ⟨_, _, _, _, _, _⟩) rfl (fun Kx hKx => ?_) AllReadyH.nil
      go_simp
      go_at_call 66
      refine (HWR.out).mono ?_
      rintro r w4 ⟨rfl, k4, hm4⟩
      have K4 : Hid (KpS (P3 D bS bm) u w4) := Lib.hid (kps_new (S2 := P3 D bS bm2) (newB_p3 (fun q hq => hq) NB2.out) KD.out k4)
      have M4 := Lib.hid hm4
      obtain ⟨c0, c3, c4, c5, c6, c7, cf⟩ := M4.out.look
      refine hKx.out _ _ c0 (fun hHeld => ?_)
      clear hKx Kx k4 hm4 HWR c3 c4 c5 c6 c7 cf
      try simp only [Act.put, List.setIfInBounds_toArray, List.set_cons_zero, List.set_cons_succ]
      refine wpAnyH_ready (rs := [8]) (by kernel_rfl) (by simp) ?_
      refine AllReadyH.cons (o := ⟨_, _, _, _, _, _⟩) rfl (fun Kx hKx => ?_) AllReadyH.nil
      obtain ⟨hL, hLc⟩ := HLAST.out
      rcases hLc with ⟨e1, hdn⟩ | ⟨e1, hdn⟩
      · have e0 : we = 0 := by rw [← HWE.out]; exact e1
        subst e0
        have HL := Lib.hid hL
        have HDN := Lib.hid hdn
        have HB4 : Hid ((writeD ds ((1 - slot : Nat) : Int) (bytesR ⟨x.ep + 1, (tl.length : Int), ps⟩)).calls ≤ d.calls + 22 ∧ (writeD ds ((1 - slot : Nat) : Int) (bytesR ⟨x.ep + 1, (tl.length : Int), ps⟩)).arm ≤ d.arm ∧ (writeD ds ((1 - slot : Nat) : Int) (bytesR ⟨x.ep + 1, (tl.length : Int), ps⟩)).n = d.n) := Lib.hid (by
          have h2 := write_bd ds ((1 - slot : Nat) : Int) (bytesR ⟨x.ep + 1, (tl.length : Int), ps⟩)
          have h1 := write_n ds ((1 - slot : Nat) : Int) (bytesR ⟨x.ep + 1, (tl.length : Int), ps⟩)
          have h3 := HB3.out
          exact ⟨by omega, by omega, by omega⟩)
        clear hL hdn e1
        generalize writeD ds ((1 - slot : Nat) : Int) (bytesR ⟨x.ep + 1, (tl.length : Int), ps⟩) = d4 at *
        go_simp
        go_at_call 65
        refine (HM0.out _).mono ?_
        rintro r w9 ⟨rfl, hw9⟩
        rw [hw9]
        clear hw9 w9
        refine hKx.out _ _ hHeld (fun hHeld => ?_)
        clear hKx Kx
        try simp only [Act.put, List.setIfInBounds_toArray, List.set_cons_zero, List.set_cons_succ]
        refine wpAnyH_done (by kernel_rfl) ?_ _
        have HSY := Lib.hid (sto_sync M4.out ⟨by rw [HB4.out.2.2]; exact HB.out.1, by have := HB4.out.1; have := HB.out.2.1; omega, by have := HB4.out.2.1; have := HB.out.2.2; omega⟩)
        obtain ⟨e5, he5⟩ : ∃ ee, syncE d4 = ee := ⟨_, rfl⟩
        rw [he5] at HSY
        have HE5 := Lib.hid he5
        clear hHeld he5
        go_wp2_with fail
        refine (HSY.out).mono ?_
        rintro r w5 ⟨rfl, k5, bm3, hbm3, _, hm5⟩
        have K5 : Hid (KpS (P3 D bS bm) u w5) := Lib.hid (kps_new (S2 := P3 D bS bm2) (newB_p3 (fun q hq => hq) NB2.out) K4.out k5)
        have M5 := Lib.hid hm5
        have NB3 : Hid (NewOr bm u bm3) := Lib.hid (by
          rcases hbm3 with e | e
          · rw [e]; exact NB2.out
          · exact .inr (Nat.le_trans K4.out.size e))
        clear k5 hbm3 hm5 HSY c0
        by_cases he : e5 ≠ 0
        · have hs := HL.out.sfell HDN.out (by rw [HE5.out]; exact he)
          have harm := sync_armed HDN.out (by rw [HE5.out]; exact he)
          have e13 : e5 = 13 := by rw [← HE5.out]; exact hs.1
          have BAD : Hid (BrBad base D P x M bS bm cS d n K2 tb ot parts slot vp SK u w5) := Lib.hid (by
            have h3 := HB4.out
            have h2 := sync_bd14 d4
            have h1 := sync_n d4
            exact ⟨by omega, bm3, _, NB3.out, M5.out, hs.2, by omega, by omega⟩)
          clear hs harm he
          rw [e13]
          clear e13
          go_wp2_with fail
          refine (HMB.out _).mono ?_
          rintro r w9 ⟨rfl, hw9⟩
          rw [hw9]
          clear hw9 w9
          go_wp2_with fail
          exact ⟨rfl, K5.out, .inr ⟨rfl, BAD.out⟩⟩
        have he := Decidable.not_not.1 he
        subst he
        obtain ⟨q1, q2, q3, q4, q5⟩ := HL.out.done HE5.out
        have FIN : Hid (∃ bm2 d2, NewOr bm u bm2 ∧ StoM base D P M bS bm2 cS d2 n K2 x.ep slot tb ot parts vp SK w5 ∧ ComV d2.sf (n : Int) (nextS x.now) (x.ep + 1) (1 - slot) tl ps ∧ (∀ k, d2.is k = false) ∧ d2.down = false ∧ OkD d2 ∧ d2.calls ≤ d.calls + 40 ∧ d2.arm ≤ d.arm ∧ d2.n = d.n) := Lib.hid (by
          have h3 := HB4.out
          have h2 := sync_bd14 d4
          have h1 := sync_n d4
          exact ⟨bm3, _, NB3.out, M5.out, q1, q2, q3, q4, by omega, by omega, by omega⟩)
        clear q1 q2 q3 q4 q5
        go_wp2_with fail
        refine (HM0.out _).mono ?_
        rintro r w9 ⟨rfl, hw9⟩
        rw [hw9]
        clear hw9 w9
        go_wp2_with fail
        go_end0
        exact ⟨K5.out, .inl ⟨rfl, FIN.out⟩⟩
      · have e13 : we = 13 := by rw [← HWE.out]; exact e1
        have BAD : Hid (BrBad base D P x M bS bm cS d n K2 tb ot parts slot vp SK u w4) := Lib.hid (by
          have h3 := HB3.out
          have h2 := write_bd ds ((1 - slot : Nat) : Int) (bytesR ⟨x.ep + 1, (tl.length : Int), ps⟩)
          have h1 := write_n ds ((1 - slot : Nat) : Int) (bytesR ⟨x.ep + 1, (tl.length : Int), ps⟩)
          have hsl := HSL.out
          have h9 := (write_fell (i := ((1 - slot : Nat) : Int)) (bytesR ⟨x.ep + 1, (tl.length : Int), ps⟩) HS3.out.dn (by omega) (by
            have := many_in2 HS3.out.mn.2.2 HS3.out.pos
            omega) (by rw [e1]; decide)).2.1
          exact ⟨by omega, bm2, _, NB2.out, M4.out, hL.fall hdn, by omega, by omega⟩)
        clear hL hdn e1 hHeld c0
        rw [e13]
        clear e13
        go_simp
        go_at_call 65
        refine (HMB.out _).mono ?_
        rintro r w9 ⟨rfl, hw9⟩
        rw [hw9]
        clear hw9 w9
        exact ⟨rfl, K4.out, .inr ⟨rfl, BAD.out⟩⟩
end

end Go.Proofs.YtmflkkkbahghgaaGreat
namespace Go.Proofs.YtmflkkkbahghgaaGreat
open Go.RowKit Go.Deep
set_option linter.unusedVariables false
theorem put_three {w : World} {C : Nat} {a0 b0 c0 : Value} {t : TypeId} (h : w.heap[C]? = some (.cells #[a0, b0, c0] t (0, 0))) (a b c : Value) : (((w.setCell ⟨C, 0, none⟩ a).setCell ⟨C, 1, none⟩ b).setCell ⟨C, 2, none⟩ c).heap[C]? = some (.cells #[a, b, c] t (0, 0)) :=
  Joins.block_setCell (i := 2) (Joins.block_setCell (i := 1) (Joins.block_setCell (i := 0) h a) b) c
section
variable {base D P M bS bm cS n : Nat} {d : Dk} {K : Nat → Nat} {ep : Int} {slot : Nat} {tb : Nat → Int} {ot parts0 : List Int} {vp : Value} {SK : Nat → Bool} {u u2 : World}
theorem stoS_no {g : Nat} (h : stoS P D bS bm SK vp g = false) : g ≠ P ∧ P3 D bS bm g = false ∧ SK g = false ∧ vp.ownBlock ≠ some g := by
  refine ⟨fun e => ?_, ?_, ?_, fun e => ?_⟩
  · rw [stoS_iff.2 (.inl e)] at h; cases h
  · cases c : P3 D bS bm g with
    | false => rfl
    | true => rw [stoS_iff.2 (.inr (.inl c))] at h; cases h
  · cases c : SK g with
    | false => rfl
    | true => rw [stoS_iff.2 (.inr (.inr (.inl c)))] at h; cases h
  · rw [stoS_iff.2 (.inr (.inr (.inr e)))] at h; cases h
theorem stoS_up {SK2 : Nat → Bool} {g : Nat} (h : stoS P D bS bm SK vp g = false) (hg : g < u.heap.size) (hs : ∀ k, SK2 k = true → SK k = true ∨ u.heap.size ≤ k) : stoS P D bS bm SK2 vp g = false := by
  obtain ⟨h1, h2, h3, h4⟩ := stoS_no h
  cases c : stoS P D bS bm SK2 vp g with
  | false => rfl
  | true =>
    rcases stoS_iff.1 c with e | e | e | e
    · exact absurd e h1
    · rw [h2] at e; cases e
    · rcases hs g e with e2 | e2
      · rw [h3] at e2; cases e2
      · omega
    · exact absurd e h4
end
end Go.Proofs.YtmflkkkbahghgaaGreat
