/- What Open finds behind a crash (crashed), whatever the program's store is made of. -/
import Derived.Test.YtdpmpmaepjgndaaGreatYZ17
import Derived.Test.YtdpmpmaepjgndaaGreatYZ12
namespace Go.Proofs.YtdpmpmaepjgndaaGreat
open Go.RowKit Go.Deep
set_option linter.unusedVariables false
set_option linter.unusedSimpArgs false
set_option maxRecDepth 100000

section
variable {PM : StM} {PF PC : FlM} {base D Q : Nat} {x : Stt} {nxt : List Slt} {S : Nat → Bool} {u w : World}
/-- a disk that may crash: a store that works, or one whose disk went down -/
def CrS (PM : StM) (PF : FlM) (base D : Nat) (x : Stt) (nxt : List Slt) (S : Nat → Bool) (u : World) : Prop := (∃ P a, PM base D P x a S u ∧ nxt = x.old) ∨ PF base D x nxt S u
theorem CrS.below (I : Sh14 PM PF PC) (h : CrS PM PF base D x nxt S u) (k : Below u.heap.size u w) : CrS PM PF base D x nxt S w := by
  rcases h with ⟨P, a, hp, e⟩ | hp
  · exact .inl ⟨P, a, I.below hp k, e⟩
  · exact .inr (I.fbelow hp k)
theorem CrS.lo (I : Sh14 PM PF PC) (h : CrS PM PF base D x nxt S u) : ∀ k, S k = true → base ≤ k ∧ k < u.heap.size := by
  rcases h with ⟨P, a, hp, e⟩ | hp
  · exact I.lo hp
  · exact I.flo hp
theorem crs_crash (C : Sh14C PM PF PC) (h : CrS PM PF base D x nxt S u) (ok : OkX x) (hb : base ≤ u.heap.size) {keep : List Bool} {t b : Int} {v : Value} (hc : CrA base keep t b v u) : Calls Tryz.prog 56 #[.pointer (some ⟨D, 0, none⟩), .agg #[v, .int .i64 t, .int .i64 b]] u fun r u' => ∃ e S2, r = .returned (.int .i64 e) ∧ NewB S S2 u ∧ KpS S u u' ∧ PC base D x nxt S2 u' := by
  rcases h with ⟨P, a, hp, rfl⟩ | hp
  · exact C.crash hp ok hb hc
  · exact C.fcrash hp ok hb hc
/-- the document's store, and a slice of it, beside what a call leaves -/
theorem rs_step {S2 : Nat → Bool} (h : RSh base Q x u) (hd : ∀ k, Rs Q u k → S k = false) (n : NewB S S2 u) (k : KpS S u w) : RSh base Q x w ∧ ∀ j, Rs Q w j → S2 j = false := by
  obtain ⟨h1, h2⟩ := h.kept hd k
  refine ⟨h1, fun j hj => ?_⟩
  have hj2 := h2 j hj
  cases c : S2 j with
  | false => rfl
  | true =>
    rcases n j c with e | e
    · rw [hd j hj2] at e; cases e
    · have := (h.rlt hj2).2; omega
theorem sr_step {S2 : Nat → Bool} {l : List Slt} {v : Value} (h : SRow base l v u) (hd : ∀ b, v.ownBlock = some b → S b = false) (n : NewB S S2 u) (k : KpS S u w) : SRow base l v w ∧ ∀ b, v.ownBlock = some b → S2 b = false := by
  refine ⟨h.kept S hd k, fun b hb => ?_⟩
  cases c : S2 b with
  | false => rfl
  | true =>
    rcases n b c with e | e
    · rw [hd b hb] at e; cases e
    · have := (h.lo b hb).2; omega
set_option maxHeartbeats 12800000 in
theorem crashed14_any (I : Sh14 PM PF PC) (C : Sh14C PM PF PC) (h : CrS PM PF base D x nxt S u) (hr : RSh base Q x u) (hd : ∀ k, Rs Q u k → S k = false) (ok : OkX x) {k0 : Int} (hL : Lim x k0) (hk0 : k0 ≤ 1000) (hn : nxt.length ≤ 512) (hsz : base ≤ u.heap.size) {vn : Value} (hv : SRow base nxt vn u) (hvS : ∀ b, vn.ownBlock = some b → S b = false) {keep : List Bool} {t b : Int} {v : Value} (hc : CrA base keep t b v u) {n : Nat} {A : Nat → Int × Int × ByteArray} {ao : Option Addr} {cap : Nat} (hm : SaAt base n A ao cap u) :
    Calls Tryz.prog 22 #[.pointer (some ⟨D, 0, none⟩), .pointer (some ⟨Q, 0, none⟩), vn, .agg #[v, .int .i64 t, .int .i64 b], .slice ao n cap] u fun r u' => r = .returned (.bool true) ∧ Below base u u' := by
  have HI := Lib.hid I
  have HC := Lib.hid C
  have X1 := Lib.hid (heap_alloc_new u (.cells #[v, .int .i64 t, .int .i64 b] 50))
  have B1 := Lib.hid (balloc u (.cells #[v, .int .i64 t, .int .i64 b] 50))
  have H1 := Lib.hid (h.below I B1.out)
  have R1 := Lib.hid (hr.below B1.out)
  have D1 := Lib.hid (fun k (hk : Rs Q (u.alloc (.cells #[v, .int .i64 t, .int .i64 b] 50)) k) => hd k (rs_below hr B1.out hk))
  have V1 := Lib.hid (hv.below B1.out)
  have VS := Lib.hid hvS
  have C1 := Lib.hid (hc.below (B1.out.mono hsz))
  have M1 := Lib.hid (hm.below (B1.out.mono hsz))
  have HOK := Lib.hid ok
  have HE := Lib.hid hL
  have HN := Lib.hid hn
  have HSZ := Lib.hid hsz
  have hcap := hm.c
  have FC := hc.k
  obtain ⟨akc, ckc, rfl, _⟩ := FC
  obtain ⟨anx, cnx, rfl⟩ := hv.form
  clear I C h hr hd hv hvS hc hm ok hL hn hsz
  go_enter Tryz.func22, Tryz.ntmps22
  go_upto_region 1 with fail
  obtain ⟨G, hG⟩ : ∃ G, G = u.heap.size := ⟨_, rfl⟩
  rw [← hG] at X1 ⊢
  have HG := Lib.hid hG
  clear hG
  have BB1 := Lib.hid (B1.out.mono HSZ.out)
  have SZ1 := Lib.hid (Nat.le_trans HSZ.out B1.out.size)
  generalize u.alloc (.cells #[.slice akc keep.length ckc, .int .i64 t, .int .i64 b] 50) = w1 at *
  have z0 : w1.cell? ⟨G, 0, none⟩ = some (.slice akc keep.length ckc) := by rw [Lib.cell_of_heap X1.out]; rfl
  have z1 : w1.cell? ⟨G, 1, none⟩ = some (.int .i64 t) := by rw [Lib.cell_of_heap X1.out]; rfl
  have z2 : w1.cell? ⟨G, 2, none⟩ = some (.int .i64 b) := by rw [Lib.cell_of_heap X1.out]; rfl
  have HCR := Lib.hid (crs_crash HC.out H1.out HOK.out SZ1.out C1.out)
  go_wp2_with fail
  refine (HCR.out).mono ?_
  rintro r w2 ⟨e2, S2, rfl, n2, k2, hp2⟩
  obtain ⟨r2, d2⟩ := rs_step R1.out D1.out n2 k2
  obtain ⟨v2, vs2⟩ := sr_step V1.out VS.out n2 k2
  have hb2 : Below base w1 w2 := k2.bot SZ1.out fun q hq => by
    cases c : S q with
    | false => rfl
    | true => have := (H1.out.lo HI.out q c).1; omega
  have BB2 := Lib.hid (BB1.out.trans hb2)
  have BY2 := Lib.hid hb2
  have SZ2 := Lib.hid (Nat.le_trans SZ1.out hb2.size)
  have R2 := Lib.hid r2
  have D2 := Lib.hid d2
  have V2 := Lib.hid v2
  have VS2 := Lib.hid vs2
  have HOP := Lib.hid (HC.out.copen hp2 HOK.out HN.out SZ2.out)
  have LO2 := Lib.hid (HI.out.clo hp2)
  clear r2 d2 v2 vs2 hb2 n2 k2 hp2 z0 z1 z2 HCR
  go_wp2_with fail
  refine (HOP.out).mono ?_
  rintro r w3 ⟨P, S3, y, rfl, hy, n3, k3, hp3⟩
  obtain ⟨r3, d3⟩ := rs_step R2.out D2.out n3 k3
  obtain ⟨v3, vs3⟩ := sr_step V2.out VS2.out n3 k3
  have hb3 : Below base w2 w3 := k3.bot SZ2.out fun q hq => by
    cases c : S2 q with
    | false => rfl
    | true => have := (LO2.out q c).1; omega
  have BB3 := Lib.hid (BB2.out.trans hb3)
  have BBX := Lib.hid (BY2.out.trans hb3)
  have SZ3 := Lib.hid (Nat.le_trans SZ2.out hb3.size)
  have R3 := Lib.hid r3
  have D3 := Lib.hid d3
  have V3 := Lib.hid v3
  have VS3 := Lib.hid vs3
  have P3' := Lib.hid hp3
  clear r3 d3 v3 vs3 hb3 n3 k3 hp3 HOP
  obtain ⟨a1, c1, a2, c2, y0, y1, y2, y3, h1, h2, _, _, _, _, _, _⟩ := R3.out.cells
  have O3 := Lib.hid h2
  have Y0 := Lib.hid y0
  have Y2 := Lib.hid y2
  have Y3 := Lib.hid y3
  have W1 : IntKind.i64.wrap (x.ep + 1) = x.ep + 1 := by have := HE.out.1; have := HOK.out.ep; rw [IntKind.wrap_i64]; omega
  clear y0 y1 y3 h1 h2
  rcases hy with rfl | rfl
  · have OKY : Hid (OkX { x with now := x.old, cl := x.cl + 64 }) := Lib.hid ⟨HOK.out.old, HOK.out.old, HOK.out.many, HOK.out.ep, by show x.cl + 64 ≤ 900000; have := HE.out.2; omega⟩
    have VO : Hid (SRow base x.old (.slice a2 x.old.length c2) w3) := O3
    have VOS : Hid (∀ b, (Value.slice a2 x.old.length c2).ownBlock = some b → S3 b = false) := Lib.hid (fun b hb => D3.out b (by
      obtain ⟨p1, p2, e, _, _, _, _⟩ := R3.out.box
      have e9 : p2 = .slice a2 x.old.length c2 := by
        have := Y2.out
        rw [Lib.cell_of_heap e] at this
        simpa using this
      subst e9
      exact .inr ⟨_, _, _, _, _, e, .inr hb⟩))
    have EY : Hid (({ x with now := x.old, cl := x.cl + 64 } : Stt).ep ≤ k0 + 1 ∧ ((x.cl + 64 : Nat) : Int) ≤ 64 * (k0 + 1)) := Lib.hid ⟨by show x.ep ≤ k0 + 1; have := HE.out.1; omega, by have := HE.out.2; omega⟩
    have HEP := Lib.hid (fun w (k : Below w3.heap.size w3 w) => HI.out.epoch (HI.out.below P3'.out k) OKY.out (Nat.le_trans SZ3.out k.size))
    change Hid (∀ w, Below w3.heap.size w3 w → Calls _ _ _ w fun r u' => r = .returned (.int .i64 x.ep) ∧ _) at HEP
    have B0 := Lib.hid (Below.refl w3.heap.size w3)
    have ne1 : (x.ep == x.ep + 1) = false := by simp; omega
    have hxx : ¬ (x.ep = x.ep + 1) := by omega
    go_upto_region 6 with fail
    refine wp_region_held_drew (S := (fun w' => w'.cell? ⟨Q, 3, none⟩ = some (.int .i64 x.ep))) (by kernel_rfl) (cell_stays B0.out Y3.out) (fun hHeld => ?_)
    change wpAnyH _ _ _ _ _ _ _ _ (World.drew w3)
    have B4d := Lib.hid (B0.out.trans ((bdrew w3).mono B0.out.size))
    have hHeld : (World.drew w3).cell? ⟨Q, 3, none⟩ = some (.int .i64 x.ep) := hHeld
    generalize World.drew w3 = w4d at *
    first | refine tq0 0 rfl ?_ | refine tq1 0 rfl ?_
    try go_frame
    first | refine tq0 2 rfl ?_ | refine tq1 2 rfl ?_
    try go_frame
    first | refine tq0 3 rfl ?_ | refine tq1 3 rfl ?_
    try go_frame
    first | refine tq0 4 rfl ?_ | refine tq1 4 rfl ?_
    try go_frame
    first | refine tq0 5 rfl ?_ | refine tq1 5 rfl ?_
    try go_frame
    first | refine tq0 6 rfl ?_ | refine tq1 6 rfl ?_
    try go_frame
    try simp only [W1]
    refine wpAnyH_ready (rs := [1]) (by kernel_rfl) (by simp) ?_
    refine AllReadyH.cons (o := ⟨_, _, _, _, _, _⟩) rfl (fun Kx hKx => ?_) AllReadyH.nil
    go_simp
    refine (HEP.out _ B4d.out).mono ?_
    rintro r w4 ⟨rfl, hb⟩
    have B4 := Lib.hid (bthen B4d.out hb)
    clear hb hHeld
    refine hKx.out _ _ (cell_stays B4.out Y3.out) (fun hHeld => ?_)
    clear hKx Kx
    try simp only [Act.put, List.setIfInBounds_toArray, List.set_cons_zero, List.set_cons_succ]
    first | refine tq0 7 rfl ?_ | refine tq1 7 rfl ?_
    try go_frame
    refine wpAnyH_done (by kernel_rfl) ?_ _
    clear hHeld
    go_upto_region 8 with fail
    refine wp_region_held_drew (S := (fun w' => w'.cell? ⟨Q, 3, none⟩ = some (.int .i64 x.ep))) (by kernel_rfl) (cell_stays B4.out Y3.out) (fun hHeld => ?_)
    change wpAnyH _ _ _ _ _ _ _ _ (World.drew w4)
    have B5d := Lib.hid (B4.out.trans ((bdrew w4).mono B4.out.size))
    have hHeld : (World.drew w4).cell? ⟨Q, 3, none⟩ = some (.int .i64 x.ep) := hHeld
    generalize World.drew w4 = w5d at *
    first | refine tq0 0 rfl ?_ | refine tq1 0 rfl ?_
    try go_frame
    first | refine tq0 2 rfl ?_ | refine tq1 2 rfl ?_
    try go_frame
    first | refine tq0 3 rfl ?_ | refine tq1 3 rfl ?_
    try go_frame
    first | refine tq0 4 rfl ?_ | refine tq1 4 rfl ?_
    try go_frame
    first | refine tq0 5 rfl ?_ | refine tq1 5 rfl ?_
    try go_frame
    refine wpAnyH_ready (rs := [1]) (by kernel_rfl) (by simp) ?_
    refine AllReadyH.cons (o := ⟨_, _, _, _, _, _⟩) rfl (fun Kx hKx => ?_) AllReadyH.nil
    go_simp
    refine (HEP.out _ B5d.out).mono ?_
    rintro r w5 ⟨rfl, hb⟩
    have B5 := Lib.hid (bthen B5d.out hb)
    clear hb hHeld
    refine hKx.out _ _ (cell_stays B5.out Y3.out) (fun hHeld => ?_)
    clear hKx Kx
    try simp only [Act.put, List.setIfInBounds_toArray, List.set_cons_zero, List.set_cons_succ]
    first | refine tq0 6 rfl ?_ | refine tq1 6 rfl ?_
    try go_frame
    refine wpAnyH_done (by kernel_rfl) ?_ _
    clear hHeld
    go_upto_region 10 with fail
    refine wp_region_held_drew (S := (fun w' => w'.cell? ⟨Q, 0, none⟩ = some (.int .i64 x.many))) (by kernel_rfl) (cell_stays B5.out Y0.out) (fun hHeld => ?_)
    change wpAnyH _ _ _ _ _ _ _ _ (World.drew w5)
    have B6 := Lib.hid (B5.out.trans ((bdrew w5).mono B5.out.size))
    have hHeld : (World.drew w5).cell? ⟨Q, 0, none⟩ = some (.int .i64 x.many) := hHeld
    generalize World.drew w5 = w6 at *
    first | refine tq0 0 rfl ?_ | refine tq1 0 rfl ?_
    try go_frame
    first | refine tq0 1 rfl ?_ | refine tq1 1 rfl ?_
    try go_frame
    first | refine tq0 2 rfl ?_ | refine tq1 2 rfl ?_
    try go_frame
    first | refine tq0 3 rfl ?_ | refine tq1 3 rfl ?_
    try go_frame
    first | refine tq0 4 rfl ?_ | refine tq1 4 rfl ?_
    try go_frame
    first | refine tq0 5 rfl ?_ | refine tq1 5 rfl ?_
    try go_frame
    first | refine tq0 6 rfl ?_ | refine tq1 6 rfl ?_
    try go_frame
    refine wpAnyH_ready (rs := [7]) (by kernel_rfl) (by simp) ?_
    refine AllReadyH.cons (o := ⟨_, _, _, _, _, _⟩) rfl (fun Kx hKx => ?_) AllReadyH.nil
    go_simp
    refine (HEP.out _ B6.out).mono ?_
    rintro r w7 ⟨rfl, hb⟩
    have B7 := Lib.hid (bthen B6.out hb)
    clear hb hHeld
    refine hKx.out _ _ (cell_stays B7.out Y0.out) (fun hHeld => ?_)
    clear hKx Kx
    try simp only [Act.put, List.setIfInBounds_toArray, List.set_cons_zero, List.set_cons_succ]
    first | refine tq0 8 rfl ?_ | refine tq1 8 rfl ?_
    try go_frame
    have A8 := Lib.hid (balloc w7 (.cells #[.int .i64 x.many, (.slice a2 x.old.length c2), (.slice a2 x.old.length c2), .int .i64 x.ep, .bool false] 58))
    have X8 := Lib.hid (heap_alloc_new w7 (.cells #[.int .i64 x.many, (.slice a2 x.old.length c2), (.slice a2 x.old.length c2), .int .i64 x.ep, .bool false] 58))
    have B8 := Lib.hid (bthen B7.out A8.out)
    refine wpAnyH_ready (rs := [9]) (by kernel_rfl) (by simp) ?_
    refine AllReadyH.cons (o := ⟨_, _, _, _, _, _⟩) rfl (fun Kx hKx => ?_) AllReadyH.nil
    go_simp
    clear hHeld
    refine hKx.out _ _ (cell_stays B8.out Y0.out) (fun hHeld => ?_)
    clear hKx Kx
    try simp only [Act.put, List.setIfInBounds_toArray, List.set_cons_zero, List.set_cons_succ]
    first | refine tq0 10 rfl ?_ | refine tq1 10 rfl ?_
    try go_frame
    refine wpAnyH_done (by kernel_rfl) ?_ _
    clear hHeld
    have LW7 := Lib.hid (Nat.le_trans SZ3.out B7.out.size)
    obtain ⟨R, hR⟩ : ∃ R, R = w7.heap.size := ⟨_, rfl⟩
    have HR := Lib.hid hR
    rw [← hR] at X8 ⊢
    clear hR
    generalize w7.alloc (.cells #[.int .i64 x.many, (.slice a2 x.old.length c2), (.slice a2 x.old.length c2), .int .i64 x.ep, .bool false] 58) = w8 at *
    have BY : Hid (Bs14 PM base D P R ({ x with now := x.old, cl := x.cl + 64 } : Stt) 0 S3 w8) := Lib.hid ⟨HI.out.below P3'.out B8.out, ⟨⟨_, _, X8.out, VO.out.below B8.out, VO.out.below B8.out, fun e => by have := (VO.out.lo R e).2; have := HR.out; have := B7.out.size; omega, fun e => by have := (VO.out.lo R e).2; have := HR.out; have := B7.out.size; omega⟩, by have := HR.out; have := LW7.out; omega⟩, fun k hk => by
      rcases rs_of X8.out hk with rfl | hv | hv
      · cases c : S3 k with
        | false => rfl
        | true => have := (HI.out.lo P3'.out k c).2; have := HR.out; have := B7.out.size; omega
      · exact VOS.out k hv
      · exact VOS.out k hv, OKY.out, Nat.le_trans SZ3.out B8.out.size⟩
    have BB8 := Lib.hid (BB3.out.trans (B8.out.mono SZ3.out))
    have M8 := Lib.hid (M1.out.below ((show Below base w1 w3 from BBX.out).trans (B8.out.mono SZ3.out)))
    have HSM := Lib.hid (same14_any HI.out BY.out)
    clear P3' VO VOS HEP Y0 Y2 Y3 O3 R3 D3 V3 VS3 R2 D2 V2 VS2 X8 A8
    clear y2
    generalize hyy : ({ x with now := x.old, cl := x.cl + 64 } : Stt) = yy at *
    have HYY := Lib.hid hyy
    clear hyy
    go_wp2_with fail
    refine (HSM.out).mono ?_
    rintro e w9 ⟨rfl, hb9⟩
    have BS9 := Lib.hid (BY.out.below HI.out hb9)
    have BB9 := Lib.hid (BB8.out.trans (hb9.mono BY.out.sz))
    have M9 := Lib.hid (M8.out.below (hb9.mono BY.out.sz))
    clear hb9 HSM
    go_wp2_with fail
    go_loopw [11, 15] (fun v i wr => ∃ (j P : Nat) (z : Stt) (S : Nat → Bool), j ≤ n ∧ j ≤ 10 ∧ v = .pointer (some ⟨P, 0, none⟩) ∧ i = .int .i64 j ∧ Hid (Lim z (k0 + 1 + (j : Int))) ∧ Hid (Bs14 PM base D P R z 0 S wr) ∧ Hid (SaAt base n A ao cap wr) ∧ Hid (Below base u wr)) (fun _ i _ => n - (intOf i).toNat)
    case atStart => exact ⟨0, P, _, S3, Nat.zero_le _, by omega, rfl, rfl, Lib.hid (by rw [← HYY.out]; exact ⟨by have := EY.out.1; simpa using this, by have := EY.out.2; simpa using this⟩), BS9, M9, BB9⟩
    case round =>
      clear BS9 BB9 M9 BY M8 BB8
      obtain ⟨j, P, z, S, hj, hj10, rfl, rfl, HEJ, HBS, HM, HB⟩ := hrel
      by_cases hlt : j < n
      · have hj1 : (j : Int) < (n : Int) := by omega
        have hj2 : (0 : Int) ≤ (j : Int) := by omega
        have d1 : decide ((j : Int) < (n : Int)) = true := decide_eq_true hj1
        by_cases h10 : j < 10
        · have d2 : decide ((j : Int) < 10) = true := decide_eq_true (by omega)
          obtain ⟨BA, oA, ha, hBA, hcl⟩ := HM.out.x (by omega)
          subst ha
          obtain ⟨y0, y1, y2⟩ := hcl j hlt
          clear hcl
          generalize A j = tt at *
          obtain ⟨kind, l, s⟩ := tt
          dsimp only at y0 y1 y2
          have HSH := Lib.hid (short14_any kind l s wr)
          by_cases hs : s.size < 500
          · have HS := Lib.hid hs
            rw [decide_eq_true hs] at HSH
            clear hs
            go_wp2_with fail
            refine (HSH.out).mono ?_
            rintro e wa ⟨rfl, hb3⟩
            have BSa := Lib.hid (HBS.out.below HI.out hb3)
            have HBa := Lib.hid (hb3.mono HBS.out.sz)
            have HD := Lib.hid (do14_any HI.out BSa.out kind l s (by have := HS.out; omega))
            have z0 := cell_stays hb3 y0
            have z1 := cell_stays hb3 y1
            have z2 := cell_stays hb3 y2
            clear hb3 y0 y1 y2
            go_wp2_with fail
            refine (HD.out).mono ?_
            rintro e wb ⟨P4, b4, rfl, _, hbo⟩
            obtain ⟨rfl, q2, ⟨S4, q3⟩, q4⟩ := both_bs BSa.out HEJ.out (by omega) hbo
            have E4 : Hid (Lim (doX z kind l s) (k0 + 1 + ((j + 1 : Nat) : Int))) := Lib.hid (q2.up (by omega))
            have BSb := Lib.hid q3
            have HBb := Lib.hid (HBa.out.trans q4)
            have HSM := Lib.hid (same14_any HI.out q3)
            clear hbo q2 q3 q4 z0 z1 z2
            go_wp2_with fail
            refine (HSM.out).mono ?_
            rintro e wc ⟨rfl, hb5⟩
            have BSc := Lib.hid (BSb.out.below HI.out hb5)
            have HBc := Lib.hid (HBb.out.trans (hb5.mono BSb.out.sz))
            have Bc := Lib.hid (HB.out.trans HBc.out)
            have Mc := Lib.hid (HM.out.below HBc.out)
            clear hb5
            go_wp2_with fail
            go_roundw
            case rel => exact ⟨j + 1, P4, _, S4, hlt, by omega, rfl, by go_num, E4, BSc, Mc, Bc⟩
            case measure => simp [intOf]; omega
          · rw [decide_eq_false hs] at HSH
            clear hs
            go_wp2_with fail
            refine (HSH.out).mono ?_
            rintro e wa ⟨rfl, hb3⟩
            have BSa := Lib.hid (HBS.out.below HI.out hb3)
            have HBa := Lib.hid (hb3.mono HBS.out.sz)
            have HSM := Lib.hid (same14_any HI.out BSa.out)
            clear hb3 y0 y1 y2
            go_wp2_with fail
            refine (HSM.out).mono ?_
            rintro e wc ⟨rfl, hb5⟩
            have BSc := Lib.hid (BSa.out.below HI.out hb5)
            have HBc := Lib.hid (HBa.out.trans (hb5.mono BSa.out.sz))
            have Bc := Lib.hid (HB.out.trans HBc.out)
            have Mc := Lib.hid (HM.out.below HBc.out)
            clear hb5
            go_wp2_with fail
            go_roundw
            case rel => exact ⟨j + 1, P, z, S, hlt, by omega, rfl, by go_num, Lib.hid (HEJ.out.up (by omega)), BSc, Mc, Bc⟩
            case measure => simp [intOf]; omega
        · have d2 : decide ((j : Int) < 10) = false := decide_eq_false (by omega)
          go_wp2_with fail
          go_ret
          exact ⟨rfl, HB.out⟩
      · have d1 : decide ((j : Int) < (n : Int)) = false := decide_eq_false (by omega)
        go_wp2_with fail
        go_ret
        exact ⟨rfl, HB.out⟩
  · have OKY : Hid (OkX { x with now := nxt, old := nxt, ep := x.ep + 1, cl := x.cl + 64 }) := Lib.hid ⟨HN.out, HN.out, HOK.out.many, ⟨by show 1 ≤ x.ep + 1; have := HOK.out.ep; omega, by show x.ep + 1 ≤ 1000000; have := HE.out.1; omega⟩, by show x.cl + 64 ≤ 900000; have := HE.out.2; omega⟩
    have VO : Hid (SRow base nxt (.slice anx nxt.length cnx) w3) := V3
    have VOS : Hid (∀ b, (Value.slice anx nxt.length cnx).ownBlock = some b → S3 b = false) := VS3
    have EY : Hid (({ x with now := nxt, old := nxt, ep := x.ep + 1, cl := x.cl + 64 } : Stt).ep ≤ k0 + 1 ∧ ((x.cl + 64 : Nat) : Int) ≤ 64 * (k0 + 1)) := Lib.hid ⟨by show x.ep + 1 ≤ k0 + 1; have := HE.out.1; omega, by have := HE.out.2; omega⟩
    have HEP := Lib.hid (fun w (k : Below w3.heap.size w3 w) => HI.out.epoch (HI.out.below P3'.out k) OKY.out (Nat.le_trans SZ3.out k.size))
    change Hid (∀ w, Below w3.heap.size w3 w → Calls _ _ _ w fun r u' => r = .returned (.int .i64 (x.ep + 1)) ∧ _) at HEP
    have B0 := Lib.hid (Below.refl w3.heap.size w3)
    go_upto_region 6 with fail
    refine wp_region_held_drew (S := (fun w' => w'.cell? ⟨Q, 3, none⟩ = some (.int .i64 x.ep))) (by kernel_rfl) (cell_stays B0.out Y3.out) (fun hHeld => ?_)
    change wpAnyH _ _ _ _ _ _ _ _ (World.drew w3)
    have B4d := Lib.hid (B0.out.trans ((bdrew w3).mono B0.out.size))
    have hHeld : (World.drew w3).cell? ⟨Q, 3, none⟩ = some (.int .i64 x.ep) := hHeld
    generalize World.drew w3 = w4d at *
    first | refine tq0 0 rfl ?_ | refine tq1 0 rfl ?_
    try go_frame
    first | refine tq0 2 rfl ?_ | refine tq1 2 rfl ?_
    try go_frame
    first | refine tq0 3 rfl ?_ | refine tq1 3 rfl ?_
    try go_frame
    first | refine tq0 4 rfl ?_ | refine tq1 4 rfl ?_
    try go_frame
    first | refine tq0 5 rfl ?_ | refine tq1 5 rfl ?_
    try go_frame
    first | refine tq0 6 rfl ?_ | refine tq1 6 rfl ?_
    try go_frame
    try simp only [W1]
    refine wpAnyH_ready (rs := [1]) (by kernel_rfl) (by simp) ?_
    refine AllReadyH.cons (o := ⟨_, _, _, _, _, _⟩) rfl (fun Kx hKx => ?_) AllReadyH.nil
    go_simp
    refine (HEP.out _ B4d.out).mono ?_
    rintro r w4 ⟨rfl, hb⟩
    have B4 := Lib.hid (bthen B4d.out hb)
    clear hb hHeld
    refine hKx.out _ _ (cell_stays B4.out Y3.out) (fun hHeld => ?_)
    clear hKx Kx
    try simp only [Act.put, List.setIfInBounds_toArray, List.set_cons_zero, List.set_cons_succ]
    first | refine tq0 7 rfl ?_ | refine tq1 7 rfl ?_
    try go_frame
    refine wpAnyH_done (by kernel_rfl) ?_ _
    clear hHeld
    go_upto_region 10 with fail
    refine wp_region_held_drew (S := (fun w' => w'.cell? ⟨Q, 0, none⟩ = some (.int .i64 x.many))) (by kernel_rfl) (cell_stays B4.out Y0.out) (fun hHeld => ?_)
    change wpAnyH _ _ _ _ _ _ _ _ (World.drew w4)
    have B6 := Lib.hid (B4.out.trans ((bdrew w4).mono B4.out.size))
    have hHeld : (World.drew w4).cell? ⟨Q, 0, none⟩ = some (.int .i64 x.many) := hHeld
    generalize World.drew w4 = w6 at *
    first | refine tq0 0 rfl ?_ | refine tq1 0 rfl ?_
    try go_frame
    first | refine tq0 1 rfl ?_ | refine tq1 1 rfl ?_
    try go_frame
    first | refine tq0 2 rfl ?_ | refine tq1 2 rfl ?_
    try go_frame
    first | refine tq0 3 rfl ?_ | refine tq1 3 rfl ?_
    try go_frame
    first | refine tq0 4 rfl ?_ | refine tq1 4 rfl ?_
    try go_frame
    first | refine tq0 5 rfl ?_ | refine tq1 5 rfl ?_
    try go_frame
    first | refine tq0 6 rfl ?_ | refine tq1 6 rfl ?_
    try go_frame
    refine wpAnyH_ready (rs := [7]) (by kernel_rfl) (by simp) ?_
    refine AllReadyH.cons (o := ⟨_, _, _, _, _, _⟩) rfl (fun Kx hKx => ?_) AllReadyH.nil
    go_simp
    refine (HEP.out _ B6.out).mono ?_
    rintro r w7 ⟨rfl, hb⟩
    have B7 := Lib.hid (bthen B6.out hb)
    clear hb hHeld
    refine hKx.out _ _ (cell_stays B7.out Y0.out) (fun hHeld => ?_)
    clear hKx Kx
    try simp only [Act.put, List.setIfInBounds_toArray, List.set_cons_zero, List.set_cons_succ]
    first | refine tq0 8 rfl ?_ | refine tq1 8 rfl ?_
    try go_frame
    have A8 := Lib.hid (balloc w7 (.cells #[.int .i64 x.many, (.slice anx nxt.length cnx), (.slice anx nxt.length cnx), .int .i64 (x.ep + 1), .bool false] 58))
    have X8 := Lib.hid (heap_alloc_new w7 (.cells #[.int .i64 x.many, (.slice anx nxt.length cnx), (.slice anx nxt.length cnx), .int .i64 (x.ep + 1), .bool false] 58))
    have B8 := Lib.hid (bthen B7.out A8.out)
    refine wpAnyH_ready (rs := [9]) (by kernel_rfl) (by simp) ?_
    refine AllReadyH.cons (o := ⟨_, _, _, _, _, _⟩) rfl (fun Kx hKx => ?_) AllReadyH.nil
    go_simp
    clear hHeld
    refine hKx.out _ _ (cell_stays B8.out Y0.out) (fun hHeld => ?_)
    clear hKx Kx
    try simp only [Act.put, List.setIfInBounds_toArray, List.set_cons_zero, List.set_cons_succ]
    first | refine tq0 10 rfl ?_ | refine tq1 10 rfl ?_
    try go_frame
    refine wpAnyH_done (by kernel_rfl) ?_ _
    clear hHeld
    have LW7 := Lib.hid (Nat.le_trans SZ3.out B7.out.size)
    obtain ⟨R, hR⟩ : ∃ R, R = w7.heap.size := ⟨_, rfl⟩
    have HR := Lib.hid hR
    rw [← hR] at X8 ⊢
    clear hR
    generalize w7.alloc (.cells #[.int .i64 x.many, (.slice anx nxt.length cnx), (.slice anx nxt.length cnx), .int .i64 (x.ep + 1), .bool false] 58) = w8 at *
    have BY : Hid (Bs14 PM base D P R ({ x with now := nxt, old := nxt, ep := x.ep + 1, cl := x.cl + 64 } : Stt) 0 S3 w8) := Lib.hid ⟨HI.out.below P3'.out B8.out, ⟨⟨_, _, X8.out, VO.out.below B8.out, VO.out.below B8.out, fun e => by have := (VO.out.lo R e).2; have := HR.out; have := B7.out.size; omega, fun e => by have := (VO.out.lo R e).2; have := HR.out; have := B7.out.size; omega⟩, by have := HR.out; have := LW7.out; omega⟩, fun k hk => by
      rcases rs_of X8.out hk with rfl | hv | hv
      · cases c : S3 k with
        | false => rfl
        | true => have := (HI.out.lo P3'.out k c).2; have := HR.out; have := B7.out.size; omega
      · exact VOS.out k hv
      · exact VOS.out k hv, OKY.out, Nat.le_trans SZ3.out B8.out.size⟩
    have BB8 := Lib.hid (BB3.out.trans (B8.out.mono SZ3.out))
    have M8 := Lib.hid (M1.out.below ((show Below base w1 w3 from BBX.out).trans (B8.out.mono SZ3.out)))
    have HSM := Lib.hid (same14_any HI.out BY.out)
    clear P3' VO VOS HEP Y0 Y2 Y3 O3 R3 D3 V3 VS3 R2 D2 V2 VS2 X8 A8
    clear y2
    generalize hyy : ({ x with now := nxt, old := nxt, ep := x.ep + 1, cl := x.cl + 64 } : Stt) = yy at *
    have HYY := Lib.hid hyy
    clear hyy
    go_wp2_with fail
    refine (HSM.out).mono ?_
    rintro e w9 ⟨rfl, hb9⟩
    have BS9 := Lib.hid (BY.out.below HI.out hb9)
    have BB9 := Lib.hid (BB8.out.trans (hb9.mono BY.out.sz))
    have M9 := Lib.hid (M8.out.below (hb9.mono BY.out.sz))
    clear hb9 HSM
    go_wp2_with fail
    go_loopw [11, 15] (fun v i wr => ∃ (j P : Nat) (z : Stt) (S : Nat → Bool), j ≤ n ∧ j ≤ 10 ∧ v = .pointer (some ⟨P, 0, none⟩) ∧ i = .int .i64 j ∧ Hid (Lim z (k0 + 1 + (j : Int))) ∧ Hid (Bs14 PM base D P R z 0 S wr) ∧ Hid (SaAt base n A ao cap wr) ∧ Hid (Below base u wr)) (fun _ i _ => n - (intOf i).toNat)
    case atStart => exact ⟨0, P, _, S3, Nat.zero_le _, by omega, rfl, rfl, Lib.hid (by rw [← HYY.out]; exact ⟨by have := EY.out.1; simpa using this, by have := EY.out.2; simpa using this⟩), BS9, M9, BB9⟩
    case round =>
      clear BS9 BB9 M9 BY M8 BB8
      obtain ⟨j, P, z, S, hj, hj10, rfl, rfl, HEJ, HBS, HM, HB⟩ := hrel
      by_cases hlt : j < n
      · have hj1 : (j : Int) < (n : Int) := by omega
        have hj2 : (0 : Int) ≤ (j : Int) := by omega
        have d1 : decide ((j : Int) < (n : Int)) = true := decide_eq_true hj1
        by_cases h10 : j < 10
        · have d2 : decide ((j : Int) < 10) = true := decide_eq_true (by omega)
          obtain ⟨BA, oA, ha, hBA, hcl⟩ := HM.out.x (by omega)
          subst ha
          obtain ⟨y0, y1, y2⟩ := hcl j hlt
          clear hcl
          generalize A j = tt at *
          obtain ⟨kind, l, s⟩ := tt
          dsimp only at y0 y1 y2
          have HSH := Lib.hid (short14_any kind l s wr)
          by_cases hs : s.size < 500
          · have HS := Lib.hid hs
            rw [decide_eq_true hs] at HSH
            clear hs
            go_wp2_with fail
            refine (HSH.out).mono ?_
            rintro e wa ⟨rfl, hb3⟩
            have BSa := Lib.hid (HBS.out.below HI.out hb3)
            have HBa := Lib.hid (hb3.mono HBS.out.sz)
            have HD := Lib.hid (do14_any HI.out BSa.out kind l s (by have := HS.out; omega))
            have z0 := cell_stays hb3 y0
            have z1 := cell_stays hb3 y1
            have z2 := cell_stays hb3 y2
            clear hb3 y0 y1 y2
            go_wp2_with fail
            refine (HD.out).mono ?_
            rintro e wb ⟨P4, b4, rfl, _, hbo⟩
            obtain ⟨rfl, q2, ⟨S4, q3⟩, q4⟩ := both_bs BSa.out HEJ.out (by omega) hbo
            have E4 : Hid (Lim (doX z kind l s) (k0 + 1 + ((j + 1 : Nat) : Int))) := Lib.hid (q2.up (by omega))
            have BSb := Lib.hid q3
            have HBb := Lib.hid (HBa.out.trans q4)
            have HSM := Lib.hid (same14_any HI.out q3)
            clear hbo q2 q3 q4 z0 z1 z2
            go_wp2_with fail
            refine (HSM.out).mono ?_
            rintro e wc ⟨rfl, hb5⟩
            have BSc := Lib.hid (BSb.out.below HI.out hb5)
            have HBc := Lib.hid (HBb.out.trans (hb5.mono BSb.out.sz))
            have Bc := Lib.hid (HB.out.trans HBc.out)
            have Mc := Lib.hid (HM.out.below HBc.out)
            clear hb5
            go_wp2_with fail
            go_roundw
            case rel => exact ⟨j + 1, P4, _, S4, hlt, by omega, rfl, by go_num, E4, BSc, Mc, Bc⟩
            case measure => simp [intOf]; omega
          · rw [decide_eq_false hs] at HSH
            clear hs
            go_wp2_with fail
            refine (HSH.out).mono ?_
            rintro e wa ⟨rfl, hb3⟩
            have BSa := Lib.hid (HBS.out.below HI.out hb3)
            have HBa := Lib.hid (hb3.mono HBS.out.sz)
            have HSM := Lib.hid (same14_any HI.out BSa.out)
            clear hb3 y0 y1 y2
            go_wp2_with fail
            refine (HSM.out).mono ?_
            rintro e wc ⟨rfl, hb5⟩
            have BSc := Lib.hid (BSa.out.below HI.out hb5)
            have HBc := Lib.hid (HBa.out.trans (hb5.mono BSa.out.sz))
            have Bc := Lib.hid (HB.out.trans HBc.out)
            have Mc := Lib.hid (HM.out.below HBc.out)
            clear hb5
            go_wp2_with fail
            go_roundw
            case rel => exact ⟨j + 1, P, z, S, hlt, by omega, rfl, by go_num, Lib.hid (HEJ.out.up (by omega)), BSc, Mc, Bc⟩
            case measure => simp [intOf]; omega
        · have d2 : decide ((j : Int) < 10) = false := decide_eq_false (by omega)
          go_wp2_with fail
          go_ret
          exact ⟨rfl, HB.out⟩
      · have d1 : decide ((j : Int) < (n : Int)) = false := decide_eq_false (by omega)
        go_wp2_with fail
        go_ret
        exact ⟨rfl, HB.out⟩
end

end Go.Proofs.YtdpmpmaepjgndaaGreat
