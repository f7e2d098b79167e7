/- The program's Commit. -/
import Derived.Test.YtmflkkkbahghgaaGreatYQShCmM
namespace Go.Proofs.YtmflkkkbahghgaaGreat
open Go.RowKit Go.Deep
set_option linter.unusedVariables false
set_option linter.unusedSimpArgs false
set_option maxRecDepth 100000

section
variable {base D P a : Nat} {x : Stt} {S : Nat → Bool} {M bS bm cS : Nat} {d : Dk} {n : Nat} {K K2 : Nat → Nat} {tb : Nat → Int} {ot parts : List Int} {slot : Nat} {vp : Value} {SK : Nat → Bool} {u u2 : World}
set_option maxHeartbeats 1600000 in
theorem scom1_any {tl ps : List Int} {v : Value} {Bs Br : Nat} (m : StoM base D P M bS bm cS d n K2 x.ep slot tb ot parts vp SK u) (h : HoldP d x n K tb ot parts slot) (hn : d.n ≤ 4096) (hc : d.calls < 940000) (ha : d.arm ≤ 9223372036854775807) (hx : OkX x) (hsl : slot = 0 ∨ slot = 1)
    (hin : BrIn x n K tb tl ps) (hps : LstI ps v u) (hv : ∀ g, v.ownBlock = some g → P3 D bS bm g = false) (xs : u.heap[Bs]? = some (.cells #[.pointer (some ⟨P, 0, none⟩)] 63 (0, 0))) (xr : u.heap[Br]? = some (.cells #[.int .i64 (x.ep + 1), .int .i64 (tl.length : Int), v] 98 (0, 0))) :
    Calls Tryz.prog 92 #[.pointer (some ⟨Bs, 0, none⟩), .pointer (some ⟨Br, 0, none⟩)] u fun r u' => BrO base D P x M bS bm cS d n K2 tb ot parts slot vp SK tl ps r u u' := by
  have HB := Lib.hid (sbring_any m h hn hc ha hx hsl hin hps hv)
  have s0 : u.cell? ⟨Bs, 0, none⟩ = some (.pointer (some ⟨P, 0, none⟩)) := by rw [Lib.cell_of_heap xs]; rfl
  obtain ⟨r0, r1, r2⟩ := three_of xr
  unfold rtV at HB
  obtain ⟨ao, cap, rfl, _, _, _⟩ := hps
  clear m h hn hc ha hx hsl hin hv xs xr
  go_enter Tryz.func92, Tryz.ntmps92
  go_wp2_with fail
  refine (HB.out).mono ?_
  rintro r w1 ⟨hk, hcase⟩
  have HK := Lib.hid hk
  clear hk HB
  rcases hcase with ⟨rfl, hok⟩ | ⟨rfl, hbad⟩
  · have HO := Lib.hid hok
    clear hok
    go_wp2_with fail
    go_end0
    exact ⟨HK.out, .inl ⟨rfl, HO.out⟩⟩
  · have HO := Lib.hid hbad
    clear hbad
    go_wp2_with fail
    exact ⟨rfl, HK.out, .inr ⟨rfl, HO.out⟩⟩
set_option maxHeartbeats 6400000 in
theorem scommit_any (h0 : PMx base D P x a S u) (hx : OkX x) (hb : base ≤ u.heap.size) : Calls Tryz.prog 51 #[.pointer (some ⟨P, 0, none⟩)] u fun r u' => ∃ e, r = .returned (.int .i64 e) ∧ Out14 PMx PFx base D P x (comSX x) (nextS x.now) a S (e = comSE x) u u' := by
  have H0 := Lib.hid h0
  obtain ⟨M, bS, bm, cS, d, n, K, tb, ot, parts, slot, vp, SK, h, rfl⟩ := h0
  have hn1 := h.n_le
  have HH := Lib.hid h
  have HX := Lib.hid hx
  have HBASE := Lib.hid hb
  have HSL := Lib.hid h.sl
  have hlast := h.last hx
  obtain ⟨lg, hlg⟩ : ∃ lg, (nextS x.now).length = lg := ⟨_, rfl⟩
  have hlg5 : lg ≤ 512 := by rw [← hlg, nextS_len]; have := trimS_le x.now x.now.length; have := hx.now; omega
  obtain ⟨m, hm⟩ : ∃ m : Nat, (m : Int) = needR (lg : Int) := ⟨(needR (lg : Int)).toNat, by have := need_le (n := (lg : Int)) (by omega); omega⟩
  have hm5 : m ≤ 5 := by have := need_le (n := (lg : Int)) (by omega); omega
  have HM5 := Lib.hid hm5
  have X0 := Lib.hid (heap_alloc_new u (.cells #[.pointer (some ⟨P, 0, none⟩)] 63))
  have B0 := Lib.hid (balloc u (.cells #[.pointer (some ⟨P, 0, none⟩)] 63))
  have M0 := Lib.hid (h.m.below B0.out)
  have LOU := Lib.hid h.m.s_lo
  obtain ⟨Bs, hBs⟩ : ∃ Bs, Bs = u.heap.size := ⟨_, rfl⟩
  have HBSE := Lib.hid hBs
  have HBN : Hid (SK Bs = false) := Lib.hid (by
    cases c : SK Bs with
    | false => rfl
    | true => have := (LOU.out Bs (inSK c)).2; omega)
  rw [← hBs] at X0
  have HU := Lib.hid (fun w (q : StoM base D P M bS bm cS d n K x.ep slot tb ot parts vp SK w) => sup_any q)
  have HE := Lib.hid (fun w (q : StoM base D P M bS bm cS d n K x.ep slot tb ot parts vp SK w) => tend_any q.now)
  rw [hlast, hlg] at HE
  have HN := Lib.hid (fun w => pneed_any (lg : Int) (by omega) w)
  rw [← hm] at HN
  have HF := Lib.hid (fun w (q : StoM base D P M bS bm cS d n K x.ep slot tb ot parts vp SK w) => pfree12_any q.mp hn1)
  have hfree : (cntF K 0 n : Int) = freeS x.many x.now x.old := by have := h.h.tab.c0; rw [← h.h.mn.1] at this; exact this
  have HLE : Hid (freeS x.many x.now x.old < needR ((nextS x.now).length : Int) ↔ cntF K 0 n < m) := Lib.hid (by rw [hlg, ← hm, ← hfree]; omega)
  have hxe := hx.ep
  have hPL : parts.length ≤ 1000 := by
    have h1 := h.h.tab.pl
    have h2 := need_le (n := (x.old.length : Int)) (by have := hx.old; omega)
    omega
  have HPL := Lib.hid hPL
  have HB : Hid (d.n ≤ 4096 ∧ d.calls < 940000 ∧ d.arm ≤ 9223372036854775807) := Lib.hid ⟨h.dn, by have := h.cl; have := hx.cl; omega, h.ab⟩
  have HLG := Lib.hid hlg
  have HMR := Lib.hid hm
  obtain ⟨cf0, hcf0⟩ : ∃ q, q = cntF K 0 n := ⟨_, rfl⟩
  rw [← hcf0] at HF HLE
  have HCF := Lib.hid hcf0
  clear h hlast hfree hlg hm hx hb hPL hcf0 hlg5 hm5
  go_enter Tryz.func51, Tryz.ntmps51
  go_upto_region 1 with fail
  rw [← hBs]
  generalize u.alloc (.cells #[.pointer (some ⟨P, 0, none⟩)] 63) = w0 at *
  clear hBs
  have s0 : w0.cell? ⟨Bs, 0, none⟩ = some (.pointer (some ⟨P, 0, none⟩)) := by rw [Lib.cell_of_heap X0.out]; rfl
  go_wp2_with fail
  refine (HU.out _ M0.out).mono ?_
  rintro r w9 ⟨rfl, hw9⟩
  rw [hw9]
  clear hw9 w9
  go_wp2_with fail
  refine (HE.out _ M0.out).mono ?_
  rintro r w9 ⟨rfl, hw9⟩
  rw [hw9]
  clear hw9 w9
  go_wp2_with fail
  refine (HN.out _).mono ?_
  rintro r w9 ⟨rfl, hw9⟩
  rw [hw9]
  clear hw9 w9
  obtain ⟨c0, c3, c4, c5, c6, c7, cf⟩ := M0.out.look
  clear c0 c5 c6 c7 cf c4
  go_wp2_with fail
  refine (HF.out _ M0.out).mono ?_
  rintro r w1 ⟨rfl, hb1⟩
  have B1 := Lib.hid (bthen B0.out hb1)
  have M1 := Lib.hid (M0.out.below hb1)
  have X1 := Lib.hid (heap_stays X0.out hb1)
  clear hb1 c3 s0
  have s0 : w1.cell? ⟨Bs, 0, none⟩ = some (.pointer (some ⟨P, 0, none⟩)) := by rw [Lib.cell_of_heap X1.out]; rfl
  by_cases hfull : cf0 < m
  · have d1 : decide ((cf0 : Int) < (m : Int)) = true := by rw [decide_eq_true_eq]; omega
    have d2 : decide (cf0 < m) = true := by rw [decide_eq_true_eq]; omega
    have FIN : Hid (∃ e2, Ending.returned (Value.int .i64 11) = .returned (.int .i64 e2) ∧ Out14 PMx PFx base D P x (comSX x) (nextS x.now) a (stoS P D bS bm SK vp) (e2 = comSE x) u w1) := Lib.hid (by
      have c := HLE.out.2 hfull
      unfold comSX comSE
      rw [if_pos c, if_pos c]
      exact ⟨11, rfl, _, fun k hk => .inl hk, KpS.of B1.out, .inl ⟨rfl, a, fun h => h, M, bS, bm, cS, d, n, K, tb, ot, parts, slot, vp, SK, { HH.out with m := M1.out }, rfl⟩⟩)
    clear hfull
    go_wp2_with fail
    go_ret
    exact FIN.out
  have d1 : decide ((cf0 : Int) < (m : Int)) = false := by rw [decide_eq_false_iff_not]; omega
  have d2 : decide (cf0 < m) = false := by rw [decide_eq_false_iff_not]; omega
  have d3 : decide ((1099511627776 : Int) ≤ x.ep) = false := by rw [decide_eq_false_iff_not]; omega
  have EX : Hid (comSX x = { x with now := nextS x.now, old := nextS x.now, ep := x.ep + 1, cl := x.cl + 64 } ∧ comSE x = 0) := Lib.hid (by
    have c : ¬ freeS x.many x.now x.old < needR ((nextS x.now).length : Int) := fun e => hfull (HLE.out.1 e)
    unfold comSX comSE
    rw [if_neg c, if_neg c]
    exact ⟨rfl, rfl⟩)
  have HMF : Hid (m ≤ cntF K 0 n) := Lib.hid (by rw [← HCF.out]; omega)
  have HTK := Lib.hid (fun w (q : StoM base D P M bS bm cS d n K x.ep slot tb ot parts vp SK w) => stake_any q hn1 m HM5.out)
  have HIN0 := HH.out.brIn (m := m) (by rw [HLG.out]; exact HMR.out) HMF.out
  have HAT0 := HH.out.tabN
  rw [HLG.out] at HIN0 HAT0
  have hTL : (tabN tb lg).length = lg := tabN_len _ _
  generalize tabN tb lg = tl at *
  have HIN := Lib.hid HIN0
  have HAT := Lib.hid HAT0
  have HTL := Lib.hid hTL
  have hep : -9223372036854775808 ≤ x.ep + 1 ∧ x.ep + 1 ≤ 9223372036854775807 := by omega
  have HWP : Hid (IntKind.i64.wrap (x.ep + 1) = x.ep + 1) := Lib.hid (by rw [IntKind.wrap_i64]; omega)
  obtain ⟨c0, c3, c4, c5, c6, c7, cf⟩ := M1.out.look
  clear hfull c0 c3 c5 c6 c7 cf HIN0 HAT0 hTL
  go_upto_region 10 with fail
  refine wp_region_held_drew (S := (fun w' => w'.cell? ⟨Bs, 0, none⟩ = some (.pointer (some ⟨P, 0, none⟩)) ∧ w'.cell? ⟨P, 1026, none⟩ = some (.int .i64 x.ep))) (by kernel_rfl) ⟨s0, c4⟩ (fun hHeld => ?_)
  change wpAnyH _ _ _ _ _ _ _ _ (World.drew w1)
  have MD := Lib.hid (M1.out.below (bdrew w1))
  have BD := Lib.hid (bthen B1.out (bdrew w1))
  have XBD := Lib.hid (heap_stays X1.out (bdrew w1))
  clear s0 c4
  generalize World.drew w1 = wd at *
  first | refine tq0 0 rfl ?_ | refine tq1 0 rfl ?_
  try go_frame
  first | refine tq0 1 rfl ?_ | refine tq1 1 rfl ?_
  try go_frame
  first | refine tq0 2 rfl ?_ | refine tq1 2 rfl ?_
  try go_frame
  first | refine tq0 3 rfl ?_ | refine tq1 3 rfl ?_
  try go_frame
  first | refine tq0 4 rfl ?_ | refine tq1 4 rfl ?_
  try go_frame
  first | refine tq0 5 rfl ?_ | refine tq1 5 rfl ?_
  try go_frame
  first | refine tq0 6 rfl ?_ | refine tq1 6 rfl ?_
  try go_frame
  first | refine tq0 7 rfl ?_ | refine tq1 7 rfl ?_
  try go_frame
  refine wpAnyH_ready (rs := [8, 10]) (by kernel_rfl) (by simp) ?_
  refine AllReadyH.cons (o := ⟨_, _, _, _, _, _⟩) rfl (fun Kx hKx => ?_) (AllReadyH.cons (o := ⟨_, _, _, _, _, _⟩) rfl (fun Kx hKx => ?_) AllReadyH.nil)
  · go_simp
    go_at_call 91
    refine (HTK.out wd MD.out).mono ?_
    rintro r w5 ⟨g, SK2, rfl, hg1, hg2, hl, hs2, hgs, hk, hm5⟩
    have hBs5 : w5.heap[Bs]? = some (.cells #[.pointer (some ⟨P, 0, none⟩)] 63 (0, 0)) := (hk.blk (lt_of_block XBD.out) HBN.out).trans XBD.out
    obtain ⟨c0, c3, c4, c5, c6, c7, cf⟩ := hm5.look
    have SBD := Lib.hid BD.out.size
    refine hKx.out _ _ ⟨by rw [Lib.cell_of_heap hBs5]; rfl, c4⟩ (fun hHeld => ?_)
    clear hKx Kx c0 c3 c5 c6 c7 cf c4
    try simp only [Act.put, List.setIfInBounds_toArray, List.set_cons_zero, List.set_cons_succ]
    first | refine tq0 9 rfl ?_ | refine tq1 9 rfl ?_
    try go_frame
    have X6 := Lib.hid (heap_alloc_new w5 (.cells #[.int .i64 0, .int .i64 0, .slice none 0 0] 98))
    have B6 := Lib.hid (balloc w5 (.cells #[.int .i64 0, .int .i64 0, .slice none 0 0] 98))
    have M6 := Lib.hid (hm5.below B6.out)
    have XB6 := Lib.hid (heap_stays hBs5 B6.out)
    have L6 := Lib.hid (hl.below B6.out)
    have K6 : Hid (KpS (stoS P D bS bm SK vp) u (w5.alloc (.cells #[.int .i64 0, .int .i64 0, .slice none 0 0] 98))) := Lib.hid (((KpS.of BD.out).trans (hk.mono fun q hq => inSK hq)).trans (KpS.of B6.out))
    have N6 := Lib.hid (fun k hk => (hs2 k hk).imp (fun h => h) (fun (h : wd.heap.size ≤ k) => Nat.le_trans SBD.out h))
    have G6 : Hid (u.heap.size ≤ g ∧ g < w5.heap.size) := Lib.hid ⟨by have := SBD.out; omega, hg2⟩
    have GS6 := Lib.hid hgs
    have HSB0 : Hid (SK2 w5.heap.size = false) := Lib.hid (by
      cases c : SK2 w5.heap.size with
      | false => rfl
      | true => have := (hm5.mp.s_lo _ c).2; omega)
    have HB5 : Hid (Bs < w5.heap.size) := Lib.hid (lt_of_block hBs5)
    have HBK : Hid (SK2 Bs = false) := Lib.hid (by
      cases c : SK2 Bs with
      | false => rfl
      | true =>
        rcases hs2 Bs c with e | e
        · rw [HBN.out] at e; cases e
        · have := lt_of_block XBD.out; omega)
    obtain ⟨Br, hBr⟩ : ∃ Br, Br = w5.heap.size := ⟨_, rfl⟩
    have HBR := Lib.hid hBr
    have S56 : Hid (w5.heap.size + 1 = (w5.alloc (.cells #[.int .i64 0, .int .i64 0, .slice none 0 0] 98)).heap.size) := Lib.hid (by simp)
    refine wpAnyH_ready (rs := [10]) (by kernel_rfl) (by simp) ?_
    refine AllReadyH.cons (o := ⟨_, _, _, _, _, _⟩) rfl (fun Kx hKx => ?_) AllReadyH.nil
    go_simp
    obtain ⟨c0, c3, c4, c5, c6, c7, cf⟩ := M6.out.look
    refine hKx.out _ _ ⟨by rw [Lib.cell_of_heap XB6.out]; rfl, c4⟩ (fun hHeld => ?_)
    clear hKx Kx c0 c3 c5 c6 c7 cf c4 hg1 hg2 hl hs2 hgs hk hm5 hBs5
    try simp only [Act.put, List.setIfInBounds_toArray, List.set_cons_zero, List.set_cons_succ]
    rw [← hBr] at X6 ⊢
    have HSB : Hid (SK2 Br = false) := Lib.hid (by rw [hBr]; exact HSB0.out)
    clear hBr
    generalize w5.alloc (.cells #[.int .i64 0, .int .i64 0, .slice none 0 0] 98) = w6 at *
    have HBRU : Hid (u.heap.size ≤ Br) := Lib.hid (by have := HBR.out; have := G6.out; omega)
    have HRN : Hid (¬ stoS P D bS bm SK2 vp Br = true) := Lib.hid (fun c => by
      rcases stoS_iff.1 c with e | e | e | e
      · have := HH.out.m.plt; have := HBRU.out; omega
      · have := (LOU.out Br (inP3 e)).2; have := HBRU.out; omega
      · exact absurd e (by rw [HSB.out]; decide)
      · have := (LOU.out Br (stoS_iff.2 (.inr (.inr (.inr e))))).2; have := HBRU.out; omega)
    have HGB : Hid (g ≠ Br) := Lib.hid (by have := HBR.out; have := G6.out.2; omega)
    have HG6 : Hid (g < w6.heap.size) := Lib.hid (by have := S56.out; have := G6.out.2; omega)
    have HBB : Hid (Bs ≠ Br) := Lib.hid (by have := HBR.out; have := HB5.out; omega)
    have GR : Hid (stoS P D bS bm SK2 vp Br = false) := Lib.hid (by
      cases c : stoS P D bS bm SK2 vp Br with
      | false => rfl
      | true => exact absurd c HRN.out)
    have GG : Hid (stoS P D bS bm SK2 vp g = false) := Lib.hid (by
      cases c : stoS P D bS bm SK2 vp g with
      | false => rfl
      | true =>
        rcases stoS_iff.1 c with e | e | e | e
        · have := HH.out.m.plt; have := G6.out.1; omega
        · have := (LOU.out g (inP3 e)).2; have := G6.out.1; omega
        · rw [GS6.out] at e; cases e
        · have := (LOU.out g (stoS_iff.2 (.inr (.inr (.inr e))))).2; have := G6.out.1; omega)
    have GB : Hid (stoS P D bS bm SK2 vp Bs = false) := Lib.hid (by
      cases c : stoS P D bS bm SK2 vp Bs with
      | false => rfl
      | true =>
        rcases stoS_iff.1 c with e | e | e | e
        · have := HH.out.m.plt; have := HBSE.out; omega
        · have := (LOU.out Bs (inP3 e)).2; have := HBSE.out; omega
        · rw [HBK.out] at e; cases e
        · have := (LOU.out Bs (stoS_iff.2 (.inr (.inr (.inr e))))).2; have := HBSE.out; omega)
    have ksr : KpS (fun q => q == Br) w6 (((w6.setCell ⟨Br, 0, none⟩ (.int .i64 (x.ep + 1))).setCell ⟨Br, 1, none⟩ (.int .i64 (lg : Int))).setCell ⟨Br, 2, none⟩ (.slice (some ⟨g, 0, none⟩) m m)) := ((KpS.set (b := Br) (by simp) 0 _ _).trans (KpS.set (b := Br) (by simp) 1 _ _)).trans (KpS.set (b := Br) (by simp) 2 _ _)
    have M9 := Lib.hid (M6.out.kept (T := fun q => q == Br) (fun k hk => by
      have : k ≠ Br := fun e => by rw [e, GR.out] at hk; cases hk
      simpa using this) ksr)
    have XB := Lib.hid ((ksr.blk (lt_of_block XB6.out) (by simpa using HBB.out)).trans XB6.out)
    have XR := Lib.hid (put_three X6.out (.int .i64 (x.ep + 1)) (.int .i64 (lg : Int)) (.slice (some ⟨g, 0, none⟩) m m))
    have L9 := Lib.hid (L6.out.kps (S := fun q => q == Br) (fun q hq => by
      simp only [Value.ownBlock, Option.some.injEq] at hq
      have := HGB.out
      simp; omega) ksr)
    have KP9 : Hid (KpS (stoS P D bS bm SK vp) u (((w6.setCell ⟨Br, 0, none⟩ (.int .i64 (x.ep + 1))).setCell ⟨Br, 1, none⟩ (.int .i64 (lg : Int))).setCell ⟨Br, 2, none⟩ (.slice (some ⟨g, 0, none⟩) m m))) := Lib.hid (kps_new (S2 := fun q => q == Br) (fun q hq => .inr (by simp at hq; have := HBRU.out; omega)) K6.out ksr)
    have N9 := N6
    have G9 : Hid (u.heap.size ≤ g ∧ g < (((w6.setCell ⟨Br, 0, none⟩ (.int .i64 (x.ep + 1))).setCell ⟨Br, 1, none⟩ (.int .i64 (lg : Int))).setCell ⟨Br, 2, none⟩ (.slice (some ⟨g, 0, none⟩) m m)).heap.size) := Lib.hid ⟨G6.out.1, Nat.lt_of_lt_of_le HG6.out ksr.size⟩
    have HVG : Hid (∀ q, (Value.slice (some ⟨g, 0, none⟩) m m).ownBlock = some q → P3 D bS bm q = false) := Lib.hid (fun q hq => by
      simp only [Value.ownBlock, Option.some.injEq] at hq
      subst hq
      exact (stoS_no GG.out).2.1)
    obtain ⟨z0, z1, z2⟩ := three_of X6.out
    have zf : ∀ q, w6.frozen? ⟨Br, q, none⟩ = false := fun q => Lib.frozen_of_heap X6.out q
    have c4 : (((w6.setCell ⟨Br, 0, none⟩ (.int .i64 (x.ep + 1))).setCell ⟨Br, 1, none⟩ (.int .i64 (lg : Int))).setCell ⟨Br, 2, none⟩ (.slice (some ⟨g, 0, none⟩) m m)).cell? ⟨P, 1026, none⟩ = some (.int .i64 x.ep) := M9.out.look.2.2.1
    refine wpAnyH_ready (rs := [11]) (by kernel_rfl) (by simp) ?_
    refine AllReadyH.cons (o := ⟨_, _, _, _, _, _⟩) rfl (fun Kx hKx => ?_) AllReadyH.nil
    go_simp
    rw [HWP.out]
    refine hKx.out _ _ ⟨by rw [Lib.cell_of_heap XB.out]; rfl, c4⟩ (fun hHeld => ?_)
    clear hKx Kx z0 z1 z2 zf c4 ksr
    try simp only [Act.put, List.setIfInBounds_toArray, List.set_cons_zero, List.set_cons_succ]
    generalize ((w6.setCell ⟨Br, 0, none⟩ (.int .i64 (x.ep + 1))).setCell ⟨Br, 1, none⟩ (.int .i64 (lg : Int))).setCell ⟨Br, 2, none⟩ (.slice (some ⟨g, 0, none⟩) m m) = wr at *
    refine wpAnyH_done (by kernel_rfl) ?_ _
    clear hHeld
    have s0 : wr.cell? ⟨Bs, 0, none⟩ = some (.pointer (some ⟨P, 0, none⟩)) := by rw [Lib.cell_of_heap XB.out]; rfl
    obtain ⟨r0, r1, r2⟩ := three_of XR.out
    have XE := Lib.hid (heap_alloc_new wr (.cells #[.int .i64 0] 33))
    have BE := Lib.hid (balloc wr (.cells #[.int .i64 0] 33))
    have ME := Lib.hid (M9.out.below BE.out)
    have SZE : Hid ((wr.alloc (.cells #[.int .i64 0] 33)).heap.size = wr.heap.size + 1) := Lib.hid (by simp)
    have L9LO := Lib.hid M9.out.s_lo
    have HT := Lib.hid (attempt_any (f := 92) (caps := #[.pointer (some ⟨Bs, 0, none⟩), .pointer (some ⟨Br, 0, none⟩)]) (u := wr) (Q := fun e w => KpS (P3 D bS bm) (wr.alloc (.cells #[.int .i64 0] 33)) w ∧ ((e = 0 ∧ ∃ bm2 d2, NewOr bm (wr.alloc (.cells #[.int .i64 0] 33)) bm2 ∧ StoM base D P M bS bm2 cS d2 n (tkK n K m) x.ep slot tb ot parts vp SK2 w ∧ ComV d2.sf (n : Int) (nextS x.now) (x.ep + 1) (1 - slot) tl (tkL n K m) ∧ (∀ k, d2.is k = false) ∧ d2.down = false ∧ OkD d2 ∧ d2.calls ≤ d.calls + 40 ∧ d2.arm ≤ d.arm ∧ d2.n = d.n) ∨ (e = 13 ∧ BrBad base D P x M bS bm cS d n (tkK n K m) tb ot parts slot vp SK2 (wr.alloc (.cells #[.int .i64 0] 33)) w)))
      (fun w => callFunc_in Tryz.func92 (by kernel_rfl) (by kernel_rfl) _ w)
      (by
        refine (scom1_any (tl := tl) (ps := tkL n K m) ME.out HH.out.h HB.out.1 HB.out.2.1 HB.out.2.2 HX.out HSL.out HIN.out (L9.out.below BE.out) HVG.out (heap_stays XB.out BE.out) (by rw [HTL.out]; exact heap_stays XR.out BE.out)).mono ?_
        rintro r w' ⟨hk, hcase⟩
        refine ⟨(hk.blk (by simp) ?_).trans XE.out, ?_⟩
        · cases c : P3 D bS bm wr.heap.size with
          | false => rfl
          | true => have := (L9LO.out _ (stoS_iff.2 (.inr (.inl c)))).2; omega
        · rcases hcase with ⟨h1, h2⟩ | ⟨h1, h2⟩
          · exact .inl ⟨h1, hk, .inl ⟨rfl, h2⟩⟩
          · exact .inr ⟨13, by decide, h1, hk, .inr ⟨rfl, h2⟩⟩))
    clear r0 r1 r2 s0
    go_wp2_with fail
    refine (HT.out).mono ?_
    rintro r w3 ⟨e, w2, rfl, ⟨hk2, hcase⟩, hw3, hx2⟩
    have ks3 : KpS (fun q => q == wr.heap.size) w2 w3 := by rw [hw3]; exact KpS.set (b := wr.heap.size) (by simp) 0 _ w2
    have KA : Hid (KpS (stoS P D bS bm SK vp) u w3) := Lib.hid (by
      have k1 : KpS (stoS P D bS bm SK vp) u (wr.alloc (.cells #[.int .i64 0] 33)) := KP9.out.trans (KpS.of BE.out)
      have k2 : KpS (stoS P D bS bm SK vp) u w2 := k1.trans (hk2.mono fun q hq => inP3 hq)
      exact kps_new (S2 := fun q => q == wr.heap.size) (fun q hq => .inr (by have := KP9.out.size; simp at hq; omega)) k2 ks3)
    have NW : Hid (∀ b2, NewOr bm (wr.alloc (.cells #[.int .i64 0] 33)) b2 → ∀ k, stoS P D bS b2 SK2 vp k = true → (fun q => q == wr.heap.size) k = false) := Lib.hid (fun b2 ho k hk => by
      have hlow : stoS P D bS bm SK2 vp k = true → k < wr.heap.size := fun h => (L9LO.out k h).2
      have hne : k ≠ wr.heap.size := by
        rcases stoS_iff.1 hk with e | e | e | e
        · have := hlow (stoS_iff.2 (.inl e)); omega
        · unfold P3 at e
          simp only [Bool.or_eq_true, beq_iff_eq] at e
          rcases e with (e | e) | e
          · have := hlow (stoS_iff.2 (.inr (.inl (by rw [e]; exact P3.a _ _ _)))); omega
          · have := hlow (stoS_iff.2 (.inr (.inl (by rw [e]; exact P3.b _ _ _)))); omega
          · rcases ho with e2 | e2
            · have := hlow (stoS_iff.2 (.inr (.inl (by rw [e, e2]; exact P3.c _ _ _)))); omega
            · have := SZE.out; omega
        · have := hlow (stoS_iff.2 (.inr (.inr (.inl e)))); omega
        · have := hlow (stoS_iff.2 (.inr (.inr (.inr e)))); omega
      simpa using hne)
    have keep3 : ∀ q o, q < wr.heap.size → P3 D bS bm q = false → wr.heap[q]? = some o → w3.heap[q]? = some o := fun q o hq hp ho => by
      rw [ks3.blk (Nat.lt_of_lt_of_le (by have := SZE.out; omega) hk2.size) (by simp; omega), hk2.blk (by have := SZE.out; omega) hp, BE.out.block q hq, ho]
    have XB3 := Lib.hid (keep3 Bs _ (lt_of_block XB.out) (stoS_no GB.out).2.1 XB.out)
    have XR3 := Lib.hid (keep3 Br _ (lt_of_block XR.out) (stoS_no GR.out).2.1 XR.out)
    have L3 : Hid (LstI (tkL n K m) (.slice (some ⟨g, 0, none⟩) m m) w3) := Lib.hid (by
      have h1 := (L9.out.below BE.out).kps (fun q hq => (HVG.out q hq)) hk2
      exact h1.kps (fun q hq => by
        simp only [Value.ownBlock, Option.some.injEq] at hq
        have := G9.out.2
        simp; omega) ks3)
    have SZ3 : Hid (wr.heap.size ≤ w3.heap.size) := Lib.hid (by have := SZE.out; have := hk2.size; have := ks3.size; omega)
    clear HT hk2 hw3 hx2 keep3
    rcases hcase with ⟨rfl, bm2, d2, ho, hm2, hcv, his, hdw, hok, hcl, har, hnn⟩ | ⟨rfl, harm, bm2, d2, ho, hm2, hfall, hcl, hnn⟩
    · have M3 := Lib.hid (hm2.kept (NW.out bm2 ho) ks3)
      have HCV := Lib.hid (And.intro hcv (And.intro his (And.intro hdw (And.intro hok (And.intro hcl (And.intro har hnn))))))
      have HO := Lib.hid ho
      have GN2 : Hid (stoS P D bS bm2 SK2 vp g = false) := Lib.hid (by
        obtain ⟨g1, g2, g3, g4⟩ := stoS_no GG.out
        cases c : stoS P D bS bm2 SK2 vp g with
        | false => rfl
        | true =>
          rcases stoS_iff.1 c with e | e | e | e
          · exact absurd e g1
          · rcases newB_p3 (S := P3 D bS bm) (fun q hq => hq) ho g e with e2 | e2
            · rw [g2] at e2; cases e2
            · have := SZE.out; have := G9.out.2; omega
          · rw [g3] at e; cases e
          · exact absurd e g4)
      have HST := Lib.hid (ssettle_any (tl := tl) (ps := tkL n K m) M3.out hn1 HSL.out HAT.out HPL.out L3.out (fun q hq => by
        simp only [Value.ownBlock, Option.some.injEq] at hq
        subst hq
        exact ⟨by have := G9.out.1; have := HBASE.out; omega, by have := G9.out.2; have := SZ3.out; omega, GN2.out⟩) (x.ep + 1) (lg : Int))
      unfold rtV at HST
      have s0 : w3.cell? ⟨Bs, 0, none⟩ = some (.pointer (some ⟨P, 0, none⟩)) := by rw [Lib.cell_of_heap XB3.out]; rfl
      obtain ⟨r0, r1, r2⟩ := three_of XR3.out
      clear ho hm2 hcv his hdw hok hcl har hnn ks3
      go_wp2_with fail
      refine (HST.out).mono ?_
      rintro r w4 ⟨rfl, SK4, hs4, hk4, hm4⟩
      have FIN : Hid (∃ e2, Ending.returned (Value.int .i64 0) = .returned (.int .i64 e2) ∧ Out14 PMx PFx base D P x (comSX x) (nextS x.now) a (stoS P D bS bm SK vp) (e2 = comSE x) u w4) := Lib.hid (by
        rw [EX.out.1, EX.out.2]
        have hnb : NewB (stoS P D bS bm SK vp) (stoS P D bS bm2 SK4 (.slice (some ⟨g, 0, none⟩) m m)) u := fun k hk => by
          rcases stoS_iff.1 hk with e | e | e | e
          · exact .inl (stoS_iff.2 (.inl e))
          · rcases newB_p3 (S := P3 D bS bm) (fun q hq => hq) HO.out k e with e2 | e2
            · exact .inl (inP3 e2)
            · right; have := SZE.out; have := KP9.out.size; omega
          · rcases hs4 k e with e2 | e2
            · rcases N9.out k e2 with e3 | e3
              · exact .inl (inSK e3)
              · exact .inr e3
            · right; have := KA.out.size; omega
          · simp only [Value.ownBlock, Option.some.injEq] at e
            right; have := G9.out.1; omega
        have hk : KpS (stoS P D bS bm SK vp) u w4 := kps_new (S2 := fun k => k == P || SK2 k) (fun k hk => by
          simp only [Bool.or_eq_true, beq_iff_eq] at hk
          rcases hk with e | e
          · exact .inl (stoS_iff.2 (.inl e))
          · rcases N9.out k e with e3 | e3
            · exact .inl (inSK e3)
            · exact .inr e3) KA.out hk4
        obtain ⟨q1, q2, q3, q4, q5, q6, q7⟩ := HCV.out
        refine ⟨0, rfl, _, hnb, hk, .inl ⟨rfl, d2.arm, fun e => by have := HH.out.arm; omega, M, bS, bm2, cS, d2, n, _, tb, tl, tkL n K m, 1 - slot, _, SK4, ⟨hm4, ?_, rfl, by have := HH.out.cl; show d2.calls ≤ x.cl + 64; omega, by rw [q7]; exact HH.out.dn, by have := HH.out.ab; omega, by omega, by rw [q7]; exact HH.out.nm⟩, rfl⟩⟩
        exact HH.out.h.commit HIN.out.len HIN.out.hot HIN.out.hno (by rw [← HIN.out.len]; exact HIN.out.pl) HIN.out.pap HIN.out.pin (fun q hq => HH.out.turned HMF.out q hq) q1 q2 q3 q4 q7 _)
      clear hs4 hk4 hm4 HST s0 r0 r1 r2
      go_wp2_with fail
      go_ret
      exact FIN.out
    · have M3 := Lib.hid (hm2.kept (NW.out bm2 ho) ks3)
      have HF := Lib.hid (And.intro harm (And.intro hfall (And.intro hcl hnn)))
      have HO := Lib.hid ho
      have HLV := Lib.hid (sleave_any M3.out hn1 L3.out (by rw [tkL_len]; have := HM5.out; omega) (fun q hq => by
        simp only [Value.ownBlock, Option.some.injEq] at hq
        subst hq
        exact ⟨by have := G9.out.2; have := SZ3.out; omega, (stoS_no GG.out).2.2.1⟩))
      have s0 : w3.cell? ⟨Bs, 0, none⟩ = some (.pointer (some ⟨P, 0, none⟩)) := by rw [Lib.cell_of_heap XB3.out]; rfl
      obtain ⟨r0, r1, r2⟩ := three_of XR3.out
      clear ho hm2 harm hfall hcl hnn ks3
      go_wp2_with fail
      refine (HLV.out).mono ?_
      rintro r w4 ⟨rfl, SK4, hs4, hk4, hm4⟩
      have M4 := Lib.hid hm4
      have HBS : Hid (SK2 Bs = false) := Lib.hid (stoS_no GB.out).2.2.1
      have s1 : w4.cell? ⟨Bs, 0, none⟩ = some (.pointer (some ⟨P, 0, none⟩)) := by
        rw [Lib.cell_of_heap ((hk4.blk (lt_of_block XB3.out) HBS.out).trans XB3.out)]; rfl
      obtain ⟨c0, c3, c4, c5, c6, c7, cf⟩ := hm4.look
      have hf9 := cf 1029
      have FIN : Hid (∃ e2, Ending.returned (Value.int .i64 13) = .returned (.int .i64 e2) ∧ Out14 PMx PFx base D P x (comSX x) (nextS x.now) a (stoS P D bS bm SK vp) (e2 = comSE x) u (w4.setCell ⟨P, 1029, none⟩ (.bool true))) := Lib.hid (by
        obtain ⟨q1, q2, q3, q4⟩ := HF.out
        have ksP : KpS (fun q => q == P) w4 (w4.setCell ⟨P, 1029, none⟩ (.bool true)) := KpS.set (b := P) (by simp) 1029 _ w4
        have hk : KpS (stoS P D bS bm SK vp) u (w4.setCell ⟨P, 1029, none⟩ (.bool true)) := kps_new (S2 := fun k => k == P || SK2 k) (fun k hk => by
          simp only [Bool.or_eq_true, beq_iff_eq] at hk
          rcases hk with e | e
          · exact .inl (stoS_iff.2 (.inl e))
          · rcases N9.out k e with e3 | e3
            · exact .inl (inSK e3)
            · exact .inr e3) KA.out ((hk4.mono fun q hq => by simp [hq]).trans (ksP.mono fun q hq => by simp at hq; simp [hq]))
        refine ⟨13, rfl, P3 D bS bm2, fun k hk => ?_, hk, .inr ⟨fun e => q1 (by rw [HH.out.arm]; exact e), bS, bm2, cS, d2, pdk_kept M4.out.dk (T := fun q => q == P) (fun k hk => ?_) ksP, q2, by have := HH.out.cl; omega, by rw [q4]; exact HH.out.dn, by rw [q4]; exact HH.out.h.mn.1.trans HH.out.nm, HH.out.h.tab.still, fun k => still_next x.now k, rfl⟩⟩
        · rcases newB_p3 (S := P3 D bS bm) (fun q hq => hq) HO.out k hk with e2 | e2
          · exact .inl (inP3 e2)
          · right; have := SZE.out; have := KP9.out.size; omega
        · have : k ≠ P := fun e => by rw [e] at hk; rw [M4.out.pd] at hk; cases hk
          simpa using this)
      clear hs4 hk4 hm4 HLV s0 r0 r1 r2 c0 c3 c4 c5 c6 cf
      go_wp2_with fail
      go_ret
      exact FIN.out
  · go_simp
    have X5 := Lib.hid (heap_alloc_new wd (.cells #[.int .i64 0, .int .i64 0, .slice none 0 0] 98))
    have B5 := Lib.hid (balloc wd (.cells #[.int .i64 0, .int .i64 0, .slice none 0 0] 98))
    have M5 := Lib.hid (MD.out.below B5.out)
    have XB5 := Lib.hid (heap_stays XBD.out B5.out)
    have BD5 := Lib.hid (bthen BD.out B5.out)
    have SBD := Lib.hid BD5.out.size
    obtain ⟨c0, c3, c4, c5, c6, c7, cf⟩ := M5.out.look
    refine hKx.out _ _ ⟨by rw [Lib.cell_of_heap XB5.out]; rfl, c4⟩ (fun hHeld => ?_)
    clear hKx Kx c0 c3 c5 c6 c7 cf c4
    try simp only [Act.put, List.setIfInBounds_toArray, List.set_cons_zero, List.set_cons_succ]
    obtain ⟨Br, hBr⟩ : ∃ Br, Br = wd.heap.size := ⟨_, rfl⟩
    have HBR := Lib.hid hBr
    have HBRU : Hid (u.heap.size ≤ Br) := Lib.hid (by rw [hBr]; exact BD.out.size)
    have HBB : Hid (Bs ≠ Br) := Lib.hid (by have := lt_of_block XBD.out; omega)
    have HSBr : Hid (SK Br = false) := Lib.hid (by
      cases c : SK Br with
      | false => rfl
      | true => have := (LOU.out Br (inSK c)).2; have := HBRU.out; omega)
    rw [← hBr] at X5 ⊢
    clear hBr
    generalize wd.alloc (.cells #[.int .i64 0, .int .i64 0, .slice none 0 0] 98) = w5 at *
    have HTK2 := Lib.hid (HTK.out w5 M5.out)
    refine wpAnyH_ready (rs := [8]) (by kernel_rfl) (by simp) ?_
    refine AllReadyH.cons (o := ⟨_, _, _, _, _, _⟩) rfl (fun Kx hKx => ?_) AllReadyH.nil
    go_simp
    go_at_call 91
    refine (HTK2.out).mono ?_
    rintro r w6 ⟨g, SK2, rfl, hg1, hg2, hl, hs2, hgs, hk, hm5⟩
    have XB6 := Lib.hid ((hk.blk (lt_of_block XB5.out) HBN.out).trans XB5.out)
    have X6 := Lib.hid ((hk.blk (lt_of_block X5.out) HSBr.out).trans X5.out)
    have M6 := Lib.hid hm5
    have L6 := Lib.hid hl
    have K6 : Hid (KpS (stoS P D bS bm SK vp) u w6) := Lib.hid ((KpS.of BD5.out).trans (hk.mono fun q hq => inSK hq))
    have N6 := Lib.hid (fun k hk => (hs2 k hk).imp (fun h => h) (fun (h : w5.heap.size ≤ k) => Nat.le_trans SBD.out h))
    have G6 : Hid (u.heap.size ≤ g ∧ g < w6.heap.size) := Lib.hid ⟨by have := SBD.out; omega, hg2⟩
    have HG6 : Hid (g < w6.heap.size) := Lib.hid hg2
    have GS6 := Lib.hid hgs
    have HGB : Hid (g ≠ Br) := Lib.hid (by have := lt_of_block X5.out; omega)
    have HBK : Hid (SK2 Bs = false) := Lib.hid (by
      cases c : SK2 Bs with
      | false => rfl
      | true =>
        rcases hs2 Bs c with e | e
        · rw [HBN.out] at e; cases e
        · have := lt_of_block XB5.out; omega)
    have HSB : Hid (SK2 Br = false) := Lib.hid (by
      cases c : SK2 Br with
      | false => rfl
      | true =>
        rcases hs2 Br c with e | e
        · rw [HSBr.out] at e; cases e
        · have := lt_of_block X5.out; omega)
    have HRN : Hid (¬ stoS P D bS bm SK2 vp Br = true) := Lib.hid (fun c => by
      rcases stoS_iff.1 c with e | e | e | e
      · have := HH.out.m.plt; have := HBRU.out; omega
      · have := (LOU.out Br (inP3 e)).2; have := HBRU.out; omega
      · exact absurd e (by rw [HSB.out]; decide)
      · have := (LOU.out Br (stoS_iff.2 (.inr (.inr (.inr e))))).2; have := HBRU.out; omega)
    obtain ⟨c0, c3, c4, c5, c6, c7, cf⟩ := M6.out.look
    refine hKx.out _ _ ⟨by rw [Lib.cell_of_heap XB6.out]; rfl, c4⟩ (fun hHeld => ?_)
    clear hKx Kx c0 c3 c5 c6 c7 cf c4 hg1 hg2 hl hs2 hgs hk hm5
    try simp only [Act.put, List.setIfInBounds_toArray, List.set_cons_zero, List.set_cons_succ]
    first | refine tq0 9 rfl ?_ | refine tq1 9 rfl ?_
    try go_frame
    have GR : Hid (stoS P D bS bm SK2 vp Br = false) := Lib.hid (by
      cases c : stoS P D bS bm SK2 vp Br with
      | false => rfl
      | true => exact absurd c HRN.out)
    have GG : Hid (stoS P D bS bm SK2 vp g = false) := Lib.hid (by
      cases c : stoS P D bS bm SK2 vp g with
      | false => rfl
      | true =>
        rcases stoS_iff.1 c with e | e | e | e
        · have := HH.out.m.plt; have := G6.out.1; omega
        · have := (LOU.out g (inP3 e)).2; have := G6.out.1; omega
        · rw [GS6.out] at e; cases e
        · have := (LOU.out g (stoS_iff.2 (.inr (.inr (.inr e))))).2; have := G6.out.1; omega)
    have GB : Hid (stoS P D bS bm SK2 vp Bs = false) := Lib.hid (by
      cases c : stoS P D bS bm SK2 vp Bs with
      | false => rfl
      | true =>
        rcases stoS_iff.1 c with e | e | e | e
        · have := HH.out.m.plt; have := HBSE.out; omega
        · have := (LOU.out Bs (inP3 e)).2; have := HBSE.out; omega
        · rw [HBK.out] at e; cases e
        · have := (LOU.out Bs (stoS_iff.2 (.inr (.inr (.inr e))))).2; have := HBSE.out; omega)
    have ksr : KpS (fun q => q == Br) w6 (((w6.setCell ⟨Br, 0, none⟩ (.int .i64 (x.ep + 1))).setCell ⟨Br, 1, none⟩ (.int .i64 (lg : Int))).setCell ⟨Br, 2, none⟩ (.slice (some ⟨g, 0, none⟩) m m)) := ((KpS.set (b := Br) (by simp) 0 _ _).trans (KpS.set (b := Br) (by simp) 1 _ _)).trans (KpS.set (b := Br) (by simp) 2 _ _)
    have M9 := Lib.hid (M6.out.kept (T := fun q => q == Br) (fun k hk => by
      have : k ≠ Br := fun e => by rw [e, GR.out] at hk; cases hk
      simpa using this) ksr)
    have XB := Lib.hid ((ksr.blk (lt_of_block XB6.out) (by simpa using HBB.out)).trans XB6.out)
    have XR := Lib.hid (put_three X6.out (.int .i64 (x.ep + 1)) (.int .i64 (lg : Int)) (.slice (some ⟨g, 0, none⟩) m m))
    have L9 := Lib.hid (L6.out.kps (S := fun q => q == Br) (fun q hq => by
      simp only [Value.ownBlock, Option.some.injEq] at hq
      have := HGB.out
      simp; omega) ksr)
    have KP9 : Hid (KpS (stoS P D bS bm SK vp) u (((w6.setCell ⟨Br, 0, none⟩ (.int .i64 (x.ep + 1))).setCell ⟨Br, 1, none⟩ (.int .i64 (lg : Int))).setCell ⟨Br, 2, none⟩ (.slice (some ⟨g, 0, none⟩) m m))) := Lib.hid (kps_new (S2 := fun q => q == Br) (fun q hq => .inr (by simp at hq; have := HBRU.out; omega)) K6.out ksr)
    have N9 := N6
    have G9 : Hid (u.heap.size ≤ g ∧ g < (((w6.setCell ⟨Br, 0, none⟩ (.int .i64 (x.ep + 1))).setCell ⟨Br, 1, none⟩ (.int .i64 (lg : Int))).setCell ⟨Br, 2, none⟩ (.slice (some ⟨g, 0, none⟩) m m)).heap.size) := Lib.hid ⟨G6.out.1, Nat.lt_of_lt_of_le HG6.out ksr.size⟩
    have HVG : Hid (∀ q, (Value.slice (some ⟨g, 0, none⟩) m m).ownBlock = some q → P3 D bS bm q = false) := Lib.hid (fun q hq => by
      simp only [Value.ownBlock, Option.some.injEq] at hq
      subst hq
      exact (stoS_no GG.out).2.1)
    obtain ⟨z0, z1, z2⟩ := three_of X6.out
    have zf : ∀ q, w6.frozen? ⟨Br, q, none⟩ = false := fun q => Lib.frozen_of_heap X6.out q
    have c4 : (((w6.setCell ⟨Br, 0, none⟩ (.int .i64 (x.ep + 1))).setCell ⟨Br, 1, none⟩ (.int .i64 (lg : Int))).setCell ⟨Br, 2, none⟩ (.slice (some ⟨g, 0, none⟩) m m)).cell? ⟨P, 1026, none⟩ = some (.int .i64 x.ep) := M9.out.look.2.2.1
    refine wpAnyH_ready (rs := [11]) (by kernel_rfl) (by simp) ?_
    refine AllReadyH.cons (o := ⟨_, _, _, _, _, _⟩) rfl (fun Kx hKx => ?_) AllReadyH.nil
    go_simp
    rw [HWP.out]
    refine hKx.out _ _ ⟨by rw [Lib.cell_of_heap XB.out]; rfl, c4⟩ (fun hHeld => ?_)
    clear hKx Kx z0 z1 z2 zf c4 ksr
    try simp only [Act.put, List.setIfInBounds_toArray, List.set_cons_zero, List.set_cons_succ]
    generalize ((w6.setCell ⟨Br, 0, none⟩ (.int .i64 (x.ep + 1))).setCell ⟨Br, 1, none⟩ (.int .i64 (lg : Int))).setCell ⟨Br, 2, none⟩ (.slice (some ⟨g, 0, none⟩) m m) = wr at *
    refine wpAnyH_done (by kernel_rfl) ?_ _
    clear hHeld
    have s0 : wr.cell? ⟨Bs, 0, none⟩ = some (.pointer (some ⟨P, 0, none⟩)) := by rw [Lib.cell_of_heap XB.out]; rfl
    obtain ⟨r0, r1, r2⟩ := three_of XR.out
    have XE := Lib.hid (heap_alloc_new wr (.cells #[.int .i64 0] 33))
    have BE := Lib.hid (balloc wr (.cells #[.int .i64 0] 33))
    have ME := Lib.hid (M9.out.below BE.out)
    have SZE : Hid ((wr.alloc (.cells #[.int .i64 0] 33)).heap.size = wr.heap.size + 1) := Lib.hid (by simp)
    have L9LO := Lib.hid M9.out.s_lo
    have HT := Lib.hid (attempt_any (f := 92) (caps := #[.pointer (some ⟨Bs, 0, none⟩), .pointer (some ⟨Br, 0, none⟩)]) (u := wr) (Q := fun e w => KpS (P3 D bS bm) (wr.alloc (.cells #[.int .i64 0] 33)) w ∧ ((e = 0 ∧ ∃ bm2 d2, NewOr bm (wr.alloc (.cells #[.int .i64 0] 33)) bm2 ∧ StoM base D P M bS bm2 cS d2 n (tkK n K m) x.ep slot tb ot parts vp SK2 w ∧ ComV d2.sf (n : Int) (nextS x.now) (x.ep + 1) (1 - slot) tl (tkL n K m) ∧ (∀ k, d2.is k = false) ∧ d2.down = false ∧ OkD d2 ∧ d2.calls ≤ d.calls + 40 ∧ d2.arm ≤ d.arm ∧ d2.n = d.n) ∨ (e = 13 ∧ BrBad base D P x M bS bm cS d n (tkK n K m) tb ot parts slot vp SK2 (wr.alloc (.cells #[.int .i64 0] 33)) w)))
      (fun w => callFunc_in Tryz.func92 (by kernel_rfl) (by kernel_rfl) _ w)
      (by
        refine (scom1_any (tl := tl) (ps := tkL n K m) ME.out HH.out.h HB.out.1 HB.out.2.1 HB.out.2.2 HX.out HSL.out HIN.out (L9.out.below BE.out) HVG.out (heap_stays XB.out BE.out) (by rw [HTL.out]; exact heap_stays XR.out BE.out)).mono ?_
        rintro r w' ⟨hk, hcase⟩
        refine ⟨(hk.blk (by simp) ?_).trans XE.out, ?_⟩
        · cases c : P3 D bS bm wr.heap.size with
          | false => rfl
          | true => have := (L9LO.out _ (stoS_iff.2 (.inr (.inl c)))).2; omega
        · rcases hcase with ⟨h1, h2⟩ | ⟨h1, h2⟩
          · exact .inl ⟨h1, hk, .inl ⟨rfl, h2⟩⟩
          · exact .inr ⟨13, by decide, h1, hk, .inr ⟨rfl, h2⟩⟩))
    clear r0 r1 r2 s0
    go_wp2_with fail
    refine (HT.out).mono ?_
    rintro r w3 ⟨e, w2, rfl, ⟨hk2, hcase⟩, hw3, hx2⟩
    have ks3 : KpS (fun q => q == wr.heap.size) w2 w3 := by rw [hw3]; exact KpS.set (b := wr.heap.size) (by simp) 0 _ w2
    have KA : Hid (KpS (stoS P D bS bm SK vp) u w3) := Lib.hid (by
      have k1 : KpS (stoS P D bS bm SK vp) u (wr.alloc (.cells #[.int .i64 0] 33)) := KP9.out.trans (KpS.of BE.out)
      have k2 : KpS (stoS P D bS bm SK vp) u w2 := k1.trans (hk2.mono fun q hq => inP3 hq)
      exact kps_new (S2 := fun q => q == wr.heap.size) (fun q hq => .inr (by have := KP9.out.size; simp at hq; omega)) k2 ks3)
    have NW : Hid (∀ b2, NewOr bm (wr.alloc (.cells #[.int .i64 0] 33)) b2 → ∀ k, stoS P D bS b2 SK2 vp k = true → (fun q => q == wr.heap.size) k = false) := Lib.hid (fun b2 ho k hk => by
      have hlow : stoS P D bS bm SK2 vp k = true → k < wr.heap.size := fun h => (L9LO.out k h).2
      have hne : k ≠ wr.heap.size := by
        rcases stoS_iff.1 hk with e | e | e | e
        · have := hlow (stoS_iff.2 (.inl e)); omega
        · unfold P3 at e
          simp only [Bool.or_eq_true, beq_iff_eq] at e
          rcases e with (e | e) | e
          · have := hlow (stoS_iff.2 (.inr (.inl (by rw [e]; exact P3.a _ _ _)))); omega
          · have := hlow (stoS_iff.2 (.inr (.inl (by rw [e]; exact P3.b _ _ _)))); omega
          · rcases ho with e2 | e2
            · have := hlow (stoS_iff.2 (.inr (.inl (by rw [e, e2]; exact P3.c _ _ _)))); omega
            · have := SZE.out; omega
        · have := hlow (stoS_iff.2 (.inr (.inr (.inl e)))); omega
        · have := hlow (stoS_iff.2 (.inr (.inr (.inr e)))); omega
      simpa using hne)
    have keep3 : ∀ q o, q < wr.heap.size → P3 D bS bm q = false → wr.heap[q]? = some o → w3.heap[q]? = some o := fun q o hq hp ho => by
      rw [ks3.blk (Nat.lt_of_lt_of_le (by have := SZE.out; omega) hk2.size) (by simp; omega), hk2.blk (by have := SZE.out; omega) hp, BE.out.block q hq, ho]
    have XB3 := Lib.hid (keep3 Bs _ (lt_of_block XB.out) (stoS_no GB.out).2.1 XB.out)
    have XR3 := Lib.hid (keep3 Br _ (lt_of_block XR.out) (stoS_no GR.out).2.1 XR.out)
    have L3 : Hid (LstI (tkL n K m) (.slice (some ⟨g, 0, none⟩) m m) w3) := Lib.hid (by
      have h1 := (L9.out.below BE.out).kps (fun q hq => (HVG.out q hq)) hk2
      exact h1.kps (fun q hq => by
        simp only [Value.ownBlock, Option.some.injEq] at hq
        have := G9.out.2
        simp; omega) ks3)
    have SZ3 : Hid (wr.heap.size ≤ w3.heap.size) := Lib.hid (by have := SZE.out; have := hk2.size; have := ks3.size; omega)
    clear HT hk2 hw3 hx2 keep3
    rcases hcase with ⟨rfl, bm2, d2, ho, hm2, hcv, his, hdw, hok, hcl, har, hnn⟩ | ⟨rfl, harm, bm2, d2, ho, hm2, hfall, hcl, hnn⟩
    · have M3 := Lib.hid (hm2.kept (NW.out bm2 ho) ks3)
      have HCV := Lib.hid (And.intro hcv (And.intro his (And.intro hdw (And.intro hok (And.intro hcl (And.intro har hnn))))))
      have HO := Lib.hid ho
      have GN2 : Hid (stoS P D bS bm2 SK2 vp g = false) := Lib.hid (by
        obtain ⟨g1, g2, g3, g4⟩ := stoS_no GG.out
        cases c : stoS P D bS bm2 SK2 vp g with
        | false => rfl
        | true =>
          rcases stoS_iff.1 c with e | e | e | e
          · exact absurd e g1
          · rcases newB_p3 (S := P3 D bS bm) (fun q hq => hq) ho g e with e2 | e2
            · rw [g2] at e2; cases e2
            · have := SZE.out; have := G9.out.2; omega
          · rw [g3] at e; cases e
          · exact absurd e g4)
      have HST := Lib.hid (ssettle_any (tl := tl) (ps := tkL n K m) M3.out hn1 HSL.out HAT.out HPL.out L3.out (fun q hq => by
        simp only [Value.ownBlock, Option.some.injEq] at hq
        subst hq
        exact ⟨by have := G9.out.1; have := HBASE.out; omega, by have := G9.out.2; have := SZ3.out; omega, GN2.out⟩) (x.ep + 1) (lg : Int))
      unfold rtV at HST
      have s0 : w3.cell? ⟨Bs, 0, none⟩ = some (.pointer (some ⟨P, 0, none⟩)) := by rw [Lib.cell_of_heap XB3.out]; rfl
      obtain ⟨r0, r1, r2⟩ := three_of XR3.out
      clear ho hm2 hcv his hdw hok hcl har hnn ks3
      go_wp2_with fail
      refine (HST.out).mono ?_
      rintro r w4 ⟨rfl, SK4, hs4, hk4, hm4⟩
      have FIN : Hid (∃ e2, Ending.returned (Value.int .i64 0) = .returned (.int .i64 e2) ∧ Out14 PMx PFx base D P x (comSX x) (nextS x.now) a (stoS P D bS bm SK vp) (e2 = comSE x) u w4) := Lib.hid (by
        rw [EX.out.1, EX.out.2]
        have hnb : NewB (stoS P D bS bm SK vp) (stoS P D bS bm2 SK4 (.slice (some ⟨g, 0, none⟩) m m)) u := fun k hk => by
          rcases stoS_iff.1 hk with e | e | e | e
          · exact .inl (stoS_iff.2 (.inl e))
          · rcases newB_p3 (S := P3 D bS bm) (fun q hq => hq) HO.out k e with e2 | e2
            · exact .inl (inP3 e2)
            · right; have := SZE.out; have := KP9.out.size; omega
          · rcases hs4 k e with e2 | e2
            · rcases N9.out k e2 with e3 | e3
              · exact .inl (inSK e3)
              · exact .inr e3
            · right; have := KA.out.size; omega
          · simp only [Value.ownBlock, Option.some.injEq] at e
            right; have := G9.out.1; omega
        have hk : KpS (stoS P D bS bm SK vp) u w4 := kps_new (S2 := fun k => k == P || SK2 k) (fun k hk => by
          simp only [Bool.or_eq_true, beq_iff_eq] at hk
          rcases hk with e | e
          · exact .inl (stoS_iff.2 (.inl e))
          · rcases N9.out k e with e3 | e3
            · exact .inl (inSK e3)
            · exact .inr e3) KA.out hk4
        obtain ⟨q1, q2, q3, q4, q5, q6, q7⟩ := HCV.out
        refine ⟨0, rfl, _, hnb, hk, .inl ⟨rfl, d2.arm, fun e => by have := HH.out.arm; omega, M, bS, bm2, cS, d2, n, _, tb, tl, tkL n K m, 1 - slot, _, SK4, ⟨hm4, ?_, rfl, by have := HH.out.cl; show d2.calls ≤ x.cl + 64; omega, by rw [q7]; exact HH.out.dn, by have := HH.out.ab; omega, by omega, by rw [q7]; exact HH.out.nm⟩, rfl⟩⟩
        exact HH.out.h.commit HIN.out.len HIN.out.hot HIN.out.hno (by rw [← HIN.out.len]; exact HIN.out.pl) HIN.out.pap HIN.out.pin (fun q hq => HH.out.turned HMF.out q hq) q1 q2 q3 q4 q7 _)
      clear hs4 hk4 hm4 HST s0 r0 r1 r2
      go_wp2_with fail
      go_ret
      exact FIN.out
    · have M3 := Lib.hid (hm2.kept (NW.out bm2 ho) ks3)
      have HF := Lib.hid (And.intro harm (And.intro hfall (And.intro hcl hnn)))
      have HO := Lib.hid ho
      have HLV := Lib.hid (sleave_any M3.out hn1 L3.out (by rw [tkL_len]; have := HM5.out; omega) (fun q hq => by
        simp only [Value.ownBlock, Option.some.injEq] at hq
        subst hq
        exact ⟨by have := G9.out.2; have := SZ3.out; omega, (stoS_no GG.out).2.2.1⟩))
      have s0 : w3.cell? ⟨Bs, 0, none⟩ = some (.pointer (some ⟨P, 0, none⟩)) := by rw [Lib.cell_of_heap XB3.out]; rfl
      obtain ⟨r0, r1, r2⟩ := three_of XR3.out
      clear ho hm2 harm hfall hcl hnn ks3
      go_wp2_with fail
      refine (HLV.out).mono ?_
      rintro r w4 ⟨rfl, SK4, hs4, hk4, hm4⟩
      have M4 := Lib.hid hm4
      have HBS : Hid (SK2 Bs = false) := Lib.hid (stoS_no GB.out).2.2.1
      have s1 : w4.cell? ⟨Bs, 0, none⟩ = some (.pointer (some ⟨P, 0, none⟩)) := by
        rw [Lib.cell_of_heap ((hk4.blk (lt_of_block XB3.out) HBS.out).trans XB3.out)]; rfl
      obtain ⟨c0, c3, c4, c5, c6, c7, cf⟩ := hm4.look
      have hf9 := cf 1029
      have FIN : Hid (∃ e2, Ending.returned (Value.int .i64 13) = .returned (.int .i64 e2) ∧ Out14 PMx PFx base D P x (comSX x) (nextS x.now) a (stoS P D bS bm SK vp) (e2 = comSE x) u (w4.setCell ⟨P, 1029, none⟩ (.bool true))) := Lib.hid (by
        obtain ⟨q1, q2, q3, q4⟩ := HF.out
        have ksP : KpS (fun q => q == P) w4 (w4.setCell ⟨P, 1029, none⟩ (.bool true)) := KpS.set (b := P) (by simp) 1029 _ w4
        have hk : KpS (stoS P D bS bm SK vp) u (w4.setCell ⟨P, 1029, none⟩ (.bool true)) := kps_new (S2 := fun k => k == P || SK2 k) (fun k hk => by
          simp only [Bool.or_eq_true, beq_iff_eq] at hk
          rcases hk with e | e
          · exact .inl (stoS_iff.2 (.inl e))
          · rcases N9.out k e with e3 | e3
            · exact .inl (inSK e3)
            · exact .inr e3) KA.out ((hk4.mono fun q hq => by simp [hq]).trans (ksP.mono fun q hq => by simp at hq; simp [hq]))
        refine ⟨13, rfl, P3 D bS bm2, fun k hk => ?_, hk, .inr ⟨fun e => q1 (by rw [HH.out.arm]; exact e), bS, bm2, cS, d2, pdk_kept M4.out.dk (T := fun q => q == P) (fun k hk => ?_) ksP, q2, by have := HH.out.cl; omega, by rw [q4]; exact HH.out.dn, by rw [q4]; exact HH.out.h.mn.1.trans HH.out.nm, HH.out.h.tab.still, fun k => still_next x.now k, rfl⟩⟩
        · rcases newB_p3 (S := P3 D bS bm) (fun q hq => hq) HO.out k hk with e2 | e2
          · exact .inl (inP3 e2)
          · right; have := SZE.out; have := KP9.out.size; omega
        · have : k ≠ P := fun e => by rw [e] at hk; rw [M4.out.pd] at hk; cases hk
          simpa using this)
      clear hs4 hk4 hm4 HLV s0 r0 r1 r2 c0 c3 c4 c5 c6 cf
      go_wp2_with fail
      go_ret
      exact FIN.out
end

end Go.Proofs.YtmflkkkbahghgaaGreat
