/- The contracts of the program's pass, seeker. The contracts of the program's save, drop, and of leaving a frame behind either. The contracts of the program's drop, and of a frame that is left behind save or drop. -/
import Derived.StillTailTactics
import Derived.Deep.LoopGhost
import Derived.WalkMore
import Derived.Test.YtmflkkkbahghgaaGreatYZ17
namespace Go.Proofs.YtmflkkkbahghgaaGreat
open Go.RowKit Go.Deep
set_option linter.unusedVariables false
set_option linter.unusedSimpArgs false
set_option maxRecDepth 100000

section
variable {PM : StM} {PF PC : FlM} {base D P Y F c : Nat} {p : Plt} {S : Nat → Bool} {u : World}
set_option maxHeartbeats 1600000 in
theorem qpass_any (I : Sh14 PM PF PC) (h : PqAt PM base D P Y F c p S u) (hl : p.f.length ≤ 32) (hh : p.hand < p.f.length) : Calls Tryz.prog 186 #[.pointer (some ⟨Y, 0, none⟩)] u fun r u' => r = .returned (.pointer (some ⟨F, p.hand * 237, none⟩)) ∧ PqTo PM base D P Y F c S { p with hand := (p.hand + 1) % p.f.length } u u' := by
  have H1 := Lib.hid (h.below I (bdrew u))
  have H2 := Lib.hid (H1.out.below I (bdrew (World.drew u)))
  have T3 := Lib.hid (H2.out.turn I ((p.hand + 1) % p.f.length))
  have B2 := Lib.hid ((bdrew u).trans ((bdrew (World.drew u)).mono (bdrew u).size))
  have FIN : Hid (PqTo PM base D P Y F c S { p with hand := (p.hand + 1) % p.f.length } u ((World.drew (World.drew u)).setCell ⟨Y, 2, none⟩ (.int .i64 (((p.hand + 1) % p.f.length : Nat) : Int)))) := Lib.hid (by
    refine (h.stays I B2.out).trans fun S2 h2 => ?_
    exact h2.turn I _)
  obtain ⟨hd, hhd⟩ : ∃ hd, hd = p.hand := ⟨_, rfl⟩
  obtain ⟨n, hn⟩ : ∃ n, n = p.f.length := ⟨_, rfl⟩
  obtain ⟨x0, x1, x2, f0, f1, f2⟩ := h.cells
  obtain ⟨y0, y1, y2, g0, g1, g2⟩ := H1.out.cells
  obtain ⟨z0, z1, z2, e0, e1, e2⟩ := H2.out.cells
  have HP := Lib.hid hhd
  have HN := Lib.hid hn
  rw [← hn] at x1 y1 z1 hl hh FIN
  rw [← hhd] at x2 y2 z2 hh FIN ⊢
  have HX := Lib.hid (And.intro x1 x2)
  have HY := Lib.hid (And.intro y1 y2)
  have HZ := Lib.hid (And.intro z1 (And.intro z2 e2))
  clear h H1 H2 T3 x0 x1 x2 f0 f1 f2 y0 y1 y2 g0 g1 g2 z0 z1 z2 e0 e1 e2 hhd
  rw [← hn]
  clear hn
  have hh1 : (hd : Int) < (n : Int) := by omega
  have hh2 : (0 : Int) ≤ (hd : Int) := by omega
  obtain ⟨h2, hh2e⟩ : ∃ h2, h2 = (hd + 1) % n := ⟨_, rfl⟩
  rw [← hh2e] at FIN ⊢
  have HWR : IntKind.i64.wrap ((hd : Int) + 1) = (hd : Int) + 1 := by rw [IntKind.wrap_i64]; omega
  have HTM : Int.tmod ((hd : Int) + 1) (n : Int) = (h2 : Int) := by
    rw [Int.tmod_eq_emod_of_nonneg (by omega), hh2e]
    rfl
  have hne : (n : Int) ≠ 0 := by omega
  have hne2 : ¬ n = 0 := by omega
  clear hh2e
  obtain ⟨x1, x2⟩ := HX.out
  obtain ⟨y1, y2⟩ := HY.out
  go_enter Tryz.func186, Tryz.ntmps186
  go_upto_region 1 with fail
  go_region
  clear x1 x2
  change (World.drew u).cell? _ = _ at y1 y2
  have y0 := y1
  generalize hw2 : World.drew u = w2 at *
  obtain ⟨z1, z2, e2⟩ := HZ.out
  go_upto_region 2 with fail
  go_still_tail 12, (by kernel_rfl)
  change wpList _ _ _ _ _ (World.drew w2)
  clear y0 y1 y2
  generalize World.drew w2 = w3 at *
  clear hw2
  go_wp2_with fail
  go_ret
  exact ⟨rfl, FIN.out⟩
/-- a round more: the frame that is held by nobody has come nearer -/
def unuF (f : List Frm) (hd : Nat) : List Frm := if (frA f hd).held = 0 then f.set hd { frA f hd with us := false } else f
theorem vic_go {n i0 g hd : Nat} {f : List Frm} (hl : f.length = n) (hh : hd < n) (hi : i0 < n) (hz : (frA f i0).held = 0) (hk : dstP n hd i0 + (if (frA f i0).us then n else 0) < g + 1) (cn : ¬ ((frA f hd).held = 0 ∧ (frA f hd).us = false)) :
    (frA (unuF f hd) i0).held = 0 ∧ dstP n ((hd + 1) % n) i0 + (if (frA (unuF f hd) i0).us then n else 0) < g := by
  by_cases e : hd = i0
  · subst e
    have hu : (frA f hd).us = true := by
      cases q : (frA f hd).us with
      | true => rfl
      | false => exact absurd ⟨hz, q⟩ cn
    rw [hu, if_pos rfl] at hk
    have hx : frA (unuF f hd) hd = { frA f hd with us := false } := by
      unfold unuF
      rw [if_pos hz, frA_set, if_pos (show hd = hd ∧ hd < f.length from ⟨rfl, by omega⟩)]
    have h1 : dstP n ((hd + 1) % n) hd < n := by
      have := Nat.mod_lt (hd + 1) (show 0 < n by omega)
      unfold dstP
      split <;> omega
    rw [hx]
    refine ⟨hz, ?_⟩
    show dstP n ((hd + 1) % n) hd + 0 < g
    omega
  · have hd1 := dstP_next hh hi e
    have hx : frA (unuF f hd) i0 = frA f i0 := by
      unfold unuF
      split
      · rw [frA_set, if_neg (fun q => e q.1.symm)]
      · rfl
    rw [hx]
    exact ⟨hz, by omega⟩
theorem vicN_unu (n g : Nat) (f : List Frm) (hd : Nat) : vicN n (g + 1) f hd = if (frA f hd).held = 0 ∧ (frA f hd).us = false then (f, (hd + 1) % n, hd) else vicN n g (unuF f hd) ((hd + 1) % n) := rfl
/-- which frame is to go, where none is empty -/
def pAq (p : Plt) (f : List Frm) (h : Nat) : Plt := { p with f := f, hand := h }
def loosN (p : Plt) : Nat := lstP (fun k => !heldB p.f k) p.f.length
def skP (p : Plt) : Plt × Nat := if loosN p < p.f.length then (pAq p (vicN p.f.length (2 * p.f.length + 1) p.f p.hand).1 (vicN p.f.length (2 * p.f.length + 1) p.f p.hand).2.1, (vicN p.f.length (2 * p.f.length + 1) p.f p.hand).2.2) else (p, p.f.length)
theorem held_of {f : List Frm} {i : Nat} : heldB f i = false ↔ (frA f i).held = 0 := by
  unfold heldB
  rw [decide_eq_false_iff_not]
  omega
/-- the box in which a pool's own address lies -/
def BoxY (Y b : Nat) (u : World) : Prop := u.heap[b]? = some (.cells #[.pointer (some ⟨Y, 0, none⟩)] 23 (0, 0))
theorem BoxY.cell {Y b : Nat} {u : World} (h : BoxY Y b u) : u.cell? ⟨b, 0, none⟩ = some (.pointer (some ⟨Y, 0, none⟩)) := by rw [Lib.cell_of_heap h]; rfl
theorem BoxY.to {Y b : Nat} {u u2 : World} {p2 : Plt} (h : BoxY Y b u) (hb : pqS S Y F b = false) (k : PqTo PM base D P Y F c S p2 u u2) : BoxY Y b u2 := by
  obtain ⟨_, _, _, k⟩ := k
  exact (k.blk (lt_of_block h) hb).trans h
theorem QRow.unuse {F n c i : Nat} {f : List Frm} {u : World} (h : QRow F n f c u) (hf : f.length = n) (hi : i < n) : QRow F n (f.set i { frA f i with us := false }) c (u.setCell ⟨F, i * 237 + 236, none⟩ (.bool false)) :=
  h.set1 hf hi { frA f i with us := false } 236 (by omega) (by
    refine fmV_cases ?_ ?_ ?_ ?_ ?_ ?_
    · intro _; rfl
    · intro _; rfl
    · intro k hk _; rw [fmV_pay _ hk, fmV_pay _ hk]
    · intro _; rfl
    · intro _; rfl
    · intro h9; exact absurd rfl h9)
set_option maxHeartbeats 3200000 in
theorem qseek_any (I : Sh14 PM PF PC) (h : PqAt PM base D P Y F c p S u) (hl : p.f.length ≤ 32) (hh : p.hand < p.f.length) (b : Nat) (hb : BoxY Y b u) (hs : pqS S Y F b = false) : Calls Tryz.prog 184 #[.pointer (some ⟨b, 0, none⟩)] u fun r u' => r = .returned (.pointer (ptrQ F p.f.length (skP p).2)) ∧ PqTo PM base D P Y F c S (skP p).1 u u' := by
  have H := Lib.hid h
  have HI := Lib.hid I
  have HF := Lib.hid (qfirst_any h hl (ask_loose h.row))
  have x0 := hb.cell
  have HB := Lib.hid hb
  have HS := Lib.hid hs
  clear h hb hs I
  go_enter Tryz.func184, Tryz.ntmps184
  by_cases hz : loosN p < p.f.length
  · have E : Hid (skP p = (pAq p (vicN p.f.length (2 * p.f.length + 1) p.f p.hand).1 (vicN p.f.length (2 * p.f.length + 1) p.f p.hand).2.1, (vicN p.f.length (2 * p.f.length + 1) p.f p.hand).2.2)) := Lib.hid (if_pos hz)
    have hfree : (frA p.f (loosN p)).held = 0 := by
      have h1 : (!heldB p.f (loosN p)) = true := lstP_at (p := fun k => !heldB p.f k) hz
      exact held_of.1 (by simpa using h1)
    rw [show lstP (fun k => !heldB p.f k) p.f.length = loosN p from rfl, ptrQ_in hz] at HF
    generalize loosN p = i0 at *
    have HZ := Lib.hid hz
    have HFR := Lib.hid hfree
    clear hz hfree
    go_wp2_with fail
    go_step3
    go_wp2_with fail
    refine (HF.out).mono ?_
    rintro r w1 ⟨rfl, hw⟩
    subst hw
    clear HF
    go_wp2_with fail
    go_step3
    go_wp2_with fail
    go_loopg [] (2 * p.f.length + 1) (fun g wr => ∃ (f : List Frm) (hd : Nat), Hid (vicN p.f.length (2 * p.f.length + 1) p.f p.hand = vicN p.f.length g f hd) ∧ f.length = p.f.length ∧ hd < p.f.length ∧ Hid ((frA f i0).held = 0 ∧ dstP p.f.length hd i0 + (if (frA f i0).us then p.f.length else 0) < g) ∧ Hid (PqTo PM base D P Y F c S (pAq p f hd) w1 wr))
    case atStart =>
      refine ⟨p.f, p.hand, Lib.hid rfl, rfl, hh, Lib.hid ⟨HFR.out, ?_⟩, Lib.hid H.out.same⟩
      have := HZ.out
      unfold dstP
      split <;> split <;> omega
    case round =>
      obtain ⟨f, hd, HV, hfl, hhd, HD, HQ⟩ := hrel
      clear x0
      obtain ⟨g, rfl⟩ : ∃ g, gk = g + 1 := ⟨gk - 1, by have := HD.out.2; omega⟩
      have HFL := Lib.hid hfl
      have HLEN := Lib.hid hl
      have HHD := Lib.hid hhd
      have HBR := Lib.hid (HB.out.to HS.out HQ.out)
      have x0 := HBR.out.cell
      obtain ⟨h2, hh2⟩ : ∃ h2, h2 = (hd + 1) % p.f.length := ⟨_, rfl⟩
      have HH2 := Lib.hid hh2
      have T2 : Hid (Calls Tryz.prog 186 #[.pointer (some ⟨Y, 0, none⟩)] wr fun r u' => r = .returned (.pointer (some ⟨F, hd * 237, none⟩)) ∧ PqTo PM base D P Y F c S (pAq p f h2) w1 u') := Lib.hid (by
        obtain ⟨S1, a1, n1, k1⟩ := HQ.out
        refine (qpass_any HI.out a1 (by show f.length ≤ 32; rw [HFL.out]; exact HLEN.out) (by show hd < f.length; rw [HFL.out]; exact HHD.out)).mono ?_
        rintro r u' ⟨rfl, S3, a3, n3, k3⟩
        refine ⟨rfl, S3, ?_, n1.then n3 k1.size, kps_new (newPq n1) k1 k3⟩
        have : pAq p f h2 = { pAq p f hd with hand := ((pAq p f hd).hand + 1) % (pAq p f hd).f.length } := by
          show pAq p f h2 = pAq p f ((hd + 1) % f.length)
          rw [HFL.out, HH2.out]
        rw [this]
        exact a3)
      have LH2 : Hid (h2 < p.f.length) := Lib.hid (by rw [HH2.out]; exact Nat.mod_lt _ (by have := HHD.out; omega))
      have HE := Lib.hid (HV.out.trans (vicN_unu p.f.length g f hd))
      rw [← HH2.out] at HE
      clear hfl hhd hh2 HV HFR
      go_wp2_with fail
      refine (T2.out).mono ?_
      rintro r w2 ⟨rfl, t2⟩
      have Q2 := Lib.hid t2
      have HA := Lib.hid (show ∃ S2, PqAt PM base D P Y F c (pAq p f h2) S2 w2 from ⟨t2.choose, t2.choose_spec.1⟩)
      have RW : Hid (QRow F p.f.length f c w2) := Lib.hid (by
        obtain ⟨S2, a2⟩ := HA.out
        have := a2.row
        rwa [show (pAq p f h2).f.length = p.f.length from HFL.out] at this)
      have H3 := Lib.hid (fheld_any RW.out HHD.out)
      obtain ⟨_, _, _, _, c4⟩ := QRow.cells RW.out HHD.out
      have z4 := RowB.frozen RW.out (hd * 237 + 236)
      clear t2 T2
      cases hb : heldB f hd with
      | true =>
        have cn : ¬ ((frA f hd).held = 0 ∧ (frA f hd).us = false) := fun q => by rw [held_of.2 q.1] at hb; cases hb
        have ez : unuF f hd = f := if_neg fun q => by rw [held_of.2 q] at hb; cases hb
        have G := Lib.hid (vic_go HFL.out HHD.out HZ.out HD.out.1 HD.out.2 cn)
        rw [ez, ← HH2.out] at G
        rw [if_neg cn, ez] at HE
        rw [hb] at H3
        clear c4 z4 cn ez
        go_wp2_with fail
        refine (H3.out).mono ?_
        rintro r w3 ⟨rfl, rfl⟩
        go_wp2_with fail
        go_roundg g
        case measure => omega
        case rel => exact ⟨f, h2, HE, HFL.out, LH2.out, G, Q2⟩
      | false =>
        have hz0 := held_of.1 hb
        rw [hb] at H3
        cases hu : (frA f hd).us with
        | true =>
          have cn : ¬ ((frA f hd).held = 0 ∧ (frA f hd).us = false) := fun q => by rw [hu] at q; cases q.2
          have ez : unuF f hd = f.set hd { frA f hd with us := false } := if_pos hz0
          have G := Lib.hid (vic_go HFL.out HHD.out HZ.out HD.out.1 HD.out.2 cn)
          rw [ez, ← HH2.out] at G
          rw [if_neg cn, ez] at HE
          have Q4 : Hid (PqTo PM base D P Y F c S (pAq p (f.set hd { frA f hd with us := false }) h2) w1 (w2.setCell ⟨F, hd * 237 + 236, none⟩ (.bool false))) := Lib.hid (by
            refine Q2.out.trans fun S2 a2 => ?_
            refine a2.wrote HI.out (f2 := f.set hd { frA f hd with us := false }) List.length_set (KpS.set (O1.a F) _ _ _) ?_
            rw [show (pAq p f h2).f.length = p.f.length from HFL.out]
            exact RW.out.unuse HFL.out HHD.out)
          rw [hu] at c4
          clear cn ez hz0
          go_wp2_with fail
          refine (H3.out).mono ?_
          rintro r w3 ⟨rfl, hw3⟩
          subst hw3
          go_wp2_with fail
          go_roundg g
          case measure => omega
          case rel => exact ⟨_, h2, HE, List.length_set.trans HFL.out, LH2.out, G, Q4⟩
        | false =>
          rw [if_pos ⟨hz0, hu⟩] at HE
          rw [hu] at c4
          have R1 : Hid (ptrQ F p.f.length (skP p).2 = some ⟨F, hd * 237, none⟩) := Lib.hid (by rw [E.out, HE.out]; exact ptrQ_in HHD.out)
          have R2 : Hid ((skP p).1 = pAq p f h2) := Lib.hid (by rw [E.out, HE.out])
          clear hz0 z4
          go_wp2_with fail
          refine (H3.out).mono ?_
          rintro r w3 ⟨rfl, hw3⟩
          subst hw3
          go_wp2_with fail
          rw [Exit.noGoto_ret]
          go_ret
          exact ⟨by rw [R1.out]; rfl, by rw [R2.out]; exact Q2.out⟩
  · have E : Hid (skP p = (p, p.f.length)) := Lib.hid (if_neg hz)
    rw [show lstP (fun k => !heldB p.f k) p.f.length = loosN p from rfl, ptrQ_out hz] at HF
    clear hz
    go_wp2_with fail
    go_step3
    go_wp2_with fail
    refine (HF.out).mono ?_
    rintro r w1 ⟨rfl, hw⟩
    subst hw
    go_wp2_with fail
    rw [Exit.noGoto_ret]
    go_ret
    exact ⟨by rw [E.out]; show _ = Ending.returned (.pointer (ptrQ F p.f.length p.f.length)); rw [ptrQ_out (Nat.lt_irrefl _)]; rfl, by rw [E.out]; exact H.out.same⟩
end
end Go.Proofs.YtmflkkkbahghgaaGreat
namespace Go.Proofs.YtmflkkkbahghgaaGreat
open Go.RowKit Go.Deep
set_option linter.unusedVariables false
set_option linter.unusedSimpArgs false
set_option maxRecDepth 100000

theorem full_self {b : ByteArray} (h : b.size = 232) : fullP b = b := by
  unfold fullP
  rw [if_pos (by omega)]
  exact padN_self b 232 h
theorem QRow.undirty {F n c i : Nat} {f : List Frm} {u : World} (h : QRow F n f c u) (hf : f.length = n) (hi : i < n) : QRow F n (f.set i { frA f i with di := false }) c (u.setCell ⟨F, i * 237 + 235, none⟩ (.bool false)) :=
  h.set1 hf hi { frA f i with di := false } 235 (by omega) (by
    refine fmV_cases ?_ ?_ ?_ ?_ ?_ ?_
    · intro _; rfl
    · intro _; rfl
    · intro k hk _; rw [fmV_pay _ hk, fmV_pay _ hk]
    · intro _; rfl
    · intro h9; exact absurd rfl h9
    · intro _; rfl)
section
variable {PM : StM} {PF PC : FlM} {base D P Y F c : Nat} {p : Plt} {S : Nat → Bool} {u : World}
theorem PqTo.from {w1 w2 : World} {p2 : Plt} (b : Below u.heap.size u w1) (q : PqTo PM base D P Y F c S p2 w1 w2) : PqTo PM base D P Y F c S p2 u w2 := by
  obtain ⟨S2, a2, n2, k2⟩ := q
  refine ⟨S2, a2, fun k hk => ?_, (KpS.of b : KpS (pqS S Y F) u w1).trans k2⟩
  rcases n2 k hk with h1 | h1
  · exact .inl h1
  · exact .inr (Nat.le_trans b.size h1)
theorem PqTo.at {w2 : World} {p2 : Plt} (q : PqTo PM base D P Y F c S p2 u w2) : ∃ S2, PqAt PM base D P Y F c p2 S2 w2 := ⟨q.choose, q.choose_spec.1⟩
set_option maxHeartbeats 3200000 in
theorem qsave_any (I : Sh14 PM PF PC) (h : PqAt PM base D P Y F c p S u) (ok : OkX p.x) (hbase : base ≤ u.heap.size) {hm i : Nat} (hi : i < p.f.length) (hf : OkF hm (frA p.f i)) : Calls Tryz.prog 50 #[.pointer (some ⟨Y, 0, none⟩), .pointer (some ⟨F, i * 237, none⟩)] u fun r u' => r = .returned (.int .i64 (bakE p i)) ∧ PqTo PM base D P Y F c S (bakP p i) u u' := by
  obtain ⟨c0, c1, c2, c3, c4⟩ := QRow.cells h.row hi
  have z3 := RowB.frozen h.row (i * 237 + 235)
  obtain ⟨x0, x1, x2, f0, f1, f2⟩ := h.cells
  have H := Lib.hid h
  have HI := Lib.hid I
  have OK := Lib.hid ok
  have HBASE := Lib.hid hbase
  have HL := Lib.hid hi
  cases hd : (frA p.f i).di with
  | true =>
    have hfull : 0 ≤ (frA p.f i).pg ∧ (frA p.f i).b.size = 232 := by
      rcases hf with hf | hf
      · rw [hf] at hd; cases hd
      · exact ⟨hf.1, hf.2.1⟩
    have EPG : pgN (frA p.f i) = (frA p.f i).pg := if_pos hfull.1
    have EFU : fullP (frA p.f i).b = (frA p.f i).b := full_self hfull.2
    have HSZ := Lib.hid (show (frA p.f i).b.size ≤ 1000000 by omega)
    have HS2 := Lib.hid (show (frA p.f i).b.size ≤ 232 by omega)
    have EB : Hid (bakE p i = putWE p.x (frA p.f i).pg (frA p.f i).b) := Lib.hid (if_pos hd)
    have EP : Hid (bakP p i = { p with x := putWX p.x (frA p.f i).pg (frA p.f i).b, f := if putWE p.x (frA p.f i).pg (frA p.f i).b = 0 then p.f.set i { frA p.f i with di := false } else p.f }) := Lib.hid (if_pos hd)
    rw [EPG] at c1
    rw [hd] at c3
    have EPH := Lib.hid EPG
    have EFH := Lib.hid EFU
    clear h I ok hbase hi hf hfull EPG EFU x1 x2 f0 f1 f2 c0 c2 c4 hd
    go_enter Tryz.func50, Tryz.ntmps50
    go_upto_region 3 with fail
    clear c3 z3
    refine wp_region_held_drew (S := (fun w' => w'.cell? ⟨Y, 0, none⟩ = some (.pointer (some ⟨P, 0, none⟩)) ∧ w'.cell? ⟨F, i * 237 + 1, none⟩ = some (.int .i64 (frA p.f i).pg))) (by kernel_rfl) ⟨x0, c1⟩ (fun hHeld => ?_)
    change wpAnyH _ _ _ _ _ _ _ _ (World.drew u)
    have HD := Lib.hid (H.out.below HI.out (bdrew u))
    have BD := Lib.hid (bdrew u)
    have V0 : Hid ((World.drew u).cell? ⟨Y, 0, none⟩ = some (.pointer (some ⟨P, 0, none⟩)) ∧ (World.drew u).cell? ⟨F, i * 237 + 1, none⟩ = some (.int .i64 (frA p.f i).pg)) := Lib.hid ⟨x0, c1⟩
    clear x0 c1
    generalize World.drew u = w1 at *
    first | refine tq0 0 rfl ?_ | refine tq1 0 rfl ?_
    try go_frame
    first | refine tq0 1 rfl ?_ | refine tq1 1 rfl ?_
    try go_frame
    first | refine tq0 2 rfl ?_ | refine tq1 2 rfl ?_
    try go_frame
    first | refine tq0 3 rfl ?_ | refine tq1 3 rfl ?_
    try go_frame
    first | refine tq0 4 rfl ?_ | refine tq1 4 rfl ?_
    try go_frame
    first | refine tq0 5 rfl ?_ | refine tq1 5 rfl ?_
    try go_frame
    first | refine tq0 6 rfl ?_ | refine tq1 6 rfl ?_
    try go_frame
    first | refine tq0 7 rfl ?_ | refine tq1 7 rfl ?_
    try go_frame
    first | refine tq0 8 rfl ?_ | refine tq1 8 rfl ?_
    try go_frame
    have HT := Lib.hid (ftext_any HD.out.row HL.out HS2.out)
    rw [EFH.out] at HT
    refine wpAnyH_ready (rs := [9]) (by kernel_rfl) (by simp) ?_
    refine AllReadyH.cons (o := ⟨_, _, _, _, _, _⟩) rfl (fun Kx hKx => ?_) AllReadyH.nil
    go_simp
    go_at_call 45
    refine (HT.out).mono ?_
    rintro e9 w7 ⟨rfl, hw7⟩
    subst hw7
    refine hKx.out _ _ V0.out (fun hHeld => ?_)
    clear hKx Kx HT
    try simp only [Act.put, List.setIfInBounds_toArray, List.set_cons_zero, List.set_cons_succ]
    have HW := Lib.hid (HI.out.write (frA p.f i).pg (frA p.f i).b HD.out.st OK.out (Nat.le_trans HBASE.out BD.out.size) HSZ.out)
    refine wpAnyH_ready (rs := [10]) (by kernel_rfl) (by simp) ?_
    refine AllReadyH.cons (o := ⟨_, _, _, _, _, _⟩) rfl (fun Kx hKx => ?_) AllReadyH.nil
    go_simp
    go_at_call 86
    refine (HW.out).mono ?_
    rintro e9 w8 ⟨e, rfl, ho⟩
    obtain ⟨rfl, S2, n2, k2, p2⟩ := out_zero ho
    have Q8 : Hid (PqTo PM base D P Y F c S { p with x := putWX p.x (frA p.f i).pg (frA p.f i).b } u w8) := Lib.hid (PqTo.from BD.out (HD.out.stored HI.out n2 k2 p2))
    obtain ⟨S3, a3⟩ := Q8.out.at
    have c8 : w8.cell? ⟨F, i * 237 + 1, none⟩ = some (.int .i64 (frA p.f i).pg) := by
      have := (QRow.cells a3.row HL.out).2.1
      rw [EPH.out] at this
      exact this
    have c9 : w8.cell? ⟨Y, 0, none⟩ = some (.pointer (some ⟨P, 0, none⟩)) := a3.cells.1
    have cd := (QRow.cells a3.row HL.out).2.2.2.1
    have zd := RowB.frozen a3.row (i * 237 + 235)
    have R8 := Lib.hid a3.row
    clear ho n2 k2 p2 HW a3
    refine hKx.out _ _ ⟨c9, c8⟩ (fun hHeld => ?_)
    clear hKx Kx c8 c9
    try simp only [Act.put, List.setIfInBounds_toArray, List.set_cons_zero, List.set_cons_succ]
    first | refine tq0 11 rfl ?_ | refine tq1 11 rfl ?_
    try go_frame
    refine wpAnyH_done (by kernel_rfl) ?_ _
    clear hHeld V0
    generalize putWE p.x (frA p.f i).pg (frA p.f i).b = e at *
    by_cases he : e = 0
    · subst he
      have FIN : Hid (PqTo PM base D P Y F c S (bakP p i) u (w8.setCell ⟨F, i * 237 + 235, none⟩ (.bool false))) := Lib.hid (by
        rw [EP.out, if_pos rfl]
        refine Q8.out.trans fun S9 a9 => ?_
        exact a9.wrote HI.out (f2 := p.f.set i { frA p.f i with di := false }) List.length_set (KpS.set (O1.a F) _ _ _) (a9.row.undirty rfl HL.out))
      go_wp2_with fail
      go_ret
      exact ⟨by rw [EB.out]; rfl, FIN.out⟩
    · have d1 : (e == 0) = false := by simp [he]
      have d2 : (e != 0) = true := by simp [he]
      have FIN : Hid (PqTo PM base D P Y F c S (bakP p i) u w8) := Lib.hid (by rw [EP.out, if_neg he]; exact Q8.out)
      clear he
      go_wp2_with fail
      go_ret
      exact ⟨by rw [EB.out]; rfl, FIN.out⟩
  | false =>
    have E1 : Hid (bakE p i = 0) := Lib.hid (if_neg (by rw [hd]; decide))
    have E2 : Hid (bakP p i = p) := Lib.hid (if_neg (by rw [hd]; decide))
    rw [hd] at c3
    clear h I ok hbase hi hf hd x0 x1 x2 f0 f1 f2 c0 c1 c2 c4
    go_enter Tryz.func50, Tryz.ntmps50
    go_wp2_with fail
    go_ret
    exact ⟨by rw [E1.out]; rfl, by rw [E2.out]; exact H.out.same⟩
end
end Go.Proofs.YtmflkkkbahghgaaGreat
namespace Go.Proofs.YtmflkkkbahghgaaGreat
open Go.RowKit Go.Deep
set_option linter.unusedVariables false
set_option linter.unusedSimpArgs false
set_option maxRecDepth 100000

section
variable {PM : StM} {PF PC : FlM} {base D P Y F c : Nat} {p : Plt} {S : Nat → Bool} {u : World}
set_option maxHeartbeats 3200000 in
theorem qdrop1_any (I : Sh14 PM PF PC) (h : PqAt PM base D P Y F c p S u) (ok : OkX p.x) (hbase : base ≤ u.heap.size) {i : Nat} (hi : i < p.f.length) : Calls Tryz.prog 72 #[.pointer (some ⟨Y, 0, none⟩), .pointer (some ⟨F, i * 237, none⟩)] u fun r u' => r = .returned (.int .i64 (dropSE p.x (pgN (frA p.f i)))) ∧ PqTo PM base D P Y F c S { p with x := dropSX p.x (pgN (frA p.f i)) } u u' := by
  obtain ⟨c0, c1, c2, c3, c4⟩ := QRow.cells h.row hi
  obtain ⟨x0, x1, x2, f0, f1, f2⟩ := h.cells
  have H := Lib.hid h
  have HI := Lib.hid I
  have B1 := Lib.hid (bdrew u)
  have HD := Lib.hid (h.below I (bdrew u))
  have HW := Lib.hid (I.drop (pgN (frA p.f i)) HD.out.st ok (Nat.le_trans hbase B1.out.size))
  have y0 := HD.out.cells.1
  have y1 := (QRow.cells HD.out.row hi).2.1
  clear h I ok hbase x1 x2 f0 f1 f2 c0 c2 c3 c4
  go_enter Tryz.func72, Tryz.ntmps72
  go_upto_region 1 with fail
  go_still_tail 8, (by kernel_rfl)
  change wpList _ _ _ _ _ (World.drew u)
  clear x0 c1 y0 y1
  generalize World.drew u = w0 at *
  go_wp2_with fail
  refine (HW.out).mono ?_
  rintro r w1 ⟨e, rfl, ho⟩
  obtain ⟨rfl, S2, n2, k2, p2⟩ := out_zero ho
  have Q8 := Lib.hid (PqTo.from B1.out (HD.out.stored HI.out n2 k2 p2))
  clear ho n2 k2 p2 HW
  go_wp2_with fail
  go_ret
  exact ⟨rfl, Q8.out⟩
/-- a frame is left behind save -/
def lvE (p : Plt) (i : Nat) : Int := if heldB p.f i then 16 else bakE p i
def lvP (p : Plt) (i : Nat) : Plt := if heldB p.f i then p else if bakE p i = 0 then { bakP p i with f := (bakP p i).f.set i noF } else bakP p i
theorem left_save (I : Sh14 PM PF PC) (h : PqAt PM base D P Y F c p S u) (ok : OkX p.x) (hbase : base ≤ u.heap.size) {hm i : Nat} (hi : i < p.f.length) (hf : OkF hm (frA p.f i)) : Calls Tryz.prog 71 #[.pointer (some ⟨F, i * 237, none⟩), .func (.func 50) #[.pointer (some ⟨Y, 0, none⟩)] #[]] u fun r u' => r = .returned (.int .i64 (lvE p i)) ∧ PqTo PM base D P Y F c S (lvP p i) u u' := by
  have hl2 : ∀ S2 w, PqAt PM base D P Y F c (bakP p i) S2 w → QRow F p.f.length (bakP p i).f c w := fun S2 w a => by
    have := a.row
    rwa [bakP_len] at this
  refine (fleave_any (Q := fun e w => e = bakE p i ∧ PqTo PM base D P Y F c S (bakP p i) u w) h.row hi (fun w => callFunc_in Tryz.func50 (by kernel_rfl) (by kernel_rfl) _ w) (fun _ => (qsave_any I h ok hbase hi hf).mono fun r w k => ⟨_, k.1, rfl, k.2⟩) (fun w k => by
    obtain ⟨S2, a2⟩ := k.2.at
    have := QRow.there (hl2 S2 w a2) hi 0 237 (by omega)
    rwa [Nat.add_zero] at this)).mono ?_
  rintro r w k
  unfold lvE lvP
  rcases k with ⟨hb, rfl, rfl⟩ | ⟨hb, e, w1, ⟨rfl, k1⟩, rfl, k2⟩
  · rw [hb]
    exact ⟨rfl, h.same⟩
  · rw [hb]
    rcases k2 with ⟨he, rfl⟩ | ⟨he, rfl⟩
    · refine ⟨rfl, ?_⟩
      rw [if_neg (by decide), if_neg he]
      exact k1
    · refine ⟨rfl, ?_⟩
      rw [if_neg (by decide), if_pos he]
      refine k1.trans fun S2 a2 => ?_
      exact a2.wrote I (f2 := (bakP p i).f.set i noF) List.length_set (KpS.sets (O1.a F) _ _ _) (leave_all a2.row rfl (by rw [bakP_len]; exact hi))
/-- a frame is left behind drop -/
def dvE (p : Plt) (i : Nat) : Int := if heldB p.f i then 16 else dropSE p.x (pgN (frA p.f i))
def dvP (p : Plt) (i : Nat) : Plt := if heldB p.f i then p else if dropSE p.x (pgN (frA p.f i)) = 0 then { x := dropSX p.x (pgN (frA p.f i)), f := p.f.set i noF, hand := p.hand } else { p with x := dropSX p.x (pgN (frA p.f i)) }
theorem left_drop (I : Sh14 PM PF PC) (h : PqAt PM base D P Y F c p S u) (ok : OkX p.x) (hbase : base ≤ u.heap.size) {i : Nat} (hi : i < p.f.length) : Calls Tryz.prog 71 #[.pointer (some ⟨F, i * 237, none⟩), .func (.func 72) #[.pointer (some ⟨Y, 0, none⟩)] #[]] u fun r u' => r = .returned (.int .i64 (dvE p i)) ∧ PqTo PM base D P Y F c S (dvP p i) u u' := by
  refine (fleave_any (Q := fun e w => e = dropSE p.x (pgN (frA p.f i)) ∧ PqTo PM base D P Y F c S { p with x := dropSX p.x (pgN (frA p.f i)) } u w) h.row hi (fun w => callFunc_in Tryz.func72 (by kernel_rfl) (by kernel_rfl) _ w) (fun _ => (qdrop1_any I h ok hbase hi).mono fun r w k => ⟨_, k.1, rfl, k.2⟩) (fun w k => by
    obtain ⟨S2, a2⟩ := k.2.at
    have := QRow.there a2.row hi 0 237 (by omega)
    rwa [Nat.add_zero] at this)).mono ?_
  rintro r w k
  unfold dvE dvP
  rcases k with ⟨hb, rfl, rfl⟩ | ⟨hb, e, w1, ⟨rfl, k1⟩, rfl, k2⟩
  · rw [hb]
    exact ⟨rfl, h.same⟩
  · rw [hb]
    rcases k2 with ⟨he, rfl⟩ | ⟨he, rfl⟩
    · refine ⟨rfl, ?_⟩
      rw [if_neg (by decide), if_neg he]
      exact k1
    · refine ⟨rfl, ?_⟩
      rw [if_neg (by decide), if_pos he]
      refine k1.trans fun S2 a2 => ?_
      exact a2.wrote I (f2 := p.f.set i noF) List.length_set (KpS.sets (O1.a F) _ _ _) (leave_all a2.row rfl hi)
end
end Go.Proofs.YtmflkkkbahghgaaGreat
