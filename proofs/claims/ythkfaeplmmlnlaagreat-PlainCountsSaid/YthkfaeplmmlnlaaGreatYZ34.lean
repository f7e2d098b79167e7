/- PlainCounts, walked. Slices that came in, as rows: what the frames share. -/
import Derived.Deep.Cut
import Derived.Test.YthkfaeplmmlnlaaGreatYZ33
import Derived.Test.YthkfaeplmmlnlaaGreatYZ10
import Derived.Test.YthkfaeplmmlnlaaGreatYZ0
import Derived.Test.YthkfaeplmmlnlaaGreatYZ1
namespace Go.Proofs.YthkfaeplmmlnlaaGreat
open Go.RowKit Go.Deep Go.Maps
set_option linter.unusedVariables false
set_option maxRecDepth 100000

theorem u8_bd9 {n : Int} (h : (Lit.int .u8 n).wf = true) : 0 ≤ n ∧ n < 256 := by
  simp [Lit.wf] at h
  have e1 : IntKind.u8.min = 0 := rfl
  have e2 : IntKind.u8.max = 255 := rfl
  omega
theorem push_st (S : Nat → Sta) (g : Nat → Value) (k : Nat) (v : Value) : rowCells 3 (gT S g) k ++ [v, .int .i64 (S k).sent, .int .i64 (S k).dice] = rowCells 3 (gT S fun p => if p = k then v else g p) (k + 1) := by
  have e1 : rowCells 3 (gT S g) k = rowCells 3 (gT S fun p => if p = k then v else g p) k := rowCells_congr (by decide) fun i hi c hc => by
    have : i ≠ k := by omega
    rcases c with _ | _ | c
    · show g i = if i = k then v else g i
      rw [if_neg this]
    · rfl
    · rfl
  rw [e1]
  exact rowCells_succ (C := 3) (by omega) (gT S fun p => if p = k then v else g p) k _ rfl (fun q hq => by
    have : q = 0 ∨ q = 1 ∨ q = 2 := by omega
    rcases this with rfl | rfl | rfl <;> simp [gT])
/-- what waits behind a step -/
theorem step_len {m : Mdl} {x : Sm} {e : Evn} {r : List Evn} (h : x.W = e :: r) : (stepP m x).W.length + 1 = x.W.length + (hanP m x e).l.n := by
  rw [stepP_some h]
  show (insAll r _).length + 1 = _
  rw [insAll_length, toL_length, h, List.length_cons]
  omega

set_option maxHeartbeats 12800000 in
theorem plCounts_core (m : Mdl) (vd vp vl vi : Value) (n : Int) (w : World) (hm : MdlAt m vd vp vl vi w) (hr : MdlR m) (h0 : 0 ≤ n) (h1 : n < 256) : Calls Tryz.prog 4 #[mval m vd vp vl vi, .int .u8 n] w fun e w' => e = .returned (.bool true) ∧ Below w.heap.size w w' := by
  obtain ⟨i0, hi0, hz0, hz1, hz2⟩ := info_parts info_state9'
  have hsf := store_float
  have HA := Lib.hid awake9_any
  obtain ⟨_, ⟨al, cl, rfl, _, _, _⟩, _⟩ := id hm.l
  have HL : Hid (∀ u, Below w.heap.size w u → Calls Tryz.prog 5 #[.agg #[.int .i64 m.seed, .float .f64 m.fin, vd, vp, .slice al m.nl cl, vi]] u fun e w' => ∃ b, e = .returned (.bool b) ∧ Below u.heap.size u w') := fun u k => light8_any m vd vp _ vi u (hm.below k)
  have HK : Hid (∀ u, Below w.heap.size w u → Calls Tryz.prog 8 #[.agg #[.int .i64 m.seed, .float .f64 m.fin, vd, vp, .slice al m.nl cl, vi]] u fun e w' => e = .returned (.int .i64 (chkN m)) ∧ Below u.heap.size u w') := fun u k => refCheck_any m vd vp _ vi u (hm.below k)
  have X1 := Lib.hid (heap_alloc_new w (.cells #[.int .i64 m.seed, .float .f64 m.fin, vd, vp, .slice al m.nl cl, vi] 28))
  have B1 := Lib.hid (balloc w (.cells #[.int .i64 m.seed, .float .f64 m.fin, vd, vp, .slice al m.nl cl, vi] 28))
  have HM := Lib.hid hm
  have HR := Lib.hid hr
  unfold mval
  clear hm hr
  go_enter Tryz.func4, Tryz.ntmps4
  go_upto_region 1 with fail
  generalize w.alloc (.cells #[.int .i64 m.seed, .float .f64 m.fin, vd, vp, .slice al m.nl cl, vi] 28) = w1 at *
  obtain ⟨m0, m1, m2, m3, m4, m5⟩ := six_cells7 X1.out
  by_cases hc : chkN m = 0
  · have HC := Lib.hid hc
    rw [hc] at HK
    have HN : Hid (∀ u, Below w.heap.size w u → Calls Tryz.prog 7 #[.agg #[.int .i64 m.seed, .float .f64 m.fin, vd, vp, .slice al m.nl cl, vi]] u fun z w' => ∃ P bm bc bs xd xp xl xi vS, z = .returned (.tuple #[.pointer (some ⟨P, 0, none⟩), .int .i64 0]) ∧ (u.heap.size ≤ P ∧ u.heap.size ≤ bm ∧ u.heap.size ≤ bs) ∧ PAt (nwS (fun _ => false) P bm bs) P bm bc bs m xd xp xl xi vS (newP m) 0 0 w' ∧ Below u.heap.size u w') := fun u k => pnew_any m vd vp _ vi u (HM.out.below k) hc HR.out (fun _ => false) (fun k hk => by cases hk)
    have HL6 := Lib.hid (chk_nl hc).2.1
    have HL1 := Lib.hid (chk_nl hc).1
    clear hc
    go_wp2_with (first
      | (go_at_call 5; refine (HL.out _ B1.out).mono ?_; rintro z w2 ⟨b, rfl, hb2⟩; have B2 := Lib.hid (bthen B1.out hb2); have X2 := Lib.hid ((hb2.block _ (lt_of_block X1.out)).trans X1.out); clear hb2 m0 m1 m2 m3 m4 m5; obtain ⟨m0, m1, m2, m3, m4, m5⟩ := six_cells7 X2.out; cases b)
      | (go_at_call 6; refine (HA.out _).mono ?_; rintro z w9 ⟨rfl, hb9⟩; have B9 := Lib.hid (bthen B2.out hb9); clear hb9)
      | fail)
    · go_ret
      exact ⟨rfl, B9.out⟩
    refine (HK.out _ B2.out).mono ?_
    rintro z w2b ⟨rfl, hb2⟩
    have B2b := Lib.hid (bthen B2.out hb2)
    have X2b := Lib.hid ((hb2.block _ (lt_of_block X2.out)).trans X2.out)
    clear hb2
    obtain ⟨m0, m1, m2, m3, m4, m5⟩ := six_cells7 X2b.out
    go_upto_region 4 with (go_at_call 7; refine (HN.out _ B2b.out).mono ?_; rintro z w3 ⟨P, bm, bc, bs, xd, xp, xl, xi, vS, rfl, hlo, hp, hb3⟩; have A3 := Lib.hid hp; have LO := Lib.hid (show w.heap.size < P ∧ w.heap.size < bm ∧ w.heap.size < bs by have := lt_of_block X2b.out; omega); have B3 := Lib.hid (bthen B2b.out hb3); have X3 := Lib.hid ((hb3.block _ (lt_of_block X2b.out)).trans X2b.out); clear hp hlo hb3 m0 m1 m2 m3 m4 m5)
    generalize nwS (fun _ => false) P bm bs = S3 at *
    clear HN HK HL X1 X2 X2b B1 B2 B2b
    have hN0 : 0 ≤ n % 60 := by omega
    have hN1 : n % 60 ≤ 59 := by omega
    go_wp2_with fail
    go_loopw [7] (fun i wr => ∃ q : Nat, i = .int .i64 q ∧ q ≤ 60 ∧ PAt S3 P bm bc bs m xd xp xl xi vS (stepsP m q (newP m)) q q wr ∧ wr.heap[w.heap.size]? = some (.cells #[.int .i64 m.seed, .float .f64 m.fin, vd, vp, .slice al m.nl cl, vi] 28 (0, 0)) ∧ Below w.heap.size w wr) (fun i _ => 61 - (intOf i).toNat)
    case atStart => exact ⟨0, rfl, Nat.zero_le _, A3.out, X3.out, B3.out⟩
    case round =>
      obtain ⟨q, rfl, hq, ha, hx, hb⟩ := hrel
      obtain ⟨wo, rfl⟩ : ∃ wo, wo = wr := ⟨_, rfl⟩
      have AR := Lib.hid ha
      have XR := Lib.hid hx
      have BL := Lib.hid hb
      clear ha hx hb
      by_cases hlt : (q : Int) < n % 60
      · have d1 : decide ((q : Int) < n % 60) = true := by simp [hlt]
        have HQ := Lib.hid hlt
        clear hlt
        obtain ⟨x, hxe⟩ : ∃ x, x = stepsP m q (newP m) := ⟨_, rfl⟩
        rw [← hxe] at AR
        have HXE := Lib.hid hxe
        clear hxe
        have HW := Lib.hid AR.out.wait
        obtain ⟨ln, hln⟩ : ∃ ln, ln = x.W.length := ⟨_, rfl⟩
        rw [← hln] at HW
        have HLN := Lib.hid hln
        clear hln
        go_upto_region 8 with (go_at_call 13; refine HW.out.mono ?_; rintro z w4 ⟨rfl, hw4⟩; rw [hw4]; clear hw4 w4)
        have HL6b := HL6.out
        go_wp2_with fail
        go_loopw [9, 10] (fun l i wr => ∃ (k : Nat) (ar : Option Addr) (cr : Nat) (g : Nat → Value) (S2 : Nat → Bool), i = .int .i64 k ∧ l = .slice ar k cr ∧ k ≤ m.nl ∧ wr.ownsRow wo.heap.size 55 3 (.slice ar k cr) (k) (rowCells 3 (gT x.S (g)) (k)) ∧ (∀ p, p < k → wr.ownsRow wo.heap.size 3 1 ((g) p) (x.S p).nw (rowCells 1 (gW (x.S p).w) (x.S p).nw)) ∧ PAt S2 P bm bc bs m xd xp xl xi vS x q q wr ∧ Below wo.heap.size wo wr ∧ (∀ p, S3 p = true → S2 p = true) ∧ S2 bc = false ∧ (∀ g9, (Value.slice ar k cr).ownBlock = some g9 → S2 g9 = true)) (fun _ i _ => m.nl - (intOf i).toNat)
        case atStart => exact ⟨0, none, 0, fun _ => .slice none 0 0, S3, rfl, rfl, Nat.zero_le _, by rw [rowCells_zero]; exact World.ownsRow_nil _ _ _ _, fun p hp => absurd hp (Nat.not_lt_zero p), AR.out, Below.refl _ _, fun p hp => hp, AR.out.lt.2.2.2.2, fun g hg => by simp [Value.ownBlock] at hg⟩
        case round =>
          obtain ⟨k, ar, cr, g, S2, rfl, rfl, hk, ho, hwd, hp, hbz, hs1, hs2, hs3⟩ := hrel
          have OR := Lib.hid ho
          have WR := Lib.hid hwd
          have PR := Lib.hid hp
          have BZ := Lib.hid hbz
          have HS1 := Lib.hid hs1
          have HS2 := Lib.hid hs2
          have HS3 := Lib.hid hs3
          clear ho hwd hp hbz hs1 hs2 hs3
          have XZ := Lib.hid ((BZ.out.block _ (lt_of_block XR.out)).trans XR.out)
          have c4 : wr.cell? ⟨w.heap.size, 4, none⟩ = some (.slice al m.nl cl) := by rw [Lib.cell_of_heap XZ.out]; rfl
          by_cases hkl : k < m.nl
          · have d2 : decide (k < m.nl) = true := by simp [hkl]
            have HKL := Lib.hid hkl
            have HST := Lib.hid (PR.out.state k hkl)
            clear hkl
            go_upto_region 12 with fail
            clear c4
            go_wp2_with fail
            refine HST.out.mono ?_
            rintro z w5 ⟨v, rfl, ⟨vI, rfl, hoI⟩, hb5⟩
            obtain ⟨ax, cx, rfl, _⟩ := own_form hoI
            unfold sval
            have B5 := Lib.hid hb5
            have I5 := Lib.hid (own_lower hoI (show wo.heap.size ≤ wr.heap.size from BZ.out.size))
            clear hb5 hoI
            have B6 := Lib.hid (bthen B5.out (balloc w5 (.cells #[.slice ax (x.S k).nw cx, .int .i64 (x.S k).sent, .int .i64 (x.S k).dice] 55)))
            have HNW := Lib.hid (news_cells7 w5 #[.slice ax (x.S k).nw cx, .int .i64 (x.S k).sent, .int .i64 (x.S k).dice] 55)
            have I6 := Lib.hid (own_below I5.out (balloc w5 (.cells #[.slice ax (x.S k).nw cx, .int .i64 (x.S k).sent, .int .i64 (x.S k).dice] 55)))
            have O6 := Lib.hid (own_below OR.out B6.out)
            have HBS := Lib.hid (show wo.heap.size ≤ (w5.alloc (.cells #[.slice ax (x.S k).nw cx, .int .i64 (x.S k).sent, .int .i64 (x.S k).dice] 55)).heap.size from Nat.le_trans BZ.out.size B6.out.size)
            go_wp2_with (at_builtin; refine wpList_append_own_at _ rfl _ _ 49 rfl wo.heap.size 55 i0 (.agg #[.slice none 0 0, .int .i64 0, .int .i64 0]) 3 40 Tryz.underlying49 hi0 hz0 hz1 hz2 rfl (by decide) (.slice ar k cr) k _ rfl O6.out ⟨w5.heap.size, 0, none⟩ 1 1 [.slice ax (x.S k).nw cx, .int .i64 (x.S k).sent, .int .i64 (x.S k).dice] rfl rfl HNW.out (by simp [Value.oneCell']) (by unfold maxLen; omega) (by omega) HBS.out ?_)
            intro v1 w7 hown hgr hnn hat
            have O7 : Hid (w7.ownsRow wo.heap.size 55 3 (v1) ((k + 1)) (rowCells 3 (gT x.S (fun p => if p = k then .slice ax (x.S k).nw cx else g p)) ((k + 1)))) := by
              rw [push_st x.S g k (.slice ax (x.S k).nw cx)] at hown
              exact hown
            have W7 : Hid (∀ p, p < k + 1 → w7.ownsRow wo.heap.size 3 1 ((fun p => if p = k then .slice ax (x.S k).nw cx else g p) p) (x.S p).nw (rowCells 1 (gW (x.S p).w) (x.S p).nw)) := fun p hp => by
              by_cases c : p = k
              · subst c
                simp only [if_pos]
                exact grown_own O6.out hgr I6.out (by decide)
              · simp only [if_neg c]
                exact grown_own O6.out hgr (own_below (WR.out p (by omega)) B6.out) (by decide)
            have NB : Hid (∀ b, (Value.slice ar k cr).ownBlock = some b → S2 b = true ∧ wo.heap.size ≤ b) := fun b hb => ⟨HS3.out b hb, (own_lt OR.out hb).1⟩
            have LT := Lib.hid AR.out.lt
            have P7 : Hid (PAt (fun p => S2 p || decide (v1.ownBlock = some p)) P bm bc bs m xd xp xl xi vS x q q w7) := by
              refine (PR.out.below B6.out).grow hgr (fun b hb => ⟨(NB.out b hb).1, by have := (NB.out b hb).2; have := LT.out; omega, by have := (NB.out b hb).2; have := LT.out; omega, by have := (NB.out b hb).2; have := LT.out; omega⟩) (fun p hp => ?_) (fun p hp => ?_)
              · by_cases c9 : v1.ownBlock = some p
                · rcases hat with h9 | h9
                  · simp [HS3.out p (h9.symm.trans c9)]
                  · have h8 := Option.some.inj (c9.symm.trans h9); rw [World.size_alloc] at hp; omega
                · simp [c9]
              · simp only [Bool.or_eq_true, decide_eq_true_eq] at hp
                rcases hp with hp | hp
                · exact Nat.lt_of_lt_of_le (PR.out.lo p hp) (Nat.le_trans B6.out.size hgr.size)
                · exact (own_lt hown hp).2
            have C7 := Lib.hid (show (fun p => S2 p || decide (v1.ownBlock = some p)) bc = false by
              have e1 := HS2.out
              have e2 : v1.ownBlock ≠ some bc := fun c9 => by have := (own_lt hown c9).1; have := LT.out; omega
              simp [e1, e2])
            have B7 : Hid (Below wo.heap.size wo w7) := (BZ.out.trans (B6.out.mono BZ.out.size)).trans ⟨hgr.os, hgr.tape, hgr.output, hgr.size, fun p hp => hgr.block p (Nat.lt_of_lt_of_le hp HBS.out) (fun c9 => by have := (NB.out p c9.symm).2; omega)⟩
            obtain ⟨a1, c1, rfl, _⟩ := own_form hown
            clear hown hgr hnn hat
            go_wp2_with fail
            go_roundw
            case rel => exact ⟨k + 1, a1, c1, _, _, by go_num, rfl, HKL.out, O7.out, W7.out, P7.out, B7.out, fun p hp => by simp [HS1.out p hp], C7.out, fun g9 hg => by simp [hg]⟩
            case measure => have := HKL.out; simp [intOf]; omega
          · obtain rfl : k = m.nl := by omega
            have d2 : decide (m.nl < m.nl) = false := by simp
            have BW := Lib.hid (BL.out.trans (BZ.out.mono BL.out.size))
            by_cases hW : x.W = []
            · obtain rfl : ln = 0 := by rw [HLN.out, hW]; rfl
              have HSP := Lib.hid (PR.out.stop hW)
              go_wp2_with (first
                | (go_at_call 10; refine HSP.out.mono ?_; rintro z w8 ⟨rfl, hb8⟩; have B8 := Lib.hid (hb8.trans ((balloc w8 (.cells #[.float .f64 0, .int .i64 0, .int .i64 0, .int .i64 0, .int .i64 0, .int .i64 0] 43)).mono hb8.size)); clear hb8 c4)
                | (go_at_call 6; refine (HA.out _).mono ?_; rintro z w9 ⟨rfl, hb9⟩; have B9 := Lib.hid (bthen B8.out hb9); have HWW := Lib.hid (PR.out.below B9.out).wait; clear hb9)
                | (go_at_call 13; rw [hW] at HWW; refine HWW.out.mono ?_; rintro z w10 ⟨rfl, hw10⟩; rw [hw10]; clear hw10 w10)
                | fail)
              go_ret
              exact ⟨rfl, bthen BW.out B9.out⟩
            · obtain ⟨e, r, hWe⟩ : ∃ e r, x.W = e :: r := by
                cases h9 : x.W with
                | nil => exact absurd h9 hW
                | cons e r => exact ⟨e, r, rfl⟩
              have ge := PR.out.inv.ev e (by rw [hWe]; exact List.mem_cons_self)
              have ho := han_ok HC.out HR.out (by omega) PR.out.inv (show e ∈ x.W by rw [hWe]; exact List.mem_cons_self)
              have SL := Lib.hid (step_len (m := m) hWe)
              have hlnb : ln ≤ 1000 := by have := PR.out.inv.le; have := HLN.out; omega
              have hln1 : 1 ≤ ln := by rw [HLN.out, hWe]; simp
              obtain ⟨et, es, en, ed, ep⟩ := e
              obtain ⟨d, rfl⟩ : ∃ d : Nat, ed = (d : Int) := ⟨ed.toNat, by have := ge.dst; simp only at this; omega⟩
              have hd : d < m.nl := by have := ge.dst; simp only at this; omega
              have gs := PR.out.inv.st d hd
              have hB : Bd (beginM (inpOf m (d : Int) (x.S d) ⟨et, es, en, (d : Int), ep⟩)) := by
                have := HL6.out
                exact bd_begin ge.pay (show r64v (d : Int) by unfold r64v; omega) (show r64v (m.nl : Int) by unfold r64v; omega) (show (x.S d).nw ≤ _ by have := gs.nw; omega) gs.w
              obtain ⟨H, hH⟩ : ∃ H, H = hanP m x ⟨et, es, en, (d : Int), ep⟩ := ⟨_, rfl⟩
              have hdn : dnP m x = ⟨⟨et, es, en, (d : Int), ep⟩, H.f⟩ := by unfold dnP; rw [hWe, hH]
              rw [← hH] at ho SL
              have hl4 := ho.n4
              have HSP : Hid (Calls Tryz.prog 10 #[.pointer (some ⟨P, 0, none⟩)] wr fun z w' => z = .returned (.tuple #[.agg #[.float .f64 et, .int .i64 es, .int .i64 en, .int .i64 (d : Int), .int .i64 ep, .int .i64 H.f], .bool true]) ∧ PAt S2 P bm bc bs m xd xp xl xi vS (stepP m x) (q + 1) (q + 1) w' ∧ KpS (T3 P bm bs) wr w') := by
                have h9 := PR.out.step HC.out HR.out (by omega) (by omega) hW
                rw [hdn] at h9
                exact h9
              have HB := Lib.hid hB
              have HH := Lib.hid hH
              obtain ⟨br, rfl⟩ : ∃ br, ar = some ⟨br, 0, none⟩ := by
                rcases OR.out.2 with ⟨e9, e8⟩ | ⟨g9, cap, cur, e9, _⟩
                · have := HL1.out; omega
                · simp only [Value.slice.injEq, true_and] at e9; exact ⟨g9, e9.1⟩
              clear hW hWe ge ho gs hB hH hdn
              have LT := Lib.hid AR.out.lt
              go_upto_region 16 with (go_at_call 10; refine HSP.out.mono ?_; rintro z u2 ⟨rfl, hp2, hk2⟩; have P2 := Lib.hid hp2; have K2 := Lib.hid hk2; clear hp2 hk2 c4)
              have X3 := Lib.hid (heap_alloc_new u2 (.cells #[.float .f64 et, .int .i64 es, .int .i64 en, .int .i64 (d : Int), .int .i64 ep, .int .i64 H.f] 43))
              have B3 := Lib.hid (balloc u2 (.cells #[.float .f64 et, .int .i64 es, .int .i64 en, .int .i64 (d : Int), .int .i64 ep, .int .i64 H.f] 43))
              have TN : Hid (∀ p, p = w.heap.size ∨ wo.heap.size ≤ p → T3 P bm bs p = false) := fun p hp => T3.no (by have := LO.out; have := LT.out; omega) (by have := LO.out; have := LT.out; omega) (by have := LO.out; have := LT.out; omega)
              have XM := Lib.hid ((Below.heap_alloc u2 (.cells #[.float .f64 et, .int .i64 es, .int .i64 en, .int .i64 (d : Int), .int .i64 ep, .int .i64 H.f] 43) _ (Nat.lt_of_lt_of_le (lt_of_block XZ.out) K2.out.size)).trans ((K2.out.blk (lt_of_block XZ.out) (TN.out _ (.inl rfl))).trans XZ.out))
              have O3 := Lib.hid (own_below (own_kept OR.out fun g9 hg => K2.out.blk (own_lt OR.out hg).2 (TN.out _ (.inr (own_lt OR.out hg).1))) B3.out)
              have I3 := Lib.hid (own_sl (own_below (own_kept (WR.out d hd) fun g9 hg => K2.out.blk (own_lt (WR.out d hd) hg).2 (TN.out _ (.inr (own_lt (WR.out d hd) hg).1))) B3.out))
              have P3 := Lib.hid (P2.out.below B3.out)
              have BW3 : Hid (Below w.heap.size w (u2.alloc (.cells #[.float .f64 et, .int .i64 es, .int .i64 en, .int .i64 (d : Int), .int .i64 ep, .int .i64 H.f] 43))) := (BW.out.trans (K2.out.bot BW.out.size (fun p hp => T3.no (by have := LO.out; omega) (by have := LO.out; omega) (by have := LO.out; omega)))).trans (B3.out.mono (Nat.le_trans BW.out.size K2.out.size))
              have MD3 := Lib.hid (HM.out.below BW3.out)
              change Code.wp _ _ _ _ (u2.alloc (.cells #[.float .f64 et, .int .i64 es, .int .i64 en, .int .i64 (d : Int), .int .i64 ep, .int .i64 H.f] 43))
              generalize u2.alloc (.cells #[.float .f64 et, .int .i64 es, .int .i64 en, .int .i64 (d : Int), .int .i64 ep, .int .i64 H.f] 43) = u3 at *
              have S5 : Hid (∀ w', Below u3.heap.size u3 w' → (fun w' => w'.cell? ⟨w.heap.size, 0, none⟩ = some (.int .i64 m.seed) ∧ w'.cell? ⟨w.heap.size, 1, none⟩ = some (.float .f64 m.fin) ∧ w'.cell? ⟨w.heap.size, 2, none⟩ = some (vd) ∧ w'.cell? ⟨w.heap.size, 3, none⟩ = some (vp) ∧ w'.cell? ⟨w.heap.size, 4, none⟩ = some (.slice al m.nl cl) ∧ w'.cell? ⟨w.heap.size, 5, none⟩ = some (vi) ∧ w'.cell? ⟨u2.heap.size, 0, none⟩ = some (.float .f64 et) ∧ w'.cell? ⟨u2.heap.size, 1, none⟩ = some (.int .i64 es) ∧ w'.cell? ⟨u2.heap.size, 2, none⟩ = some (.int .i64 en) ∧ w'.cell? ⟨u2.heap.size, 3, none⟩ = some (.int .i64 (d : Int)) ∧ w'.cell? ⟨u2.heap.size, 4, none⟩ = some (.int .i64 ep) ∧ w'.cell? ⟨br, d * 3, none⟩ = some (g d) ∧ w'.cell? ⟨br, d * 3 + 1, none⟩ = some (.int .i64 (x.S d).sent) ∧ w'.cell? ⟨br, d * 3 + 2, none⟩ = some (.int .i64 (x.S d).dice)) w') := fun w' kk => by
                obtain ⟨p0, p1, p2, p3, p4, p5⟩ := six_cells7 ((kk.block _ (lt_of_block XM.out)).trans XM.out)
                obtain ⟨q0, q1, q2, q3, q4, _⟩ := six_cells7 ((kk.block _ (lt_of_block X3.out)).trans X3.out)
                obtain ⟨a9, c9, e9, _, _, h3⟩ := (own_sl O3.out).below kk
                simp only [Value.slice.injEq, true_and] at e9
                obtain ⟨rfl, rfl⟩ := e9
                obtain ⟨b9, o9, e8, hA⟩ := h3 (by omega)
                simp only [Option.some.injEq, Addr.mk.injEq, and_true] at e8
                obtain ⟨rfl, rfl⟩ := e8
                have r0 := hA.2 d hd 0 (by omega)
                have r1 := hA.2 d hd 1 (by omega)
                have r2 := hA.2 d hd 2 (by omega)
                rw [Nat.zero_add] at r0 r1 r2
                exact ⟨p0, p1, p2, p3, p4, p5, q0, q1, q2, q3, q4, r0, r1, r2⟩
              have HHR : Hid (∀ u', Below u3.heap.size u3 u' → Calls Tryz.prog 17 #[.agg #[.int .i64 m.seed, .float .f64 m.fin, vd, vp, .slice al m.nl cl, vi], .int .i64 (d : Int), .agg #[g d, .int .i64 (x.S d).sent, .int .i64 (x.S d).dice], .agg #[.float .f64 et, .int .i64 es, .int .i64 en, .int .i64 (d : Int), .int .i64 ep]] u' fun z w' => ∃ ax nwx cx sx dx ae ce ee, z = .returned (.tuple #[.agg #[.slice ax nwx cx, .int .i64 sx, .int .i64 dx], .slice ae H.l.n ce, .int .i64 H.f, .int .i64 ee]) ∧ Below u'.heap.size u' w') := by
                intro u' kk
                have h9 := refHandle8_any m vd vp (.slice al m.nl cl) vi (d : Int) (x.S d) (g d) ⟨et, es, en, (d : Int), ep⟩ u' (MD3.out.below kk) (I3.out.below kk) HC.out HR.out.b HB.out
                refine h9.mono ?_
                rintro z w' ⟨vs, ve, rfl, ⟨ax, cx, rfl, _, _, _⟩, ⟨ae, ce, rfl, _, _, _⟩, hb9⟩
                rw [HH.out]
                exact ⟨ax, _, cx, _, _, ae, ce, _, rfl, hb9⟩
              have L5 := Lib.hid (bdrew u3)
              have hd0 : (0 : Int) ≤ (d : Int) := by omega
              have hd1 : (d : Int) < (m.nl : Int) := by omega
              go_cut [14, 15] (fun l f wx => ∃ ae ce, l = .slice ae H.l.n ce ∧ f = .int .i64 H.f ∧ Below u3.heap.size u3 wx)
              case first =>
                refine wp_region_held_drew (S := (fun w' => w'.cell? ⟨w.heap.size, 0, none⟩ = some (.int .i64 m.seed) ∧ w'.cell? ⟨w.heap.size, 1, none⟩ = some (.float .f64 m.fin) ∧ w'.cell? ⟨w.heap.size, 2, none⟩ = some (vd) ∧ w'.cell? ⟨w.heap.size, 3, none⟩ = some (vp) ∧ w'.cell? ⟨w.heap.size, 4, none⟩ = some (.slice al m.nl cl) ∧ w'.cell? ⟨w.heap.size, 5, none⟩ = some (vi) ∧ w'.cell? ⟨u2.heap.size, 0, none⟩ = some (.float .f64 et) ∧ w'.cell? ⟨u2.heap.size, 1, none⟩ = some (.int .i64 es) ∧ w'.cell? ⟨u2.heap.size, 2, none⟩ = some (.int .i64 en) ∧ w'.cell? ⟨u2.heap.size, 3, none⟩ = some (.int .i64 (d : Int)) ∧ w'.cell? ⟨u2.heap.size, 4, none⟩ = some (.int .i64 ep) ∧ w'.cell? ⟨br, d * 3, none⟩ = some (g d) ∧ w'.cell? ⟨br, d * 3 + 1, none⟩ = some (.int .i64 (x.S d).sent) ∧ w'.cell? ⟨br, d * 3 + 2, none⟩ = some (.int .i64 (x.S d).dice))) (by kernel_rfl) ?_ (fun hHeld => ?_)
                · exact S5.out _ L5.out
                change wpAnyH _ _ _ _ _ _ _ _ (World.drew u3)
                generalize u3.drew = u4 at *
                first | refine tq0 0 rfl ?_ | refine tq1 0 rfl ?_
                try go_frame
                first | refine tq0 1 rfl ?_ | refine tq1 1 rfl ?_
                try go_frame
                first | refine tq0 2 rfl ?_ | refine tq1 2 rfl ?_
                try go_frame
                first | refine tq0 3 rfl ?_ | refine tq1 3 rfl ?_
                try go_frame
                first | refine tq0 4 rfl ?_ | refine tq1 4 rfl ?_
                try go_frame
                first | refine tq0 5 rfl ?_ | refine tq1 5 rfl ?_
                try go_frame
                first | refine tq0 6 rfl ?_ | refine tq1 6 rfl ?_
                try go_frame
                first | refine tq0 7 rfl ?_ | refine tq1 7 rfl ?_
                try go_frame
                first | refine tq0 8 rfl ?_ | refine tq1 8 rfl ?_
                try go_frame
                first | refine tq0 9 rfl ?_ | refine tq1 9 rfl ?_
                try go_frame
                first | refine tq0 10 rfl ?_ | refine tq1 10 rfl ?_
                try go_frame
                first | refine tq0 11 rfl ?_ | refine tq1 11 rfl ?_
                try go_frame
                refine wpAnyH_ready (rs := [12, 18]) (by kernel_rfl) (by simp) ?_
                refine AllReadyH.cons (o := ⟨_, _, _, _, _, _⟩) rfl (fun K hK => ?_) (AllReadyH.cons (o := ⟨_, _, _, _, _, _⟩) rfl (fun K hK => ?_) AllReadyH.nil)
                · go_simp
                  go_at_call 17
                  refine (HHR.out _ L5.out).mono ?_
                  rintro z w1 ⟨ax, nwx, cx, sx, dx, ae, ce, ee, rfl, hb1⟩
                  have L6a := Lib.hid (L5.out.trans (hb1.mono L5.out.size))
                  refine hK.out _ _ ?_ (fun hHeld => ?_)
                  · exact S5.out _ L6a.out
                  clear hK K
                  try go_frame
                  clear hb1
                  first | refine tq0 13 rfl ?_ | refine tq1 13 rfl ?_
                  try go_frame
                  first | refine tq0 14 rfl ?_ | refine tq1 14 rfl ?_
                  try go_frame
                  first | refine tq0 15 rfl ?_ | refine tq1 15 rfl ?_
                  try go_frame
                  first | refine tq0 16 rfl ?_ | refine tq1 16 rfl ?_
                  try go_frame
                  first | refine tq0 17 rfl ?_ | refine tq1 17 rfl ?_
                  try go_frame
                  refine wpAnyH_ready (rs := [18]) (by kernel_rfl) (by simp) ?_
                  refine AllReadyH.cons (o := ⟨_, _, _, _, _, _⟩) rfl (fun K hK => ?_) AllReadyH.nil
                  have L6b := Lib.hid (L6a.out.trans ((balloc w1 (.cells #[.slice none 0 0, .int .i64 0, .int .i64 0] 55)).mono L6a.out.size))
                  have X5 := Lib.hid (heap_alloc_new w1 (.cells #[.slice none 0 0, .int .i64 0, .int .i64 0] 55))
                  have HB5 := Lib.hid (show u3.heap.size ≤ w1.heap.size from L6a.out.size)
                  go_simp
                  refine hK.out _ _ ?_ (fun hHeld => ?_)
                  · exact S5.out _ L6b.out
                  clear hK K
                  try go_frame
                  generalize w1.alloc (.cells #[.slice none 0 0, .int .i64 0, .int .i64 0] 55) = w2 at *
                  refine wpAnyH_ready (rs := [19]) (by kernel_rfl) (by simp) ?_
                  refine AllReadyH.cons (o := ⟨_, _, _, _, _, _⟩) rfl (fun K hK => ?_) AllReadyH.nil
                  have L6 := Lib.hid (L6b.out.trans (put_low7 HB5.out [.slice ax nwx cx, .int .i64 sx, .int .i64 dx] 0 w2))
                  have zf : ∀ q9, w2.frozen? ⟨w1.heap.size, q9, none⟩ = false := fun q9 => Lib.frozen_of_heap X5.out q9
                  obtain ⟨z0, z1, z2⟩ := three_cells8 X5.out
                  go_simp
                  change K _ (World.setCells w2 (w1.heap.size) 0 [.slice ax nwx cx, .int .i64 sx, .int .i64 dx])
                  clear z0 z1 z2 zf X5 HB5
                  generalize World.setCells w2 (w1.heap.size) 0 [.slice ax nwx cx, .int .i64 sx, .int .i64 dx] = w6 at *
                  refine hK.out _ _ ?_ (fun hHeld => ?_)
                  · exact S5.out _ L6.out
                  clear hK K
                  try go_frame
                  first | refine tq0 20 rfl ?_ | refine tq1 20 rfl ?_
                  try go_frame
                  first | refine tq0 21 rfl ?_ | refine tq1 21 rfl ?_
                  try go_frame
                  first | refine tq0 22 rfl ?_ | refine tq1 22 rfl ?_
                  try go_frame
                  refine wpAnyH_done (by kernel_rfl) ?_ _
                  clear hHeld
                  go_wp2_with fail
                  go_meet
                  exact ⟨ae, ce, rfl, rfl, L6.out⟩
                · have L6a := Lib.hid (L5.out.trans ((balloc u4 (.cells #[.slice none 0 0, .int .i64 0, .int .i64 0] 55)).mono L5.out.size))
                  have X5 := Lib.hid (heap_alloc_new u4 (.cells #[.slice none 0 0, .int .i64 0, .int .i64 0] 55))
                  have HB5 := Lib.hid (show u3.heap.size ≤ u4.heap.size from L5.out.size)
                  go_simp
                  refine hK.out _ _ ?_ (fun hHeld => ?_)
                  · exact S5.out _ L6a.out
                  clear hK K
                  try go_frame
                  generalize u4.alloc (.cells #[.slice none 0 0, .int .i64 0, .int .i64 0] 55) = w0 at *
                  refine wpAnyH_ready (rs := [12]) (by kernel_rfl) (by simp) ?_
                  refine AllReadyH.cons (o := ⟨_, _, _, _, _, _⟩) rfl (fun K hK => ?_) AllReadyH.nil
                  go_simp
                  go_at_call 17
                  refine (HHR.out _ L6a.out).mono ?_
                  rintro z w2 ⟨ax, nwx, cx, sx, dx, ae, ce, ee, rfl, hb1⟩
                  have L6b := Lib.hid (L6a.out.trans (hb1.mono L6a.out.size))
                  refine hK.out _ _ ?_ (fun hHeld => ?_)
                  · exact S5.out _ L6b.out
                  clear hK K
                  try go_frame
                  have X5 := Lib.hid ((hb1.block _ (lt_of_block X5.out)).trans X5.out)
                  clear hb1
                  first | refine tq0 13 rfl ?_ | refine tq1 13 rfl ?_
                  try go_frame
                  first | refine tq0 14 rfl ?_ | refine tq1 14 rfl ?_
                  try go_frame
                  first | refine tq0 15 rfl ?_ | refine tq1 15 rfl ?_
                  try go_frame
                  first | refine tq0 16 rfl ?_ | refine tq1 16 rfl ?_
                  try go_frame
                  first | refine tq0 17 rfl ?_ | refine tq1 17 rfl ?_
                  try go_frame
                  refine wpAnyH_ready (rs := [19]) (by kernel_rfl) (by simp) ?_
                  refine AllReadyH.cons (o := ⟨_, _, _, _, _, _⟩) rfl (fun K hK => ?_) AllReadyH.nil
                  have L6 := Lib.hid (L6b.out.trans (put_low7 HB5.out [.slice ax nwx cx, .int .i64 sx, .int .i64 dx] 0 w2))
                  have zf : ∀ q9, w2.frozen? ⟨u4.heap.size, q9, none⟩ = false := fun q9 => Lib.frozen_of_heap X5.out q9
                  obtain ⟨z0, z1, z2⟩ := three_cells8 X5.out
                  go_simp
                  change K _ (World.setCells w2 (u4.heap.size) 0 [.slice ax nwx cx, .int .i64 sx, .int .i64 dx])
                  clear z0 z1 z2 zf X5 HB5
                  generalize World.setCells w2 (u4.heap.size) 0 [.slice ax nwx cx, .int .i64 sx, .int .i64 dx] = w6 at *
                  refine hK.out _ _ ?_ (fun hHeld => ?_)
                  · exact S5.out _ L6.out
                  clear hK K
                  try go_frame
                  first | refine tq0 20 rfl ?_ | refine tq1 20 rfl ?_
                  try go_frame
                  first | refine tq0 21 rfl ?_ | refine tq1 21 rfl ?_
                  try go_frame
                  first | refine tq0 22 rfl ?_ | refine tq1 22 rfl ?_
                  try go_frame
                  refine wpAnyH_done (by kernel_rfl) ?_ _
                  clear hHeld
                  go_wp2_with fail
                  go_meet
                  exact ⟨ae, ce, rfl, rfl, L6.out⟩
              case rest =>
                obtain ⟨ae, ce, rfl, rfl, hL⟩ := hcut
                have LX := Lib.hid hL
                clear hL S5 HHR L5
                rename_i wc _
                have P9 := Lib.hid (P3.out.below LX.out)
                have HWW := Lib.hid P9.out.wait
                obtain ⟨la, hla⟩ : ∃ la, la = (stepP m x).W.length := ⟨_, rfl⟩
                rw [← hla] at HWW
                have hne2 : ((la : Int) != (ln : Int) - 1 + (H.l.n : Int)) = false := by have := SL.out; have := HLN.out; simp; omega
                have hff : (H.f != H.f) = false := by simp
                clear hla
                have q5 : wc.cell? ⟨u2.heap.size, 5, none⟩ = some (.int .i64 H.f) := (six_cells7 ((LX.out.block _ (lt_of_block X3.out)).trans X3.out)).2.2.2.2.2
                have FX := Lib.hid ((LX.out.block _ (lt_of_block XM.out)).trans XM.out)
                have FB := Lib.hid (BW3.out.trans (LX.out.mono BW3.out.size))
                have FP : Hid (PAt S3 P bm bc bs m xd xp xl xi vS (stepsP m (q + 1) (newP m)) (q + 1) (q + 1) wc) := by
                  rw [stepsP_succ, ← HXE.out]
                  exact P9.out.unhide HS1.out LT.out.2.1 LT.out.2.2.1 LT.out.2.2.2.1 LT.out.2.2.2.2
                go_wp2_with (go_at_call 13; refine HWW.out.mono ?_; rintro z w10 ⟨rfl, hw10⟩; rw [hw10]; clear hw10 w10)
                go_roundw
                case rel => exact ⟨q + 1, by go_num, by have := HQ.out; omega, FP.out, FX.out, FB.out⟩
                case measure => have := HQ.out; simp [intOf]; omega
      · have d1 : decide ((q : Int) < n % 60) = false := by simp [hlt]
        clear hlt
        go_wp2_with (go_at_call 6; refine (HA.out _).mono ?_; rintro z w9 ⟨rfl, hb9⟩; have B9 := Lib.hid (bthen BL.out hb9); clear hb9)
        go_ret
        exact ⟨rfl, B9.out⟩
  · have h15 : chkN m = 15 := by unfold chkN at hc ⊢; split <;> simp_all
    rw [h15] at HK
    clear hc h15
    go_wp2_with (first
      | (go_at_call 5; refine (HL.out _ B1.out).mono ?_; rintro z w2 ⟨b, rfl, hb2⟩; have B2 := Lib.hid (bthen B1.out hb2); have X2 := Lib.hid ((hb2.block _ (lt_of_block X1.out)).trans X1.out); clear hb2 m0 m1 m2 m3 m4 m5; obtain ⟨m0, m1, m2, m3, m4, m5⟩ := six_cells7 X2.out; cases b)
      | (go_at_call 6; refine (HA.out _).mono ?_; rintro z w9 ⟨rfl, hb9⟩; have B9 := Lib.hid (bthen B2.out hb9); clear hb9)
      | fail)
    · go_ret
      exact ⟨rfl, B9.out⟩
    refine (HK.out _ B2.out).mono ?_
    rintro z w3 ⟨rfl, hb3⟩
    have B3 := Lib.hid (bthen B2.out hb3)
    clear hb3 m0 m1 m2 m3 m4 m5
    go_wp2_with (go_at_call 6; refine (HA.out _).mono ?_; rintro z w9 ⟨rfl, hb9⟩; have B9 := Lib.hid (bthen B3.out hb9); clear hb9)
    go_ret
    exact ⟨rfl, B9.out⟩
theorem plCounts_walk (m : Mdl) (vd vp vl vi : Value) (n : Int) (w : World) (hm : MdlAt m vd vp vl vi w) (hg : Rng m) (hn : (Lit.int .u8 n).wf = true) : Calls Tryz.prog 4 #[mval m vd vp vl vi, .int .u8 n] w fun e w' => e = .returned (.bool true) ∧ Below w.heap.size w w' := by
  obtain ⟨m2, h1, h2, h3, h4⟩ := mdl_clamp hm hg
  have := plCounts_core m2 vd vp vl vi n w h1 h2 (u8_bd9 hn).1 (u8_bd9 hn).2
  unfold mval at this ⊢
  rwa [h3, h4] at this

end Go.Proofs.YthkfaeplmmlnlaaGreat
namespace Go.Proofs.YthkfaeplmmlnlaaGreat
open Go.ChangeShapes Go.WideShapes Go.ChangeAt Go.RowKit Go.Joins
set_option linter.unusedVariables false
set_option maxRecDepth 100000

theorem rows_sl {C : Nat} (hC : 0 < C) {ok : List Value → Prop} {w : World} {a : Option Addr} {len cap : Nat} (h : CellRows C ok w a len cap) :
    ∃ f : Nat → List Value, (∀ i, i < len → (f i).length = C ∧ ok (f i)) ∧ Sl C (fun i j => (f i).getD j undef) len (.slice a len cap) w := by
  rcases h with ⟨rfl, rfl, rfl⟩ | ⟨x, rfl, hl, hm, hc⟩
  · exact ⟨fun _ => [], fun i hi => absurd hi (Nat.not_lt_zero i), none, 0, rfl, Nat.le_refl _, by omega, fun h => absurd h (Nat.lt_irrefl 0)⟩
  · have hex : ∀ i, ∃ cs : List Value, i < len → cs.length = C ∧ ok cs ∧ ∀ j, j < C → w.cell? (x.add (i * C + j)) = cs[j]? := fun i => by
      by_cases hi : i < len
      · obtain ⟨cs, h1, h2, h3⟩ := hc i hi; exact ⟨cs, fun _ => ⟨h1, h2, h3⟩⟩
      · exact ⟨[], fun h => absurd h hi⟩
    obtain ⟨f, hf⟩ : ∃ f : Nat → List Value, ∀ i, i < len → (f i).length = C ∧ ok (f i) ∧ ∀ j, j < C → w.cell? (x.add (i * C + j)) = (f i)[j]? := ⟨fun i => Classical.choose (hex i), fun i => Classical.choose_spec (hex i)⟩
    refine ⟨f, fun i hi => ⟨(hf i hi).1, (hf i hi).2.1⟩, some x, cap, rfl, hl, hm, fun hn => ?_⟩
    have h0 := (hf 0 hn).2.2 0 hC
    rw [Nat.zero_mul, List.getElem?_eq_getElem (by rw [(hf 0 hn).1]; exact hC)] at h0
    obtain ⟨b, off, spot⟩ := x
    have hspot : spot = none := by simpa [Addr.add] using World.cell?_spot h0
    subst hspot
    refine ⟨b, off, rfl, ?_, fun i hi j hj => ?_⟩
    · rw [add_plain] at h0
      rcases Nat.lt_or_ge b w.heap.size with h' | h'
      · exact h'
      · simp [World.cell?, Array.getElem?_eq_none h'] at h0
    · have := (hf i hi).2.2 j hj
      rw [add_plain] at this
      rw [Nat.add_assoc, this, List.getElem?_eq_getElem (by rw [(hf i hi).1]; exact hj)]
      simp [List.getD, List.getElem?_eq_getElem (show j < (f i).length by rw [(hf i hi).1]; exact hj)]

theorem choose_fn {α : Type} {n : Nat} {p : Nat → α → Prop} (d : α) (h : ∀ i, i < n → ∃ x, p i x) : ∃ f : Nat → α, ∀ i, i < n → p i (f i) := by
  have hex : ∀ i, ∃ x, i < n → p i x := fun i => by
    by_cases hi : i < n
    · obtain ⟨x, hx⟩ := h i hi; exact ⟨x, fun _ => hx⟩
    · exact ⟨d, fun h => absurd h hi⟩
  exact ⟨fun i => Classical.choose (hex i), fun i => Classical.choose_spec (hex i)⟩

section
variable {H : Type} {enc : TypeId × Value → H} {W : World}

/-- what a slice's one cell is -/
theorem slice_cell {P : Program} {base fuel : Nat} {t e : TypeId} {c : Value} {x : DataW H × List MemPlace} (ht : P.underlying t = some (.slice e)) (hf : DataW.trod enc P W base (fun _ => true) true fuel t [c] = some x) : ∃ a len cap, c = .slice a len cap := by
  rcases Go.Deep.open_slice ht hf with ⟨hcs, _⟩ | ⟨y, l, cp, m, n, D, Pl, hcs, _⟩
  · exact ⟨none, 0, 0, by simpa using hcs⟩
  · exact ⟨some y, l, cp, by simpa using hcs⟩

end

end Go.Proofs.YthkfaeplmmlnlaaGreat
