/- What must come at any rate (awake). What a pool that is held by nobody does; what was committed stays; a pool without changes. Plain mathematics. Acts (two numbers and a text each) in memory. -/
import Derived.Test.YtmflkkkbahghgaaGreatYZ31
import Derived.Test.YtmflkkkbahghgaaGreatYZ21
import Derived.Test.YtmflkkkbahghgaaGreatYZ27
import Derived.Test.YtmflkkkbahghgaaGreatYZ0
namespace Go.Proofs.YtmflkkkbahghgaaGreat
open Go.RowKit Go.Deep
set_option linter.unusedVariables false
set_option linter.unusedSimpArgs false
set_option maxRecDepth 100000

theorem awf_ok {pa : ByteArray} (hp : pa.size = 232) (a b : Frm) (ha : OkF 10 a) (hb : OkF 10 b) (h : Nat) (hh : h < 2) : OkW 256 1 10 (awS pa [a, b] h) :=
  ⟨by show 3 ≤ 512; omega, Nat.zero_le _, ⟨by show (0 : Int) ≤ 20; omega, by show (20 : Int) ≤ 1000; omega⟩, ⟨by show (1 : Int) ≤ 1; omega, by show (1 : Int) ≤ 1; omega⟩, Nat.le_refl _, ⟨by show 1 ≤ 2; omega, by show 2 ≤ 32; omega⟩, hh, fun i => by
    rcases i with _ | _ | i
    · exact ha
    · exact hb
    · rw [frA_out (by show 2 ≤ i + 2; omega)]; exact .inl rfl, fun i => by
    rcases i with _ | _ | _ | i
    · exact ⟨by show pa.size ≤ 232; omega, fun _ => hp⟩
    · exact ⟨by show pa.size ≤ 232; omega, fun _ => hp⟩
    · exact ⟨by show pa.size ≤ 232; omega, fun _ => hp⟩
    · rw [slA_out (by show 3 ≤ i + 3; omega)]; exact ⟨Nat.zero_le _, fun h => Bool.noConfusion h⟩, fun i => by
    rw [show (awS pa [a, b] h).x.old = [] from rfl, slA_out (by exact Nat.zero_le _)]
    exact ⟨Nat.zero_le _, fun h => Bool.noConfusion h⟩⟩
theorem awF {pa : ByteArray} (hp : pa.size = 232) (l : Int) (hl : 0 ≤ l) (m : Nat) (hm : m ≤ 10) (d us : Bool) : OkF 10 ⟨l, pa, m, d, us⟩ := .inr ⟨hl, hp, hm⟩
theorem aw_new {j : Nat} (hj : j < 3) : newE (awN (fullP sA) j).x sA = 0 ∧ newI (awN (fullP sA) j).x sA = (j : Int) ∧ nwpP (awN (fullP sA) j) sA = awN (fullP sA) (j + 1) := by
  have : j = 0 ∨ j = 1 ∨ j = 2 := by omega
  rcases this with rfl | rfl | rfl
  · exact aw_new0
  · exact aw_new1
  · exact aw_new2
theorem awN_ok {j : Nat} (hj : j ≤ 3) : OkW 256 1 10 (awN (fullP sA) j) := by
  have k0 : OkW 64 1 0 (awN (fullP sA) 0) := bgP_ok (n := 2) (m := 20) (by omega) (by omega) (by omega)
  have k1 := k0.nw sA
  rw [aw_new0.2.2] at k1
  have k2 := k1.nw sA
  rw [aw_new1.2.2] at k2
  have k3 := k2.nw sA
  rw [aw_new2.2.2] at k3
  have : j = 0 ∨ j = 1 ∨ j = 2 ∨ j = 3 := by omega
  rcases this with rfl | rfl | rfl | rfl
  · exact k0.up (by omega) (Int.le_refl _) (by omega)
  · exact k1.up (by omega) (Int.le_refl _) (by omega)
  · exact k2.up (by omega) (Int.le_refl _) (by omega)
  · exact k3.up (by omega) (Int.le_refl _) (by omega)
section
variable {PM : StM} {PF PC : FlM}
set_option maxHeartbeats 1600000 in
theorem awake15_any (I : Sh14 PM PF PC) (u : World) : Calls Tryz.prog 8 #[] u fun r u' => r = .returned (.bool true) ∧ Below u.heap.size u u' := by
  have HI := Lib.hid I
  have HBG := Lib.hid (begun15_any I 2 20 (by omega) (by omega) (by omega) (by omega) u)
  have HFA := Lib.hid (fun w => rfull_any (⟨#[97]⟩ : ByteArray) (by decide) w)
  clear I
  go_enter Tryz.func8, Tryz.ntmps8
  go_wp2_with fail
  refine (HBG.out).mono ?_
  rintro e w1 ⟨D, P, Y, F, c, Q, R, S, rfl, hb, hw⟩
  have BQ := Lib.hid (show Bq PM u.heap.size D P Y F c Q R (awN (fullP sA) 0) (bgP 2 20) S w1 from hb)
  have B1 := Lib.hid hw
  clear hb hw HBG
  go_wp2_with fail
  go_loopw [3] (fun i wr => ∃ j : Nat, j ≤ 3 ∧ i = .int .i64 j ∧ Hid (BqTo PM u.heap.size D P Y F c Q R S (awN (fullP sA) j) (bgP 2 20) w1 wr)) (fun i _ => 3 - (intOf i).toNat)
  case atStart => exact ⟨0, by omega, rfl, Lib.hid BQ.out.same⟩
  case round =>
    obtain ⟨j, hj, rfl, HT⟩ := hrel
    by_cases hlt : j < 3
    · have d1 : decide ((j : Int) < 3) = true := decide_eq_true (by omega)
      have d4 : decide (j < 3) = true := decide_eq_true hlt
      obtain ⟨e1, e2, e3⟩ := aw_new hlt
      have HNW := Lib.hid (HT.out.call fun S2 b2 => pNew_bq HI.out b2 ((awN_ok hj).p (by omega) (by omega) (by omega)) sA (by decide))
      rw [e1, e2, e3] at HNW
      change Hid (Calls _ _ #[_, .string ⟨#[97]⟩] _ _) at HNW
      clear e1 e2 e3
      go_wp2_with fail
      refine (HNW.out).mono ?_
      rintro r w2 ⟨rfl, t2⟩
      have T2 := Lib.hid t2
      clear t2 HNW
      go_wp2_with fail
      go_roundw
      case rel => exact ⟨j + 1, by omega, by go_num, T2⟩
      case measure => simp [intOf]; omega
    · have d1 : decide ((j : Int) < 3) = false := decide_eq_false (by omega)
      have d4 : decide (j < 3) = false := decide_eq_false hlt
      obtain rfl : j = 3 := by omega
      have hpa : (fullP sA).size = 232 := fullP_size (by decide)
      have HPA := Lib.hid hpa
      have HT3 : Hid (BqTo PM u.heap.size D P Y F c Q R S (awS (fullP sA) [noF, noF] 0) (bgP 2 20) w1 wr) := HT
      change Hid (∀ w, Calls _ _ _ w fun r u' => r = .returned (.string (fullP sA)) ∧ _) at HFA
      clear hpa HT
      obtain ⟨pa, hpe⟩ : ∃ pa, pa = fullP sA := ⟨_, rfl⟩
      rw [← hpe] at HT3 HFA HPA
      clear hpe
      have OKP : Hid (∀ (a b : Frm) (h : Nat), OkF 10 a → OkF 10 b → h < 2 → OkP (awS pa [a, b] h)) := Lib.hid (fun a b h ha hb hh => (awf_ok HPA.out a b ha hb h hh).p (by omega) (by omega) (by omega))
      have AF := Lib.hid (fun (l : Int) (hl : 0 ≤ l) (m : Nat) (hm : m ≤ 10) (d us : Bool) => awF HPA.out l hl m hm d us)
      have N0 : Hid (OkF 10 noF) := Lib.hid (.inl rfl)
      have H0 := Lib.hid (HT3.out.call fun S2 b2 => pHold_bq HI.out b2 (OKP.out _ _ _ N0.out N0.out (by omega)) 0)
      rw [aw_h0] at H0
      go_wp2_with fail
      refine (H0.out).mono ?_
      rintro r w2 ⟨rfl, t2⟩
      have H1 := Lib.hid (t2.call fun S2 b2 => pHold_bq HI.out b2 (OKP.out _ _ _ (AF.out 0 (by omega) 1 (by omega) _ _) N0.out (by omega)) 1)
      rw [aw_h1] at H1
      clear t2 H0
      go_wp2_with fail
      refine (H1.out).mono ?_
      rintro r w3 ⟨rfl, t2⟩
      have H2 := Lib.hid (t2.call fun S2 b2 => pHold_bq HI.out b2 (OKP.out _ _ _ (AF.out 0 (by omega) 1 (by omega) _ _) (AF.out 1 (by omega) 1 (by omega) _ _) (by omega)) 2)
      rw [aw_h2] at H2
      clear t2 H1
      go_wp2_with fail
      refine (H2.out).mono ?_
      rintro r w4 ⟨rfl, t2⟩
      have H3 := Lib.hid (t2.call fun S2 b2 => pLet_bq HI.out b2 (OKP.out _ _ _ (AF.out 0 (by omega) 1 (by omega) _ _) (AF.out 1 (by omega) 1 (by omega) _ _) (by omega)) 0)
      rw [aw_l0] at H3
      clear t2 H2
      go_wp2_with fail
      refine (H3.out).mono ?_
      rintro r w5 ⟨rfl, t2⟩
      have H4 := Lib.hid (t2.call fun S2 b2 => pHold_bq HI.out b2 (OKP.out _ _ _ (AF.out 0 (by omega) 0 (by omega) _ _) (AF.out 1 (by omega) 1 (by omega) _ _) (by omega)) 2)
      rw [aw_h3] at H4
      clear t2 H3
      go_wp2_with fail
      refine (H4.out).mono ?_
      rintro r w6 ⟨rfl, t2⟩
      have T6 := Lib.hid t2
      clear t2 H4
      go_wp2_with fail
      refine (HFA.out _).mono ?_
      rintro r w7 ⟨rfl, hb7⟩
      have T7 := Lib.hid (T6.out.trans fun S2 b2 => b2.stays HI.out hb7)
      have HPG : Hid (Calls Tryz.prog 14 #[.pointer (some ⟨Y, 0, none⟩)] w7 fun r u' => ∃ v, r = .returned v ∧ u'.ownsRow w7.heap.size 3 1 v 2 (intV [1, 2]) ∧ Below w7.heap.size w7 u') := Lib.hid (by
        obtain ⟨S2, b2, _⟩ := T7.out
        have := qPages_any HI.out b2.a (by show 2 ≤ 32; omega) b2.sz
        rw [aw_pg] at this
        exact this)
      clear hb7 T6 HFA
      go_wp2_with fail
      refine (HPG.out).mono ?_
      rintro r w8 ⟨v, rfl, o8, b8⟩
      have BB := Lib.hid (balloc w8 (.cells #[.int .i64 1, .int .i64 2] 3))
      have XL := Lib.hid (heap_alloc_new w8 (.cells #[.int .i64 1, .int .i64 2] 3))
      have S1 : Hid (Sl 1 (gW fun i => ([1, 2] : List Int).getD i 0) 2 v (w8.alloc (.cells #[.int .i64 1, .int .i64 2] 3))) := Lib.hid (by
        have h := own_below o8 BB.out
        rw [intV_row] at h
        exact own_sl h)
      have S2 : Hid (Sl 1 (gW fun i => ([1, 2] : List Int).getD i 0) 2 (.slice (some ⟨w8.heap.size, 0, none⟩) 2 2) (w8.alloc (.cells #[.int .i64 1, .int .i64 2] 3))) := Lib.hid (by
        refine ⟨_, _, rfl, Nat.le_refl _, by omega, fun _ => ⟨w8.heap.size, 0, rfl, lt_of_block XL.out, fun i hi j hj => ?_⟩⟩
        obtain rfl : j = 0 := by omega
        rw [Lib.cell_of_heap XL.out]
        have : i = 0 ∨ i = 1 := by omega
        rcases this with rfl | rfl <;> rfl)
      have HIN := Lib.hid (ints5_any _ _ 2 2 _ _ _ S1.out S2.out)
      rw [sameW_refl] at HIN
      have BF : Hid (Below u.heap.size u (w8.alloc (.cells #[.int .i64 1, .int .i64 2] 3))) := Lib.hid (by
        have h1 := B1.out.trans (BqTo.bot HI.out BQ.out T7.out)
        exact bthen (bthen h1 b8) BB.out)
      obtain ⟨av, cv, rfl, hcv⟩ := own_form o8
      clear o8 b8 HPG S1 S2 XL BB
      go_wp2_with fail
      refine (HIN.out).mono ?_
      rintro r w10 ⟨rfl, hb10⟩
      have BF2 := Lib.hid (bthen BF.out hb10)
      clear hb10 HIN
      go_wp2_with fail
      go_ret
      exact ⟨rfl, BF2.out⟩
end
end Go.Proofs.YtmflkkkbahghgaaGreat
namespace Go.Proofs.YtmflkkkbahghgaaGreat
open Go.RowKit
set_option linter.unusedVariables false
set_option linter.unusedSimpArgs false
set_option maxRecDepth 100000

theorem rep_no' (n i : Nat) : frA (List.replicate n noF) i = noF := by
  unfold frA
  rw [List.getD_eq_getElem?_getD, List.getElem?_replicate]
  split <;> rfl
theorem get_ho {p : Plt} (ok : OkP p) (l : Int) : getQ p l = ((if (hoQ p l).2.2 = 0 then lessF (hoQ p l).1 (hoQ p l).2.1 else (hoQ p l).1), (if (hoQ p l).2.2 = 0 then (frA (hoQ p l).1.f (hoQ p l).2.1).b else ByteArray.empty), (hoQ p l).2.2) := by
  unfold getQ
  rw [ho_hol]
  dsimp only
  by_cases he : (hoQ p l).2.2 = 0
  · obtain ⟨i1, i2, i3, i4, i5, i6⟩ := ho_in ok he
    rw [if_pos he, if_pos he, if_pos he, he, let_go i4 i1 i5]
    rfl
  · rw [if_neg he, if_neg he, if_neg he]
theorem put_ho {p : Plt} (ok : OkP p) (l : Int) {s : ByteArray} (hs : ¬ 232 < s.size) : putQE p l s = (hoQ p l).2.2 ∧ putQ p l s = if (hoQ p l).2.2 = 0 then { (hoQ p l).1 with f := (hoQ p l).1.f.set (hoQ p l).2.1 { frA (hoQ p l).1.f (hoQ p l).2.1 with b := fullP s, di := true, us := true, held := (frA (hoQ p l).1.f (hoQ p l).2.1).held - 1 } } else (hoQ p l).1 := by
  unfold putQE putQ
  rw [if_neg hs, if_neg hs, ho_hol]
  dsimp only
  refine ⟨rfl, ?_⟩
  by_cases he : (hoQ p l).2.2 = 0
  · obtain ⟨i1, i2, i3, i4, i5, i6⟩ := ho_in ok he
    rw [if_pos he, if_pos he, set_let hs i4 i1 i5]
  · rw [if_neg he, if_neg he]
/-! ### held by nobody -/
theorem vicP_held (p : Plt) (i : Nat) : (frA (vicP p).1.f i).held = (frA p.f i).held := (vicP_pg p i).2
theorem rm_noh {p : Plt} (hz : NoH p) : NoH (rmQ p).1 := by
  intro i
  have h0 : ∀ i, (frA (bakP (vicP p).1 (vicP p).2).f i).held = 0 := fun i => by rw [(bakP_at _ _ i).2.1, vicP_held]; exact hz i
  unfold rmQ
  split
  · split
    · show (frA (List.set _ _ _) i).held = 0
      rw [frA_set]
      split
      · rfl
      · exact h0 i
    · exact h0 i
  · exact hz i
theorem br_noh {p : Plt} (hz : NoH p) (l : Int) : NoH (brR p l).1 := by
  intro i
  unfold brR
  split
  · split
    · show (frA (List.set _ _ _) i).held = 0
      rw [frA_set]
      split
      · rfl
      · exact rm_noh hz i
    · exact rm_noh hz i
  · exact hz i
theorem ho_held {p : Plt} (ok : OkP p) (hz : NoH p) (l : Int) : (∀ i, i ≠ (hoQ p l).2.1 → (frA (hoQ p l).1.f i).held = 0) ∧ ((hoQ p l).2.2 = 0 → (frA (hoQ p l).1.f (hoQ p l).2.1).held = 1) ∧ ((hoQ p l).2.2 ≠ 0 → NoH (hoQ p l).1) := by
  have hone : ∀ (q : Plt) (k : Nat), NoH q → (∀ i, i ≠ k → (frA (onceF q k).f i).held = 0) ∧ (k < q.f.length → (frA (onceF q k).f k).held = 1) := fun q k hq => by
    refine ⟨fun i hi => ?_, fun hk => ?_⟩
    · show (frA (List.set _ _ _) i).held = 0
      rw [frA_set, if_neg (fun e => hi e.1)]
      exact hq i
    · show (frA (List.set _ _ _) k).held = 1
      rw [frA_set, if_pos ⟨rfl, hk⟩]
      show (frA q.f k).held + 1 = 1
      rw [hq k]
  unfold hoQ
  by_cases c1 : fndF p.f l < p.f.length
  · rw [if_pos c1]
    have := hone p (fndF p.f l) hz
    exact ⟨this.1, fun _ => this.2 c1, fun h => absurd rfl h⟩
  · rw [if_neg c1]
    by_cases he : (brR p l).2.2 = 0
    · rw [if_pos he]
      have := hone (brR p l).1 (brR p l).2.1 (br_noh hz l)
      refine ⟨this.1, fun _ => this.2 ?_, fun h => absurd rfl h⟩
      rcases br_in he with h9 | h9
      · rw [h9.2.1]; exact h9.1
      · exact absurd ok.pay h9
    · rw [if_neg he]
      exact ⟨fun i _ => br_noh hz l i, fun h => absurd h he, fun _ => br_noh hz l⟩
theorem get_noh {p : Plt} (ok : OkP p) (hz : NoH p) (l : Int) : NoH (getQ p l).1 := by
  rw [get_ho ok l]
  obtain ⟨h1, h2, h3⟩ := ho_held ok hz l
  intro i
  dsimp only
  by_cases he : (hoQ p l).2.2 = 0
  · rw [if_pos he]
    show (frA (List.set _ _ _) i).held = 0
    rw [frA_set]
    split
    · next e =>
      show (frA (hoQ p l).1.f (hoQ p l).2.1).held - 1 = 0
      rw [h2 he]
    · next e =>
      by_cases c : i = (hoQ p l).2.1
      · have := (ho_in ok he).1
        exact absurd ⟨c, this⟩ e
      · exact h1 i c
  · rw [if_neg he]
    exact h3 he i
theorem put_noh {p : Plt} (ok : OkP p) (hz : NoH p) (l : Int) (s : ByteArray) : NoH (putQ p l s) := by
  by_cases hs : 232 < s.size
  · unfold putQ; rw [if_pos hs]; exact hz
  · rw [(put_ho ok l hs).2]
    obtain ⟨h1, h2, h3⟩ := ho_held ok hz l
    intro i
    by_cases he : (hoQ p l).2.2 = 0
    · rw [if_pos he]
      show (frA (List.set _ _ _) i).held = 0
      rw [frA_set]
      split
      · next e =>
        show (frA (hoQ p l).1.f (hoQ p l).2.1).held - 1 = 0
        rw [h2 he]
      · next e =>
        by_cases c : i = (hoQ p l).2.1
        · have := (ho_in ok he).1
          exact absurd ⟨c, this⟩ e
        · exact h1 i c
    · rw [if_neg he]
      exact h3 he i
theorem bas_held : ∀ (k i : Nat) (p : Plt) (j : Nat), (frA (basP k i p).1.f j).held = (frA p.f j).held
  | 0, _, _, _ => rfl
  | k + 1, i, p, j => by
    simp only [basP]
    split
    · rw [bas_held k (i + 1) (bakP p i) j]
      exact (bakP_at p i j).2.1
    · exact (bakP_at p i j).2.1
theorem pin_no {p : Plt} (hz : NoH p) (l : Int) : pinE p l = 16 := if_neg fun h => by have := hz (fndF p.f l); omega
theorem do_noh {p : Plt} (ok : OkP p) (hz : NoH p) (kind l : Int) (s : ByteArray) (hk : kind ≠ 2) : NoH (doQ p kind l s) := by
  have HK := Lib.hid hk
  clear hk
  unfold doQ
  split
  · exact hz
  · split
    · next h => exact absurd h HK.out
    · split
      · unfold letP
        rw [if_neg (by rw [pin_no hz]; decide)]
        exact hz
      · split
        · unfold setP
          rw [if_neg]
          · exact hz
          · unfold setE
            rw [pin_no hz]
            split <;> decide
        · split
          · exact get_noh ok hz l
          · split
            · unfold drpP
              split
              · intro i
                show (frA (if _ then _ else _ : List Frm) i).held = 0
                split
                · rw [frA_set]
                  split
                  · rfl
                  · exact hz i
                · exact hz i
              · exact hz
            · split
              · have hb : ∀ i, (frA (bakP p l.toNat).f i).held = 0 := fun i => by rw [(bakP_at p l.toNat i).2.1]; exact hz i
                unfold evcP
                split
                · exact hz
                · split
                  · exact hz
                  · split
                    · exact hz
                    · split
                      · intro i
                        show (frA (List.set _ _ _) i).held = 0
                        rw [frA_set]
                        split
                        · rfl
                        · exact hb i
                      · exact hb
              · split
                · have hb : ∀ i, (frA (basP p.f.length 0 p).1.f i).held = 0 := fun i => by rw [bas_held]; exact hz i
                  unfold cmtP
                  split
                  · exact hz
                  · split
                    · exact hb
                    · exact hb
                · split
                  · intro i
                    show (frA (List.replicate _ _) i).held = 0
                    rw [rep_no']
                    rfl
                  · exact put_noh ok hz l s
/-! ### what was committed stays, but for a commit -/
theorem bak_old (p : Plt) (i : Nat) : (bakP p i).x.old = p.x.old := (bakP_x p i).2.1
theorem rm_old (p : Plt) : (rmQ p).1.x.old = p.x.old := by
  have h : (bakP (vicP p).1 (vicP p).2).x.old = p.x.old := by rw [bak_old, vicP_x]
  unfold rmQ
  split
  · split
    · exact h
    · exact h
  · rfl
theorem ho_old (p : Plt) (l : Int) : (hoQ p l).1.x.old = p.x.old := by
  have hb : (brR p l).1.x.old = p.x.old := by
    unfold brR
    split
    · split
      · exact rm_old p
      · exact rm_old p
    · rfl
  unfold hoQ
  split
  · rfl
  · split
    · exact hb
    · exact hb
theorem do_old {p : Plt} (ok : OkP p) (kind l : Int) (s : ByteArray) (hk : kind ≠ 13) : (doQ p kind l s).x.old = p.x.old := by
  have HK := Lib.hid hk
  clear hk
  unfold doQ
  split
  · unfold nwpP newX
    split <;> rfl
  · split
    · rw [ho_hol]; exact ho_old p l
    · split
      · unfold letP
        split <;> rfl
      · split
        · unfold setP
          split <;> rfl
        · split
          · rw [get_ho ok l]
            dsimp only
            split
            · exact ho_old p l
            · exact ho_old p l
          · split
            · unfold drpP
              split
              · show (dropSX p.x l).old = _
                unfold dropSX
                split <;> rfl
              · rfl
            · split
              · unfold evcP
                split
                · rfl
                · split
                  · rfl
                  · split
                    · rfl
                    · split
                      · exact bak_old p _
                      · exact bak_old p _
              · split
                · next h => exact absurd h HK.out
                · split
                  · rfl
                  · by_cases hs : 232 < s.size
                    · unfold putQ; rw [if_pos hs]
                    · rw [(put_ho ok l hs).2]
                      split
                      · exact ho_old p l
                      · exact ho_old p l
/-! ### a pool that changes nothing -/
/-- its store says o, its frames too, and nobody holds one -/
structure Cl (o : List Slt) (p : Plt) : Prop where
  now : p.x.now = o
  nh : NoH p
  di : ∀ i, (frA p.f i).di = false
  b : ∀ i, 0 ≤ (frA p.f i).pg → inS o (frA p.f i).pg ∧ (frA p.f i).b = (slA o (frA p.f i).pg.toNat).b
theorem vicP_di (p : Plt) (i : Nat) : (frA (vicP p).1.f i).di = (frA p.f i).di ∧ (frA (vicP p).1.f i).b = (frA p.f i).b := ⟨(vicP_at p i).2.2.2, (vicP_at p i).2.2.1⟩
theorem cl_bak {q : Plt} {i : Nat} (h : (frA q.f i).di = false) : bakE q i = 0 ∧ bakP q i = q := by
  unfold bakE bakP
  rw [h]
  exact ⟨if_neg (by decide), if_neg (by decide)⟩
theorem cl_ho {o : List Slt} {p : Plt} (ok : OkP p) (h : Cl o p) (l : Int) : ((hoQ p l).2.2 = if inS o l then 0 else 3) ∧ (hoQ p l).1.x.now = o ∧ (∀ i, (frA (hoQ p l).1.f i).di = false) ∧ (∀ i, 0 ≤ (frA (hoQ p l).1.f i).pg → inS o (frA (hoQ p l).1.f i).pg ∧ (frA (hoQ p l).1.f i).b = (slA o (frA (hoQ p l).1.f i).pg.toNat).b) ∧ ((hoQ p l).2.2 = 0 → (frA (hoQ p l).1.f (hoQ p l).2.1).pg = l) := by
  have once : ∀ (q : Plt) (k : Nat), (∀ i, (frA q.f i).di = false) → (∀ i, 0 ≤ (frA q.f i).pg → inS o (frA q.f i).pg ∧ (frA q.f i).b = (slA o (frA q.f i).pg.toNat).b) → (∀ i, (frA (onceF q k).f i).di = false) ∧ (∀ i, 0 ≤ (frA (onceF q k).f i).pg → inS o (frA (onceF q k).f i).pg ∧ (frA (onceF q k).f i).b = (slA o (frA (onceF q k).f i).pg.toNat).b) ∧ (frA (onceF q k).f k).pg = (frA q.f k).pg := fun q k h1 h2 => by
    have e : ∀ i, (frA (onceF q k).f i).di = (frA q.f i).di ∧ (frA (onceF q k).f i).pg = (frA q.f i).pg ∧ (frA (onceF q k).f i).b = (frA q.f i).b := fun i => by
      unfold onceF
      dsimp only
      rw [frA_set]
      split
      · next c => rw [c.1]; exact ⟨rfl, rfl, rfl⟩
      · exact ⟨rfl, rfl, rfl⟩
    exact ⟨fun i => by rw [(e i).1]; exact h1 i, fun i hi => by rw [(e i).2.1] at hi ⊢; rw [(e i).2.2]; exact h2 i hi, (e k).2.1⟩
  unfold hoQ
  by_cases c1 : fndF p.f l < p.f.length
  · rw [if_pos c1]
    have hh := fndF_has c1
    have hin : inS o l := by
      have := (h.b (fndF p.f l) (by rw [hh.2]; exact hh.1)).1
      rwa [hh.2] at this
    obtain ⟨o1, o2, o3⟩ := once p (fndF p.f l) h.di h.b
    refine ⟨(if_pos hin).symm, h.now, o1, o2, fun _ => by rw [o3]; exact hh.2⟩
  · rw [if_neg c1]
    by_cases c2 : inS o l
    · have hv : (vicP p).2 < p.f.length := vicP_found ok.hand ok.hand (h.nh _)
      have hdi : (frA (vicP p).1.f (vicP p).2).di = false := by rw [(vicP_di p _).1]; exact h.di _
      obtain ⟨b1, b2⟩ := cl_bak hdi
      have hr : rmQ p = ({ (vicP p).1 with f := (vicP p).1.f.set (vicP p).2 noF }, (vicP p).2, 0) := by
        unfold rmQ
        rw [if_pos hv, if_pos b1, b2]
      have hvl : (vicP p).1.f.length = p.f.length := vicP_len p
      have eb : brR p l = ({ (vicP p).1 with f := (vicP p).1.f.set (vicP p).2 ⟨l, (slA o l.toNat).b, 0, false, false⟩ }, (vicP p).2, 0) := by
        unfold brR
        rw [h.now, if_pos c2, hr]
        dsimp only
        rw [if_pos rfl, List.set_set]
      have fx : ∀ i, frA ((vicP p).1.f.set (vicP p).2 ⟨l, (slA o l.toNat).b, 0, false, false⟩) i = if i = (vicP p).2 then ⟨l, (slA o l.toNat).b, 0, false, false⟩ else frA (vicP p).1.f i := fun i => by
        rw [frA_set]
        by_cases c : i = (vicP p).2
        · rw [if_pos ⟨c, by rw [hvl]; exact hv⟩, if_pos c]
        · rw [if_neg (fun q => c q.1), if_neg c]
      rw [eb]
      dsimp only
      rw [if_pos rfl]
      obtain ⟨o1, o2, o3⟩ := once { (vicP p).1 with f := (vicP p).1.f.set (vicP p).2 ⟨l, (slA o l.toNat).b, 0, false, false⟩ } (vicP p).2 (fun i => by
        dsimp only
        rw [fx]
        split
        · rfl
        · rw [(vicP_di p i).1]; exact h.di i) (fun i hi => by
        dsimp only at hi ⊢
        rw [fx] at hi ⊢
        split
        · exact ⟨c2, rfl⟩
        · next c =>
          rw [if_neg c] at hi
          rw [(vicP_pg p i).1] at hi ⊢
          rw [(vicP_di p i).2]
          exact h.b i hi)
      refine ⟨(if_pos c2).symm, ?_, o1, o2, fun _ => ?_⟩
      · show (vicP p).1.x.now = o
        rw [vicP_x]; exact h.now
      · dsimp only at o3 ⊢
        rw [o3, fx, if_pos rfl]
    · have eb : brR p l = (p, p.f.length, 3) := by
        unfold brR
        rw [h.now, if_neg c2]
      rw [eb]
      dsimp only
      rw [if_neg (show ¬ (3 : Int) = 0 by decide)]
      exact ⟨(if_neg c2).symm, h.now, h.di, h.b, fun h => absurd (show (3 : Int) = 0 from h) (by decide)⟩
/-- what such a pool's Get answers -/
theorem cl_get {o : List Slt} {p : Plt} (ok : OkP p) (h : Cl o p) (l : Int) : (getQ p l).2.2 = (if inS o l then 0 else 3) ∧ (inS o l → (getQ p l).2.1 = (slA o l.toNat).b) ∧ Cl o (getQ p l).1 := by
  obtain ⟨h1, h2, h3, h4, h5⟩ := cl_ho ok h l
  have hn := get_noh ok h.nh l
  rw [get_ho ok l] at hn ⊢
  dsimp only at hn ⊢
  refine ⟨h1, fun hin => ?_, ?_⟩
  · have he : (hoQ p l).2.2 = 0 := by rw [h1, if_pos hin]
    rw [if_pos he]
    have hp := h5 he
    have := (h4 (hoQ p l).2.1 (by rw [hp]; exact hin.1)).2
    rwa [hp] at this
  · by_cases he : (hoQ p l).2.2 = 0
    · rw [if_pos he] at hn ⊢
      have e : ∀ i, (frA (lessF (hoQ p l).1 (hoQ p l).2.1).f i).di = (frA (hoQ p l).1.f i).di ∧ (frA (lessF (hoQ p l).1 (hoQ p l).2.1).f i).pg = (frA (hoQ p l).1.f i).pg ∧ (frA (lessF (hoQ p l).1 (hoQ p l).2.1).f i).b = (frA (hoQ p l).1.f i).b := fun i => by
        unfold lessF
        dsimp only
        rw [frA_set]
        split
        · next c => rw [c.1]; exact ⟨rfl, rfl, rfl⟩
        · exact ⟨rfl, rfl, rfl⟩
      exact ⟨h2, hn, fun i => by rw [(e i).1]; exact h3 i, fun i hi => by rw [(e i).2.1] at hi ⊢; rw [(e i).2.2]; exact h4 i hi⟩
    · rw [if_neg he] at hn ⊢
      exact ⟨h2, hn, h3, h4⟩
theorem cl_abo (p : Plt) : Cl p.x.old (aboP p) := by
  have e : ∀ i, frA (aboP p).f i = noF := fun i => rep_no' _ i
  exact ⟨rfl, fun i => by rw [e]; rfl, fun i => by rw [e]; rfl, fun i hi => by rw [e] at hi; exact absurd hi (by decide)⟩
theorem noh_heldF {p : Plt} (h : NoH p) : heldF p.f = 0 := cntB_none fun i _ => held_of.2 (h i)
end Go.Proofs.YtmflkkkbahghgaaGreat
namespace Go.Proofs.YtmflkkkbahghgaaGreat
open Go.RowKit
set_option linter.unusedVariables false

/-- a slice of acts that lies below base -/
structure SaAt (base n : Nat) (A : Nat → Int × Int × ByteArray) (ao : Option Addr) (cap : Nat) (u : World) : Prop where
  c : n ≤ cap ∧ cap ≤ 9223372036854775807
  x : 0 < n → ∃ B o, ao = some ⟨B, o, none⟩ ∧ B < base ∧ ∀ i, i < n → u.cell? ⟨B, o + i * 3, none⟩ = some (.int .i64 (A i).1) ∧ u.cell? ⟨B, o + i * 3 + 1, none⟩ = some (.int .i64 (A i).2.1) ∧ u.cell? ⟨B, o + i * 3 + 2, none⟩ = some (.string (A i).2.2)
theorem SaAt.below {base n : Nat} {A : Nat → Int × Int × ByteArray} {ao : Option Addr} {cap : Nat} {u u2 : World} (h : SaAt base n A ao cap u) (k : Below base u u2) : SaAt base n A ao cap u2 :=
  ⟨h.c, fun hn => by
    obtain ⟨B, o, e, hB, hc⟩ := h.x hn
    exact ⟨B, o, e, hB, fun i hi => ⟨(World.cell?_of_block (k.block B hB)).trans (hc i hi).1, (World.cell?_of_block (k.block B hB)).trans (hc i hi).2.1, (World.cell?_of_block (k.block B hB)).trans (hc i hi).2.2⟩⟩⟩

end Go.Proofs.YtmflkkkbahghgaaGreat
