/- The program's store writes a logical page, there or not. Bytes as cells, and as numbers. A strings.Builder in a block of the call's own: what stays, what is new. The program's root: how many parts are needed, which roots may be, numbers of two bytes laid and read. -/
import Derived.Deep.RegionHeld3
import Derived.Test.YtmflkkkbahghgaaGreatYZ16
import Derived.Test.YtmflkkkbahghgaaGreatYZ0
import Derived.Test.YtmflkkkbahghgaaGreatYZ6
import Derived.Test.YtmflkkkbahghgaaGreatYZ12
import Derived.Test.YtmflkkkbahghgaaGreatYZ7
import Derived.Test.YtmflkkkbahghgaaGreatYZ13
namespace Go.Proofs.YtmflkkkbahghgaaGreat
open Go.RowKit Go.Deep
set_option linter.unusedVariables false
set_option linter.unusedSimpArgs false
set_option maxRecDepth 100000

theorem cnt0_first {K : Nat → Nat} {n : Nat} : firstN K n < n ↔ 1 ≤ cntF K 0 n := by
  constructor
  · intro h
    have h0 := firstN_some h
    have : ∀ m, firstN K n < m → 1 ≤ cntF K 0 m := fun m => by
      induction m with
      | zero => intro h; omega
      | succ m ih =>
        intro hm
        rw [cntF_succ]
        by_cases c : firstN K n < m
        · have := ih c; omega
        · have e : m = firstN K n := by omega
          rw [e, if_pos h0]; omega
    exact this n h
  · intro h
    rcases Nat.lt_or_ge (firstN K n) n with c | c
    · exact c
    · exfalso
      have : ∀ m, m ≤ firstN K n → cntF K 0 m = 0 := fun m => by
        induction m with
        | zero => intro _; rfl
        | succ m ih =>
          intro hm
          rw [cntF_succ, ih (by omega), if_neg (firstN_ahead (K := K) (n := n) m (by omega))]
      have := this n c
      omega
section
variable {base D P a : Nat} {x : Stt} {S : Nat → Bool} {M bS bm cS : Nat} {d : Dk} {n : Nat} {K : Nat → Nat} {tb : Nat → Int} {ot parts : List Int} {slot : Nat} {vp : Value} {SK : Nat → Bool} {u u2 : World}
/-- no page is free -/
theorem PmAt.full (h : PmAt base D P x a M bS bm cS d n K tb ot parts slot vp SK u) : firstN K n < n ↔ ¬ freeS x.many x.now x.old < 1 := by
  rw [cnt0_first]
  have := h.h.tab.c0
  rw [h.h.mn.1]
  omega
/-- a page of the table that is there: fresh, or in use -/
theorem PmAt.kind (h : PmAt base D P x a M bS bm cS d n K tb ot parts slot vp SK u) {l : Nat} (hl : isS x.now l = true) : K (tb l).toNat = if (slA x.now l).fr then 2 else 1 := by
  cases c : (slA x.now l).fr with
  | true => exact h.h.tab.fresh l hl c
  | false =>
    obtain ⟨t1, t2⟩ := h.h.tab.same l hl c
    rw [t2, h.h.tab.left l t1]
    have : leftS x.now x.old l = false := by unfold leftS; rw [hl, c, t1]; rfl
    rw [this]; rfl
def wrX (x : Stt) (l : Nat) (s : ByteArray) : Stt := { x with now := wrS x.now l s, cl := x.cl + 64 }
def canW (x : Stt) (l : Nat) : Prop := (isS x.now l = true ∧ (slA x.now l).fr = true) ∨ ¬ freeS x.many x.now x.old < 1
instance (x : Stt) (l : Nat) : Decidable (canW x l) := by unfold canW; infer_instance
theorem PmAt.wrote {s : ByteArray} {l : Nat} {z : Int} {d2 : Dk} {K2 : Nat → Nat} {SK2 : Nat → Bool} (h : PmAt base D P x a M bS bm cS d n K tb ot parts slot vp SK u) (hm : StoM base D P M bS bm cS d2 n K2 x.ep slot (upd tb l z) ot parts vp SK2 u2) (hh : HoldP d2 (wrX x l s) n K2 (upd tb l z) ot parts slot) (hc : d2.calls ≤ d.calls + 4) (ha : d2.arm ≤ d.arm) (hn : d2.n = d.n) :
    PmAt base D P (wrX x l s) d2.arm M bS bm cS d2 n K2 (upd tb l z) ot parts slot vp SK2 u2 :=
  ⟨hm, hh, rfl, by have := h.cl; show d2.calls ≤ x.cl + 64; omega, by rw [hn]; exact h.dn, by have := h.ab; omega, h.sl, by rw [hn]; exact h.nm⟩
/-- what write leaves -/
def WrO (base D P : Nat) (x : Stt) (a : Nat) (S : Nat → Bool) (l : Nat) (s : ByteArray) (r : Ending) (u u' : World) : Prop :=
  ∃ e, r = .returned (.int .i64 e) ∧ ∃ S2, NewB S S2 u ∧ KpS S u u' ∧
    ((e = 0 ∧ canW x l ∧ ∃ a2, (a = 0 → a2 = 0) ∧ PMx base D P (wrX x l s) a2 S2 u') ∨
     (e = 11 ∧ ¬ canW x l ∧ PMx base D P x a S2 u') ∨
     (e = 13 ∧ a ≠ 0 ∧ PFx base D x x.old S2 u'))
theorem inP3 {k : Nat} (h : P3 D bS bm k = true) : stoS P D bS bm SK vp k = true := stoS_iff.2 (.inr (.inl h))
theorem inSK {k : Nat} (h : SK k = true) : stoS P D bS bm SK vp k = true := stoS_iff.2 (.inr (.inr (.inl h)))
theorem upd_same {tb : Nat → Int} {l : Nat} : upd tb l (tb l) = tb := by
  funext k
  unfold upd
  split
  · rename_i e; rw [e]
  · rfl
set_option maxHeartbeats 1600000 in
theorem swr_any (h : PmAt base D P x a M bS bm cS d n K tb ot parts slot vp SK u) (hx : OkX x) {l : Nat} (hl : l < 512) {s : ByteArray} (hs : s.size ≤ 232) : Calls Tryz.prog 103 #[.pointer (some ⟨P, 0, none⟩), .int .i64 (l : Int), .string s] u fun r u' => WrO base D P x a (stoS P D bS bm SK vp) l s r u u' := by
  have hn := h.n_le
  have hbd := h.bd hx
  have hcl : d.calls < 950000 := by have := h.cl; have := hx.cl; omega
  have H := Lib.hid h
  have HX := Lib.hid hx
  have HS := Lib.hid hs
  have HL := Lib.hid hl
  have HB := Lib.hid (And.intro h.dn (And.intro hcl h.ab))
  obtain ⟨old, hold⟩ : ∃ old, tb l = old := ⟨_, rfl⟩
  have HO := Lib.hid hold
  have hat := h.at_ l
  rw [hold] at hat
  have HAT := Lib.hid hat
  have HFF := Lib.hid (pfresh12_any (K := K) (S := SK) (base := base) (P := M) (u := u) h.m.mp hn old)
  have hc1 := h.m.now.cell hl
  rw [hold] at hc1
  have hc2 : u.cell? ⟨P, l + 1, none⟩ = some (.int .i64 old) := by rw [Nat.add_comm]; exact hc1
  obtain ⟨c0, c3, c4, c5, c6, c7, cf⟩ := h.m.look
  have g0 : (0 : Int) ≤ (l : Int) := by omega
  have g1 : (l : Int) < 512 := by omega
  have hkind := fun (hl : isS x.now l = true) => h.kind hl
  rw [hold] at hkind
  have HKD := Lib.hid hkind
  clear h hold hat hkind hx hs hl hbd hcl c0 c4 c5 c6 c7 cf
  go_enter Tryz.func103, Tryz.ntmps103
  by_cases hfr : isS x.now l = true ∧ (slA x.now l).fr = true
  · -- it is fresh: it stays where it is
    have hob := HAT.out.2.2.1 hfr.1
    have hK2 : K old.toNat = 2 := by have := HKD.out hfr.1; rw [hfr.2] at this; exact this
    have df : decide (inF n old ∧ K old.toNat = 2) = true := decide_eq_true ⟨⟨hob.1, hob.2⟩, hK2⟩
    rw [df] at HFF
    have HOB := Lib.hid hob
    have HK2 := Lib.hid hK2
    have HFR := Lib.hid hfr
    clear hfr hob hK2 df
    go_wp2_with fail
    refine (HFF.out).mono ?_
    rintro e w1 ⟨rfl, hb⟩
    have M1 := Lib.hid (H.out.m.below hb)
    have B1 := Lib.hid hb
    have HLAY := Lib.hid (slay_any M1.out H.out.h HB.out.1 HB.out.2.1 HB.out.2.2 HX.out old 2 s (put_ok HX.out HOB.out.1 HS.out) HOB.out.2 (.inr HK2.out) x.old)
    clear hb HFF hc1 hc2 c3
    go_wp2_with fail
    refine (HLAY.out).mono ?_
    rintro e w2 ⟨ee, rfl, kd, hcase⟩
    have FIN : Hid (WrO base D P x a (stoS P D bS bm SK vp) l s (.returned (.int .i64 ee)) u w2) := Lib.hid (by
      have kk : KpS (stoS P D bS bm SK vp) u w2 := (KpS.of B1.out).trans (kd.mono fun q hq => inP3 hq)
      rcases hcase with ⟨rfl, he, hm⟩ | ⟨rfl, he, ha, hd, hf, hc4, hn4⟩
      · refine ⟨0, rfl, stoS P D bS bm SK vp, fun k hk => .inl hk, kk, .inl ⟨rfl, .inl HFR.out, (writeP d ⟨old, x.ep + 1, 2, s⟩).1.arm, fun e => ?_, ?_⟩⟩
        · have := (writeP_bd d ⟨old, x.ep + 1, 2, s⟩).2; have := H.out.arm; omega
        · have eo := HO.out
          subst eo
          refine ⟨M, bS, bm, cS, _, n, K, upd tb l (tb l), ot, parts, slot, vp, SK, H.out.wrote (by rw [upd_same]; exact hm) ?_ (writeP_bd d _).1 (writeP_bd d _).2 (writeP_n _ _), rfl⟩
          rw [upd_same]
          exact H.out.h.again HFR.out.1 HFR.out.2 HS.out (put_ok HX.out HOB.out.1 HS.out) he _
      · exact ⟨13, rfl, P3 D bS bm, fun k hk => .inl (inP3 hk), kk, .inr (.inr ⟨rfl, fun e => ha (by rw [H.out.arm]; exact e), bS, bm, cS, _, hd.dk, hf, by have := H.out.cl; omega, hn4, by rw [writeP_n]; exact H.out.h.mn.1.trans H.out.nm, H.out.h.tab.still, H.out.h.tab.still, rfl⟩)⟩)
    clear kd hcase HLAY
    go_wp2_with fail
    go_ret
    exact FIN.out
  · have hnf : isS x.now l = true → K old.toNat = 1 := fun hl => by
      have := HKD.out hl
      cases c : (slA x.now l).fr with
      | false => rw [c] at this; exact this
      | true => exact absurd ⟨hl, c⟩ hfr
    have df : decide (inF n old ∧ K old.toNat = 2) = false := decide_eq_false fun ⟨hi, hk⟩ => by
      have hm1 : old ≠ -1 := by have := hi.1; omega
      have := hnf (HAT.out.1.2 hm1)
      rw [hk] at this; cases this
    rw [df] at HFF
    have HNF := Lib.hid hnf
    have HFR := Lib.hid hfr
    clear hnf hfr df
    go_wp2_with fail
    refine (HFF.out).mono ?_
    rintro e w1 ⟨rfl, hb⟩
    have M1 := Lib.hid (H.out.m.below hb)
    have B1 := Lib.hid hb
    clear hb HFF hc1 hc2 c3
    obtain ⟨c0, c3, c4, c5, c6, c7, cf⟩ := M1.out.look
    have HT := Lib.hid (sto_take M1.out hn)
    by_cases hp : firstN K n < n
    · have e1 : takeI n K = (firstN K n : Int) := by unfold takeI; rw [if_pos hp]
      have e2 : takeE n K = 0 := by unfold takeE; rw [if_pos hp]
      have e3 : takeF n K = fupd K (firstN K n) 2 := by unfold takeF; rw [if_pos hp]
      have hk0 := firstN_some hp
      have HCAN : Hid (canW x l) := Lib.hid (.inr (H.out.full.1 hp))
      rw [e1, e2, e3] at HT
      clear e1 e2 e3
      obtain ⟨p, hpe⟩ : ∃ p, p = firstN K n := ⟨_, rfl⟩
      rw [← hpe] at HT hk0 hp
      have HK0 := Lib.hid hk0
      have HP := Lib.hid hp
      clear hk0 hp hpe c0 c4 c5 c6 c7 cf
      go_wp2_with fail
      refine (HT.out).mono ?_
      rintro e w2 ⟨rfl, SK2, hs2, kk, mm⟩
      have M2 := Lib.hid mm
      have N2 : Hid (NewB (stoS P D bS bm SK vp) (stoS P D bS bm SK2 vp) u) := Lib.hid (NewB.then (S2 := stoS P D bS bm SK vp) (fun k hk => .inl hk) (newB_map hs2) B1.out.size)
      have K2 : Hid (KpS (stoS P D bS bm SK vp) u w2) := Lib.hid ((KpS.of B1.out).trans (kk.mono fun q hq => inSK hq))
      have HLAY := Lib.hid (slay_any M2.out H.out.h HB.out.1 HB.out.2.1 HB.out.2.2 HX.out (p : Int) 2 s (put_ok HX.out (Int.natCast_nonneg p) HS.out) (by have := HP.out; omega) (.inl (by rw [Int.toNat_natCast]; exact HK0.out)) x.old)
      clear hs2 kk mm HT c3
      go_wp2_with fail
      refine (HLAY.out).mono ?_
      rintro e w3 ⟨ee, rfl, kd, hcase⟩
      have K3 : Hid (KpS (stoS P D bS bm SK vp) u w3) := Lib.hid (kps_new N2.out K2.out (kd.mono fun q hq => inP3 hq))
      have S3 := Lib.hid kd.size
      have HCASE := Lib.hid hcase
      clear kd hcase HLAY
      rcases HCASE.out with ⟨rfl, he, hm⟩ | ⟨rfl, he, ha, hd, hf, hc4, hn4⟩
      · have M3 := Lib.hid hm
        have HE := Lib.hid he
        clear hm he HCASE
        obtain ⟨c0, c3, c4, c5, c6, c7, cf⟩ := M3.out.look
        by_cases hl : isS x.now l = true
        · have hoi := HAT.out.2.2.1 hl
          have dne : decide (old = -1) = false := by rw [decide_eq_false_iff_not]; omega
          have dne2 : (old == -1) = false := by simp; omega
          have hpo : (p : Int) ≠ old := fun e => by
            have := HNF.out hl
            rw [← e, Int.toNat_natCast, HK0.out] at this
            cases this
          have kold : fupd K p 2 old.toNat = 1 := by
            unfold fupd
            rw [if_neg (fun e => hpo (by omega)), HNF.out hl]
          have e1 : leaveF n (fupd K p 2) old = fupd (fupd K p 2) old.toNat 3 := by
            unfold leaveF
            rw [if_pos ⟨hoi.1, hoi.2⟩, if_pos kold]
          have HLV := Lib.hid (sto_leave M3.out hn old)
          rw [e1] at HLV
          have FIN : Hid (∀ w8 SK3, (∀ k, SK3 k = true → SK2 k = true ∨ w3.heap.size ≤ k) → KpS SK2 w3 w8 → StoM base D P M bS bm cS (writeP d ⟨(p : Int), x.ep + 1, 2, s⟩).1 n (fupd (fupd K p 2) old.toNat 3) x.ep slot tb ot parts vp SK3 w8 → WrO base D P x a (stoS P D bS bm SK vp) l s (.returned (.int .i64 0)) u (w8.setCell ⟨P, 1 + l, none⟩ (.int .i64 (p : Int)))) := Lib.hid (fun w8 SK3 h1 h2 h3 => by
            refine ⟨0, rfl, stoS P D bS bm SK3 vp, ?_, ?_, .inl ⟨rfl, HCAN.out, (writeP d ⟨(p : Int), x.ep + 1, 2, s⟩).1.arm, fun e => ?_, M, bS, bm, cS, _, n, _, upd tb l (p : Int), ot, parts, slot, vp, SK3, H.out.wrote (h3.put HL.out _) ?_ (writeP_bd d _).1 (writeP_bd d _).2 (writeP_n _ _), rfl⟩⟩
            · exact NewB.then N2.out (newB_map (u := w3) h1) (Nat.le_trans K2.out.size S3.out)
            · exact (kps_new N2.out K3.out (h2.mono fun q hq => inSK hq)).trans (KpS.set (stoS_iff.2 (.inl rfl)) _ _ w8)
            · have := (writeP_bd d ⟨(p : Int), x.ep + 1, 2, s⟩).2; have := H.out.arm; omega
            · refine H.out.h.put (fun hl => ?_) HP.out HK0.out (fun q hq => ?_) HS.out (put_ok HX.out (Int.natCast_nonneg p) HS.out) HE.out _
              · cases c : (slA x.now l).fr with
                | false => rfl
                | true => exact absurd ⟨hl, c⟩ HFR.out
              unfold fupd
              by_cases c : q = p
              · have c2 : ¬ q = old.toNat := fun e => hpo (by omega)
                rw [if_neg c2, if_pos c, if_pos c]
              · by_cases c2 : q = old.toNat
                · rw [if_pos c2, if_neg c, if_pos ⟨hl, by rw [HO.out]; omega⟩]
                · rw [if_neg c2, if_neg c, if_neg c, if_neg (fun e => c2 (by have := e.2; rw [HO.out] at this; omega))])
          clear kold e1 hoi hpo c0 c4 c5 c6 c7 cf
          go_wp2_with fail
          refine (HLV.out).mono ?_
          rintro e w8 ⟨rfl, SK3, h1, h2, h3⟩
          have FIN2 := Lib.hid (FIN.out w8 SK3 h1 h2 h3)
          have hcl := h3.now.cell HL.out
          have hfz := h3.now.fz (1 + l)
          rw [Nat.add_comm 1 l] at hcl hfz FIN2
          have hcl2 := h3.now.cell HL.out
          have hfz2 := h3.now.fz (1 + l)
          clear h1 h2 h3 FIN HLV c3
          go_wp2_with fail
          go_ret
          first | exact FIN2.out | (rw [Nat.add_comm 1 l]; exact FIN2.out)
        · have eo := HAT.out.2.1 (by simpa using hl)
          have dne : decide (old = -1) = true := by rw [decide_eq_true_eq]; exact eo
          have FIN2 : Hid (WrO base D P x a (stoS P D bS bm SK vp) l s (.returned (.int .i64 0)) u (w3.setCell ⟨P, 1 + l, none⟩ (.int .i64 (p : Int)))) := Lib.hid (by
            refine ⟨0, rfl, stoS P D bS bm SK2 vp, N2.out, K3.out.trans (KpS.set (stoS_iff.2 (.inl rfl)) _ _ w3), .inl ⟨rfl, HCAN.out, (writeP d ⟨(p : Int), x.ep + 1, 2, s⟩).1.arm, fun e => ?_, M, bS, bm, cS, _, n, _, upd tb l (p : Int), ot, parts, slot, vp, SK2, H.out.wrote (M3.out.put HL.out _) ?_ (writeP_bd d _).1 (writeP_bd d _).2 (writeP_n _ _), rfl⟩⟩
            · have := (writeP_bd d ⟨(p : Int), x.ep + 1, 2, s⟩).2; have := H.out.arm; omega
            · refine H.out.h.put (fun h => absurd h hl) HP.out HK0.out (fun q hq => ?_) HS.out (put_ok HX.out (Int.natCast_nonneg p) HS.out) HE.out _
              unfold fupd
              by_cases c : q = p
              · rw [if_pos c, if_pos c]
              · rw [if_neg c, if_neg c, if_neg (fun e => hl e.1)])
          have hcl := M3.out.now.cell HL.out
          have hfz := M3.out.now.fz (1 + l)
          rw [Nat.add_comm 1 l] at hcl hfz FIN2
          have hcl2 := M3.out.now.cell HL.out
          have hfz2 := M3.out.now.fz (1 + l)
          rw [eo] at HO HAT HNF
          subst eo
          clear hl c0 c4 c5 c6 c7 cf
          go_wp2_with fail
          go_ret
          first | exact FIN2.out | (rw [Nat.add_comm 1 l]; exact FIN2.out)
      · have M3 := Lib.hid hd
        have HLV := Lib.hid (sto_leave M3.out hn (p : Int))
        have FIN : Hid (∀ w8, KpS SK2 w3 w8 → PDk base D bS bm cS (writeP d ⟨(p : Int), x.ep + 1, 2, s⟩).1 w8 → WrO base D P x a (stoS P D bS bm SK vp) l s (.returned (.int .i64 13)) u w8) := Lib.hid (fun w8 h2 h3 =>
          ⟨13, rfl, P3 D bS bm, fun k hk => .inl (inP3 hk), kps_new N2.out K3.out (h2.mono fun q hq => inSK hq), .inr (.inr ⟨rfl, fun e => ha (by rw [H.out.arm]; exact e), bS, bm, cS, _, h3, hf, by have := H.out.cl; omega, hn4, by rw [writeP_n]; exact H.out.h.mn.1.trans H.out.nm, H.out.h.tab.still, H.out.h.tab.still, rfl⟩)⟩)
        obtain ⟨c0, c3, c4, c5, c6, c7, cf⟩ := M3.out.look
        clear hd hf he ha hc4 hn4 HCASE c0 c4 c5 c6 c7 cf
        go_wp2_with fail
        refine (HLV.out).mono ?_
        rintro e w8 ⟨rfl, SK3, h1, h2, h3⟩
        have FIN2 := Lib.hid (FIN.out w8 h2 h3.dk)
        clear h1 h2 h3 FIN HLV c3
        go_wp2_with fail
        go_ret
        exact FIN2.out
    · have e1 : takeI n K = 0 := by unfold takeI; rw [if_neg hp]
      have e2 : takeE n K = 11 := by unfold takeE; rw [if_neg hp]
      have e3 : takeF n K = K := by unfold takeF; rw [if_neg hp]
      rw [e1, e2, e3] at HT
      have HCAN : Hid (¬ canW x l) := Lib.hid (fun h => h.elim HFR.out fun h2 => hp (H.out.full.2 h2))
      clear hp e1 e2 e3 c0 c4 c5 c6 c7 cf
      go_wp2_with fail
      refine (HT.out).mono ?_
      rintro e w2 ⟨rfl, SK2, hs2, kk, mm⟩
      have FIN : Hid (WrO base D P x a (stoS P D bS bm SK vp) l s (.returned (.int .i64 11)) u w2) := Lib.hid
        ⟨11, rfl, stoS P D bS bm SK2 vp, NewB.then (S2 := stoS P D bS bm SK vp) (fun k hk => .inl hk) (newB_map hs2) B1.out.size, (KpS.of B1.out).trans (kk.mono fun q hq => inSK hq), .inr (.inl ⟨rfl, HCAN.out, M, bS, bm, cS, d, n, K, tb, ot, parts, slot, vp, SK2, { H.out with m := mm }, rfl⟩)⟩
      clear hs2 kk mm HT c3
      go_wp2_with fail
      go_ret
      exact FIN.out
end

end Go.Proofs.YtmflkkkbahghgaaGreat
namespace Go.Proofs.YtmflkkkbahghgaaGreat
open Go.RowKit

theorem byteCells_nums (xs : List Int) : Lib.strCells (strOfNums xs) = Lib.byteCells (xs.map toU8) := by
  rw [Lib.strCells_eq, strOfNums_data]; rfl
theorem byteCells_append (a b : List UInt8) : Lib.byteCells (a ++ b) = Lib.byteCells a ++ Lib.byteCells b := by simp [Lib.byteCells]
theorem strOfNums_eq (xs : List Int) : strOfNums xs = ⟨(xs.map toU8).toArray⟩ := rfl
end Go.Proofs.YtmflkkkbahghgaaGreat
namespace Go.Proofs.YtmflkkkbahghgaaGreat
open Go.RowKit

theorem grown_of_below {w w' : World} (h : Below w.heap.size w w') (row : Option Nat) : w.grownBy w' row := ⟨h.os, h.tape, h.output, h.size, fun k hk _ => h.block k hk⟩

theorem builder_below {T e : TypeId} {B b : Nat} {p : Value} {bs : List Value} {w w' : World} (h : Lib.BuilderAt T e B b p bs w) (hb : Below w.heap.size w w') : Lib.BuilderAt T e B b p bs w' := by
  obtain ⟨h1, v, h2, h3, h4⟩ := h
  have hlt : b < w.heap.size := (Array.getElem?_eq_some_iff.1 h2).1
  refine ⟨h1, v, by rw [hb.block b hlt]; exact h2, h3.kept (grown_of_below hb none) ?_, h4⟩
  rcases hv : v.ownBlock with _ | k
  · exact .inl rfl
  · exact .inr (by simp)

theorem builder_new (w : World) : Lib.BuilderAt 161 5 w.heap.size w.heap.size (.pointer none) [] (w.alloc (.cells #[.pointer none, .slice none 0 0] 161)) :=
  ⟨Nat.le_refl _, .slice none 0 0, heap_alloc_new w _, World.ownsRow_nil _ _ _ _, by simp [Value.ownBlock]⟩

theorem isBuilder_below {T e : TypeId} {B b : Nat} {bs : List Value} {w w' : World} (h : Lib.IsBuilder T e B b bs w) (hb : Below w.heap.size w w') : Lib.IsBuilder T e B b bs w' := by
  rcases h with h | h
  · exact .inl (builder_below h hb)
  · exact .inr (builder_below h hb)

end Go.Proofs.YtmflkkkbahghgaaGreat
namespace Go.Proofs.YtmflkkkbahghgaaGreat
open Go.RowKit Go.Deep
set_option linter.unusedVariables false
set_option linter.unusedSimpArgs false
set_option maxRecDepth 100000

theorem pneed_any (x : Int) (hx : -9223372036854775808 ≤ x ∧ x ≤ 9223372036854775807) (w : World) : Calls Tryz.prog 89 #[.int .i64 x] w fun e w' => e = .returned (.int .i64 (needR x)) ∧ w' = w := by
  by_cases h : x < 1
  · have E : Hid (needR x = 0) := Lib.hid (by unfold needR; rw [if_pos h])
    have d : decide (x < 1) = true := by simp [h]
    go_enter Tryz.func89, Tryz.ntmps89
    go_wp2_with fail
    go_ret
    exact ⟨by rw [E.out]; rfl, rfl⟩
  · obtain ⟨m, rfl⟩ : ∃ m : Nat, x = (m : Int) + 1 := ⟨(x - 1).toNat, by omega⟩
    have E : Hid (needR ((m : Int) + 1) = (m : Int) / 116 + 1) := Lib.hid (by unfold needR; rw [if_neg h]; congr 2; omega)
    have d : decide ((m : Int) + 1 < 1) = false := by simp; omega
    have e0 : (m : Int) + 1 - 1 = m := by omega
    clear h
    go_enter Tryz.func89, Tryz.ntmps89
    go_wp2_with fail
    go_ret
    exact ⟨by rw [E.out]; rfl, rfl⟩
/-- which epochs may be -/
def epOk (x : Int) : Bool := decide (1 ≤ x ∧ x ≤ 1099511627776)
theorem pisEpoch_any (x : Int) (w : World) : Calls Tryz.prog 106 #[.int .i64 x] w fun e w' => e = .returned (.bool (epOk x)) ∧ w' = w := by
  by_cases h1 : 1 ≤ x
  · have d1 : decide (1 ≤ x) = true := by simp [h1]
    by_cases h2 : x ≤ 1099511627776
    · have d2 : decide (x ≤ 1099511627776) = true := by simp [h2]
      have E : Hid (epOk x = true) := Lib.hid (by simp [epOk, h1, h2])
      clear h1 h2
      go_enter Tryz.func106, Tryz.ntmps106
      go_wp2_with fail
      go_ret
      exact ⟨by rw [E.out]; rfl, rfl⟩
    · have d2 : decide (x ≤ 1099511627776) = false := by simp; omega
      have E : Hid (epOk x = false) := Lib.hid (by simp [epOk]; omega)
      clear h1 h2
      go_enter Tryz.func106, Tryz.ntmps106
      go_wp2_with fail
      go_ret
      exact ⟨by rw [E.out]; rfl, rfl⟩
  · have d1 : decide (1 ≤ x) = false := by simp; omega
    have E : Hid (epOk x = false) := Lib.hid (by simp [epOk]; omega)
    clear h1
    go_enter Tryz.func106, Tryz.ntmps106
    go_wp2_with fail
    go_ret
    exact ⟨by rw [E.out]; rfl, rfl⟩
/-- which pages may be -/
def pgOk (x : Int) : Bool := decide (0 ≤ x ∧ x ≤ 1023)
theorem pisPage_any (x : Int) (w : World) : Calls Tryz.prog 145 #[.int .i64 x] w fun e w' => e = .returned (.bool (pgOk x)) ∧ w' = w := by
  by_cases h1 : 0 ≤ x
  · have d1 : decide (0 ≤ x) = true := by simp [h1]
    by_cases h2 : x ≤ 1023
    · have d2 : decide (x ≤ 1023) = true := by simp [h2]
      have E : Hid (pgOk x = true) := Lib.hid (by simp [pgOk, h1, h2])
      clear h1 h2
      go_enter Tryz.func145, Tryz.ntmps145
      go_wp2_with fail
      go_ret
      exact ⟨by rw [E.out]; rfl, rfl⟩
    · have d2 : decide (x ≤ 1023) = false := by simp; omega
      have E : Hid (pgOk x = false) := Lib.hid (by simp [pgOk]; omega)
      clear h1 h2
      go_enter Tryz.func145, Tryz.ntmps145
      go_wp2_with fail
      go_ret
      exact ⟨by rw [E.out]; rfl, rfl⟩
  · have d1 : decide (0 ≤ x) = false := by simp; omega
    have E : Hid (pgOk x = false) := Lib.hid (by simp [pgOk]; omega)
    clear h1
    go_enter Tryz.func145, Tryz.ntmps145
    go_wp2_with fail
    go_ret
    exact ⟨by rw [E.out]; rfl, rfl⟩
/-- the first place of a number in a list's first n; n: it is not there -/
def findN (f : Nat → Int) (x : Int) : Nat → Nat
  | 0 => 0
  | n + 1 => if findN f x n < n then findN f x n else if f n = x then n else n + 1
theorem findN_le (f : Nat → Int) (x : Int) (n : Nat) : findN f x n ≤ n := by
  induction n with
  | zero => exact Nat.le_refl _
  | succ n ih =>
    unfold findN
    split
    · omega
    · split <;> omega
theorem findN_lt (f : Nat → Int) (x : Int) (n : Nat) : findN f x n < n ↔ ∃ i, i < n ∧ f i = x := by
  induction n with
  | zero => exact ⟨fun h => absurd h (Nat.not_lt_zero _), fun ⟨i, hi, _⟩ => absurd hi (Nat.not_lt_zero _)⟩
  | succ n ih =>
    unfold findN
    by_cases h : findN f x n < n
    · rw [if_pos h]
      obtain ⟨i, hi, he⟩ := ih.1 h
      exact ⟨fun _ => ⟨i, by omega, he⟩, fun _ => by omega⟩
    · rw [if_neg h]
      by_cases h2 : f n = x
      · rw [if_pos h2]; exact ⟨fun _ => ⟨n, by omega, h2⟩, fun _ => by omega⟩
      · rw [if_neg h2]
        refine ⟨fun h3 => by omega, fun ⟨i, hi, he⟩ => ?_⟩
        rcases Nat.lt_succ_iff_lt_or_eq.1 hi with h4 | rfl
        · exact absurd (ih.2 ⟨i, h4, he⟩) h
        · exact absurd he h2
def atN (f : Nat → Int) (x : Int) (n : Nat) : Int := if findN f x n < n then (findN f x n : Int) else -1
theorem findN_on {f : Nat → Int} {x : Int} {j n : Nat} (hj : findN f x j = j) (hx : f j = x) (hjn : j < n) : findN f x n = j := by
  induction n with
  | zero => omega
  | succ n ih =>
    unfold findN
    rcases Nat.lt_succ_iff_lt_or_eq.1 hjn with h | rfl
    · rw [ih h, if_pos h]
    · rw [hj, if_neg (Nat.lt_irrefl _), if_pos hx]
set_option maxHeartbeats 1600000 in
theorem pindex_any (f : Nat → Int) (n : Nat) (ao : Option Addr) (c : Nat) (x : Int) (w : World) (hn : n ≤ 1048576) (hc : n ≤ c) (h : 0 < n → ∃ b o, ao = some ⟨b, o, none⟩ ∧ At 1 (gW f) n b o w) :
    Calls Tryz.prog 102 #[.slice ao n c, .int .i64 x] w fun e w' => e = .returned (.int .i64 (atN f x n)) ∧ w' = w := by
  have HA := Lib.hid h
  clear h
  go_enter Tryz.func102, Tryz.ntmps102
  go_wp2_with fail
  go_loop [8] (fun i => ∃ j : Nat, j ≤ n ∧ i = .int .i64 j ∧ findN f x j = j) (fun i => n - (intOf i).toNat)
  case atStart => exact ⟨0, Nat.zero_le _, rfl, rfl⟩
  case round =>
    obtain ⟨j, hj, rfl, hf⟩ := hrel
    by_cases hlt : j < n
    · obtain ⟨b, o, rfl, hA⟩ := HA.out (by omega)
      have hcell : w.cell? ⟨b, o + j, none⟩ = some (.int .i64 (f j)) := hA.one j hlt
      have hj2 : (j : Int) < (n : Int) := by omega
      have hj3 : (0 : Int) ≤ (j : Int) := by omega
      have HF := Lib.hid hf
      have HL := Lib.hid hlt
      clear hA hf
      by_cases he : f j = x
      · have E : Hid (atN f x n = (j : Int)) := Lib.hid (by
          unfold atN
          rw [findN_on HF.out he hlt, if_pos hlt])
        have d : (x == f j) = true := by simp [he]
        have d2 : decide ((j : Int) < (n : Int)) = true := by simp [hlt]
        clear hlt he
        go_wp2_with fail
        go_ret
        exact ⟨by rw [E.out]; rfl, rfl⟩
      · have d : (x == f j) = false := by simp; exact fun h => he h.symm
        have HN : Hid (findN f x (j + 1) = j + 1) := Lib.hid (by
          unfold findN
          rw [HF.out, if_neg (Nat.lt_irrefl _), if_neg he])
        have d2 : decide ((j : Int) < (n : Int)) = true := by simp [hlt]
        clear hlt he
        go_wp2_with fail
        go_round
        case rel => have := HL.out; exact ⟨j + 1, by omega, by go_num, HN.out⟩
        case measure => have := HL.out; simp [intOf]; omega
    · obtain rfl : j = n := by omega
      have E : Hid (atN f x j = -1) := Lib.hid (by
        unfold atN
        rw [hf, if_neg (Nat.lt_irrefl _)])
      have d2 : decide ((j : Int) < (j : Int)) = false := by simp
      clear hf
      go_wp2_with fail
      go_ret
      exact ⟨by rw [E.out]; rfl, rfl⟩
theorem pcontains_any (f : Nat → Int) (n : Nat) (ao : Option Addr) (c : Nat) (x : Int) (w : World) (hn : n ≤ 1048576) (hc : n ≤ c) (h : 0 < n → ∃ b o, ao = some ⟨b, o, none⟩ ∧ At 1 (gW f) n b o w) :
    Calls Tryz.prog 146 #[.slice ao n c, .int .i64 x] w fun e w' => e = .returned (.bool (decide (∃ i, i < n ∧ f i = x))) ∧ w' = w := by
  have HX := Lib.hid (pindex_any f n ao c x w hn hc h)
  have E : Hid (decide (0 ≤ atN f x n) = decide (∃ i, i < n ∧ f i = x)) := Lib.hid (by
    apply decide_eq_decide.2
    rw [← findN_lt]
    unfold atN
    split <;> omega)
  generalize atN f x n = q at *
  clear h hn hc
  go_enter Tryz.func146, Tryz.ntmps146
  go_wp2_with fail
  refine (HX.out).mono ?_
  rintro e w1 ⟨rfl, rfl⟩
  go_wp2_with fail
  go_ret
  exact ⟨by rw [E.out]; rfl, rfl⟩

end Go.Proofs.YtmflkkkbahghgaaGreat
