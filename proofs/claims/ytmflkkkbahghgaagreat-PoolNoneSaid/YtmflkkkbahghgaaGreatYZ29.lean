/- The contract of the document's Abort. Both pools beside each other, and each call of either. -/
import Derived.Test.YtmflkkkbahghgaaGreatYZ27
import Derived.Test.YtmflkkkbahghgaaGreatYZ22
import Derived.Test.YtmflkkkbahghgaaGreatYZ28
namespace Go.Proofs.YtmflkkkbahghgaaGreat
open Go.RowKit Go.Deep
set_option linter.unusedVariables false
set_option linter.unusedSimpArgs false
set_option maxRecDepth 100000

section
variable {base Q R : Nat} {p : Plt} {u : World}
theorem rabort_st {x : Stt} (h : RSh base Q x u) : Calls Tryz.prog 82 #[.pointer (some ⟨Q, 0, none⟩)] u fun r u' => r = .returned (.tuple #[]) ∧ RP base Q (aboSX x) u u' := by
  obtain ⟨a1, c1, a2, c2, x0, x1, x2, x3, h1, h2, f1, f2, f3, e, n1, n2⟩ := h.cells
  have e3 := Joins.block_setCell (i := 1) e (.slice a2 x.old.length c2)
  have F : Hid (RP base Q (aboSX x) u (u.setCell ⟨Q, 1, none⟩ (.slice a2 x.old.length c2))) := Lib.hid ⟨⟨⟨.slice a2 x.old.length c2, .slice a2 x.old.length c2, e3, h2.kept (Q1 Q) (fun b hb => Q1.no fun e => n2 (by rw [hb, e])) (KpS.set (Q1.a Q) 1 _ u), h2.kept (Q1 Q) (fun b hb => Q1.no fun e => n2 (by rw [hb, e])) (KpS.set (Q1.a Q) 1 _ u), n2, n2⟩, h.lo⟩, KpS.set (Q1.a Q) 1 (.slice a2 x.old.length c2) u, fun k hk => .inl (by
    rcases rs_of e3 hk with rfl | hv | hv
    · exact .inl rfl
    · exact .inr ⟨_, _, _, _, _, e, .inr hv⟩
    · exact .inr ⟨_, _, _, _, _, e, .inr hv⟩)⟩
  clear h h1 h2 f2 f3 e x0 x3 e3
  go_enter Tryz.func82, Tryz.ntmps82
  go_wp2_with fail
  exact bodyPost_end (v := .tuple #[]) (by simp [results, Tryz.results82, go_sem]) rfl ⟨rfl, F.out⟩
set_option maxHeartbeats 3200000 in
theorem rabort15_any (h : RPl base Q R p u) (hl : p.f.length ≤ 32) (hbase : base ≤ u.heap.size) : Calls Tryz.prog 38 #[.pointer (some ⟨R, 0, none⟩)] u fun r u' => r = .returned (.tuple #[]) ∧ RQ base Q R (aboP p) u u' := by
  have HBASE := Lib.hid hbase
  have ST := Lib.hid (h.stays (Below.refl _ _))
  clear h hbase
  go_enter Tryz.func38, Tryz.ntmps38
  go_wp2_with fail
  go_loopw [2] (fun i wr => ∃ (k : Nat) (f : List Frm), k ≤ p.f.length ∧ i = .int .i64 k ∧ f.length = p.f.length ∧ Hid (∀ j, j < k → frA f j = noF) ∧ Hid (RQ base Q R { p with f := f } u wr)) (fun i _ => p.f.length - (intOf i).toNat)
  case atStart => exact ⟨0, p.f, Nat.zero_le _, rfl, rfl, Lib.hid fun j hj => absurd hj (Nat.not_lt_zero j), ST⟩
  case round =>
    obtain ⟨k, f, hk, rfl, hfl, HN, HQ⟩ := hrel
    obtain ⟨a2, c2, x0, x1, x2, hf, f0, f1, f2⟩ := HQ.out.1.cells
    rw [show ({ p with f := f } : Plt).f.length = p.f.length from hfl] at x1
    clear x2 f2 hf
    by_cases hlt : k < p.f.length
    · have d1 : decide ((k : Int) < (p.f.length : Int)) = true := decide_eq_true (by omega)
      have HT := Lib.hid (rset15_any HQ.out.1 (by show f.length ≤ 32; omega) (Nat.le_trans HBASE.out HQ.out.2.1.size) k (by show k < f.length; omega) noF)
      have HN2 : Hid (∀ j, j < k + 1 → frA (f.set k noF) j = noF) := Lib.hid (fun j hj => by
        rw [frA_set]
        by_cases c : j = k ∧ k < f.length
        · rw [if_pos c]
        · rw [if_neg c]
          exact HN.out j (by omega))
      have hfl2 : (f.set k noF).length = p.f.length := by rw [List.length_set]; exact hfl
      go_wp2_with fail
      refine (HT.out).mono ?_
      rintro r w2 ⟨rfl, hq⟩
      have Q2 : Hid (RQ base Q R { p with f := f.set k noF } u w2) := Lib.hid (HQ.out.trans hq)
      clear hq HT x0 x1 f0 f1
      go_wp2_with fail
      go_roundw
      case rel => exact ⟨k + 1, _, hlt, by go_num, hfl2, HN2, Q2⟩
      case measure => simp [intOf]; omega
    · have d1 : decide ((k : Int) < (p.f.length : Int)) = false := decide_eq_false (by omega)
      have EF : Hid (f = List.replicate p.f.length noF) := Lib.hid (frA_ext (by rw [hfl, List.length_replicate]) fun j hj => by
        rw [HN.out j (by omega), frA_in (by rw [List.length_replicate]; omega), List.getElem_replicate])
      have HA := Lib.hid (rabort_st HQ.out.1.st)
      go_wp2_with fail
      refine (HA.out).mono ?_
      rintro r w2 ⟨rfl, hrp⟩
      have FF : Hid (RQ base Q R (aboP p) u w2) := Lib.hid (by
        have h9 := HQ.out.trans (HQ.out.1.stored hrp)
        rw [EF.out] at h9
        exact h9)
      clear hrp HA
      go_wp2_with fail
      exact bodyPost_end (v := .tuple #[]) (by simp [results, Tryz.results38, go_sem]) rfl ⟨rfl, FF.out⟩
end
end Go.Proofs.YtmflkkkbahghgaaGreat
namespace Go.Proofs.YtmflkkkbahghgaaGreat
open Go.RowKit Go.Deep
set_option linter.unusedVariables false
set_option linter.unusedSimpArgs false
set_option maxRecDepth 100000

theorem OkW.r {c : Nat} {e : Int} {h : Nat} {p : Plt} (k : OkW c e h p) (he : e ≤ 1000000) (hh : h ≤ 1000000) : OkR p :=
  ⟨k.now, k.old, ⟨k.many.1, by have := k.many.2; omega⟩, ⟨by have := k.ep.1; omega, by have := k.ep.2; omega⟩, k.len, k.hand, fun i => by have := (k.fr i).held; omega, fun i => (k.fr i).size⟩
/-- the program's pool p, the document's q -/
structure Bq (PM : StM) (base D P Y F c Q R : Nat) (p q : Plt) (S : Nat → Bool) (u : World) : Prop where
  a : PqAt PM base D P Y F c p S u
  r : RPl base Q R q u
  d : ∀ k, Rp Q R u k → pqS S Y F k = false
  sz : base ≤ u.heap.size
def bqS (S : Nat → Bool) (Y F Q R : Nat) : Nat → Bool := fun k => pqS S Y F k || R2 Q R k
theorem bqS.l {S : Nat → Bool} {Y F Q R k : Nat} (h : pqS S Y F k = true) : bqS S Y F Q R k = true := by simp [bqS, h]
theorem bqS.r {S : Nat → Bool} {Y F Q R k : Nat} (h : R2 Q R k = true) : bqS S Y F Q R k = true := by simp [bqS, h]
def BqTo (PM : StM) (base D P Y F c Q R : Nat) (S : Nat → Bool) (p2 q2 : Plt) (u u2 : World) : Prop := ∃ S2, Bq PM base D P Y F c Q R p2 q2 S2 u2 ∧ NewB S S2 u ∧ KpS (bqS S Y F Q R) u u2
section
variable {PM : StM} {PF PC : FlM} {base D P Y F c Q R : Nat} {p q p2 q2 p3 q3 : Plt} {S S2 : Nat → Bool} {u u2 u3 : World}
theorem Bq.below (I : Sh14 PM PF PC) (h : Bq PM base D P Y F c Q R p q S u) (k : Below u.heap.size u u2) : Bq PM base D P Y F c Q R p q S u2 :=
  ⟨h.a.below I k, h.r.below k, fun j hj => h.d j (rp_below h.r k hj), Nat.le_trans h.sz k.size⟩
theorem newBq (h : NewB S S2 u) : NewB (bqS S Y F Q R) (bqS S2 Y F Q R) u := by
  intro k hk
  unfold bqS at hk ⊢
  simp only [Bool.or_eq_true] at hk
  rcases hk with hk | hk
  · rcases newPq h k hk with e | e
    · exact .inl (by simp [e])
    · exact .inr e
  · exact .inl (by simp [hk])
theorem BqTo.trans (h : BqTo PM base D P Y F c Q R S p2 q2 u u2) (h2 : ∀ S2, Bq PM base D P Y F c Q R p2 q2 S2 u2 → BqTo PM base D P Y F c Q R S2 p3 q3 u2 u3) : BqTo PM base D P Y F c Q R S p3 q3 u u3 := by
  obtain ⟨S2, a, n, k⟩ := h
  obtain ⟨S3, a3, n3, k3⟩ := h2 S2 a
  exact ⟨S3, a3, n.then n3 k.size, kps_new (newBq n) k k3⟩
theorem Bq.same (h : Bq PM base D P Y F c Q R p q S u) : BqTo PM base D P Y F c Q R S p q u u := ⟨S, h, fun _ hk => .inl hk, KpS.refl _ _⟩
theorem Bq.stays (I : Sh14 PM PF PC) (h : Bq PM base D P Y F c Q R p q S u) (k : Below u.heap.size u u2) : BqTo PM base D P Y F c Q R S p q u u2 := ⟨S, h.below I k, fun _ hk => .inl hk, KpS.of k⟩
/-- the program's was called -/
theorem Bq.pp (h : Bq PM base D P Y F c Q R p q S u) (t : PqTo PM base D P Y F c S p2 u u2) : BqTo PM base D P Y F c Q R S p2 q u u2 := by
  obtain ⟨S2, a2, n2, k2⟩ := t
  obtain ⟨r2, hr⟩ := h.r.kept h.d k2
  refine ⟨S2, ⟨a2, r2, fun k hk => ?_, Nat.le_trans h.sz k2.size⟩, n2, k2.mono fun j hj => bqS.l hj⟩
  have h1 := h.d k (hr k hk)
  cases x : pqS S2 Y F k with
  | false => rfl
  | true =>
    rcases newPq n2 k x with e | e
    · rw [h1] at e; cases e
    · have := (h.r.rlt (hr k hk)).2; omega
/-- the document's was called -/
theorem Bq.x (I : Sh14 PM PF PC) (h : Bq PM base D P Y F c Q R p q S u) (t : RQ base Q R q2 u u2) : BqTo PM base D P Y F c Q R S p q2 u u2 := by
  obtain ⟨r2, k2, n2⟩ := t
  have hT : ∀ k, pqS S Y F k = true → R2 Q R k = false := fun k hk => R2.no (fun e => by rw [e, h.d Q (.inr (.inl (.inl rfl)))] at hk; cases hk) (fun e => by rw [e, h.d R (.inl rfl)] at hk; cases hk)
  refine ⟨S, ⟨h.a.kept I hT k2, r2, fun k hk => ?_, Nat.le_trans h.sz k2.size⟩, fun _ hk => .inl hk, k2.mono fun j hj => bqS.r hj⟩
  rcases n2 k hk with e | e
  · exact h.d k e
  · cases x : pqS S Y F k with
    | false => rfl
    | true => have := (h.a.slo I k x).2; omega
theorem Bq.lo (I : Sh14 PM PF PC) (h : Bq PM base D P Y F c Q R p q S u) : ∀ k, bqS S Y F Q R k = true → base ≤ k ∧ k < u.heap.size := by
  intro k hk
  unfold bqS at hk
  simp only [Bool.or_eq_true] at hk
  rcases hk with hk | hk
  · exact h.a.slo I k hk
  · unfold R2 at hk
    simp only [Bool.or_eq_true, beq_iff_eq] at hk
    rcases hk with rfl | rfl
    · exact h.r.rlt (.inr (.inl (.inl rfl)))
    · exact h.r.rlt (.inl rfl)
theorem BqTo.bot (I : Sh14 PM PF PC) (h : Bq PM base D P Y F c Q R p q S u) (t : BqTo PM base D P Y F c Q R S p2 q2 u u2) : Below base u u2 := by
  obtain ⟨S2, a2, n2, k2⟩ := t
  refine k2.bot h.sz fun k hk => ?_
  cases x : bqS S Y F Q R k with
  | false => rfl
  | true => have := (h.lo I k x).1; omega
theorem BqTo.size (t : BqTo PM base D P Y F c Q R S p2 q2 u u2) : u.heap.size ≤ u2.heap.size := by obtain ⟨_, _, _, k⟩ := t; exact k.size
theorem BqTo.blk (t : BqTo PM base D P Y F c Q R S p2 q2 u u2) {b : Nat} (hb : bqS S Y F Q R b = false) {o : Obj} (h : u.heap[b]? = some o) : u2.heap[b]? = some o := by
  obtain ⟨_, _, _, k⟩ := t
  exact (k.blk (lt_of_block h) hb).trans h
/-- one call behind another -/
theorem BqTo.call {N : Nat} {args : Array Value} {e : Ending} (t : BqTo PM base D P Y F c Q R S p2 q2 u u2) (h : ∀ S2, Bq PM base D P Y F c Q R p2 q2 S2 u2 → Calls Tryz.prog N args u2 fun r u' => r = e ∧ BqTo PM base D P Y F c Q R S2 p3 q3 u2 u') : Calls Tryz.prog N args u2 fun r u' => r = e ∧ BqTo PM base D P Y F c Q R S p3 q3 u u' := by
  obtain ⟨S2, a2, n2, k2⟩ := t
  refine (h S2 a2).mono ?_
  rintro r u' ⟨rfl, S3, a3, n3, k3⟩
  exact ⟨rfl, S3, a3, n2.then n3 k2.size, kps_new (newBq n2) k2 k3⟩
theorem BqTo.from {w1 : World} (b : Below u.heap.size u w1) (t : BqTo PM base D P Y F c Q R S p2 q2 w1 u2) : BqTo PM base D P Y F c Q R S p2 q2 u u2 := by
  obtain ⟨S2, a2, n2, k2⟩ := t
  refine ⟨S2, a2, fun k hk => ?_, (KpS.of b : KpS (bqS S Y F Q R) u w1).trans k2⟩
  rcases n2 k hk with e | e
  · exact .inl e
  · exact .inr (Nat.le_trans b.size e)
/-- limits of the document's, ahead of a call -/
structure Lx (q : Plt) : Prop where
  kq : OkR q
  hp : ∀ i, (slA q.x.now i).b.size ≤ 232
  hh : ∀ i, (frA q.f i).held ≤ 1999999
theorem OkW.lx {c1 h1 : Nat} {e1 : Int} {q : Plt} (j : OkW c1 e1 h1 q) (he1 : e1 ≤ 1000000) (hh1 : h1 ≤ 1000000) : Lx q :=
  ⟨j.r he1 hh1, fun i => (j.pn i).1, fun i => by have := (j.fr i).held; omega⟩
section
variable (I : Sh14 PM PF PC) (h : Bq PM base D P Y F c Q R p q S u) (L : OkP p)
include I h L
theorem pNew_bq (s : ByteArray) (hs : s.size ≤ 1000000) : Calls Tryz.prog 20 #[.pointer (some ⟨Y, 0, none⟩), .string s] u fun r u' => r = .returned (.tuple #[.int .i64 (newI p.x s), .int .i64 (newE p.x s)]) ∧ BqTo PM base D P Y F c Q R S (nwpP p s) q u u' :=
  (qNew_any I h.a L.x h.sz s hs).mono fun _ _ k => ⟨k.1, h.pp k.2⟩
theorem pHold_bq (l : Int) : Calls Tryz.prog 19 #[.pointer (some ⟨Y, 0, none⟩), .int .i64 l] u fun r u' => r = .returned (.tuple #[.string (holQ p l).2.1, .int .i64 (holQ p l).2.2]) ∧ BqTo PM base D P Y F c Q R S (holQ p l).1 q u u' :=
  (qHold_any I h.a L h.sz l).mono fun _ _ k => ⟨k.1, h.pp k.2⟩
theorem pLet_bq (l : Int) : Calls Tryz.prog 24 #[.pointer (some ⟨Y, 0, none⟩), .int .i64 l] u fun r u' => r = .returned (.int .i64 (pinE p l)) ∧ BqTo PM base D P Y F c Q R S (letP p l) q u u' :=
  (qLet_any I h.a L l).mono fun _ _ k => ⟨k.1, h.pp k.2⟩
theorem pSet_bq (l : Int) (s : ByteArray) : Calls Tryz.prog 25 #[.pointer (some ⟨Y, 0, none⟩), .int .i64 l, .string s] u fun r u' => r = .returned (.int .i64 (setE p l s)) ∧ BqTo PM base D P Y F c Q R S (setP p l s) q u u' :=
  (qSet_any I h.a L l s).mono fun _ _ k => ⟨k.1, h.pp k.2⟩
theorem pGet_bq (l : Int) : Calls Tryz.prog 13 #[.pointer (some ⟨Y, 0, none⟩), .int .i64 l] u fun r u' => r = .returned (.tuple #[.string (getQ p l).2.1, .int .i64 (getQ p l).2.2]) ∧ BqTo PM base D P Y F c Q R S (getQ p l).1 q u u' :=
  (qGet_any I h.a L h.sz l).mono fun _ _ k => ⟨k.1, h.pp k.2⟩
theorem pPut_bq (l : Int) (s : ByteArray) : Calls Tryz.prog 12 #[.pointer (some ⟨Y, 0, none⟩), .int .i64 l, .string s] u fun r u' => r = .returned (.int .i64 (putQE p l s)) ∧ BqTo PM base D P Y F c Q R S (putQ p l s) q u u' :=
  (qPut_any I h.a L h.sz l s).mono fun _ _ k => ⟨k.1, h.pp k.2⟩
theorem pDrop_bq (l : Int) : Calls Tryz.prog 26 #[.pointer (some ⟨Y, 0, none⟩), .int .i64 l] u fun r u' => r = .returned (.int .i64 (drpE p l)) ∧ BqTo PM base D P Y F c Q R S (drpP p l) q u u' :=
  (qDrop_any I h.a L h.sz l).mono fun _ _ k => ⟨k.1, h.pp k.2⟩
theorem pEvict_bq (l : Int) : Calls Tryz.prog 27 #[.pointer (some ⟨Y, 0, none⟩), .int .i64 l] u fun r u' => r = .returned (.int .i64 (evcE p l)) ∧ BqTo PM base D P Y F c Q R S (evcP p l) q u u' :=
  (qEvict_any I h.a L h.sz l).mono fun _ _ k => ⟨k.1, h.pp k.2⟩
omit L in
theorem pCommit_bq {c0 h0 : Nat} {e0 : Int} (k : OkW c0 e0 h0 p) (hc : c0 + 2112 ≤ 900000) (he : e0 ≤ 1000000) (hh : h0 ≤ 1000000) : Calls Tryz.prog 15 #[.pointer (some ⟨Y, 0, none⟩)] u fun r u' => r = .returned (.int .i64 (cmtE p)) ∧ BqTo PM base D P Y F c Q R S (cmtP p) q u u' :=
  (qCommit_any I h.a k hc he hh h.sz).mono fun _ _ k => ⟨k.1, h.pp k.2⟩
theorem pAbort_bq : Calls Tryz.prog 17 #[.pointer (some ⟨Y, 0, none⟩)] u fun r u' => r = .returned (.bool true) ∧ BqTo PM base D P Y F c Q R S (aboP p) q u u' :=
  (qAbort_any I h.a L.x (Nat.lt_of_le_of_lt (Nat.zero_le _) L.hand) h.sz).mono fun _ _ k => ⟨k.1, h.pp k.2⟩
end
section
variable (I : Sh14 PM PF PC) (h : Bq PM base D P Y F c Q R p q S u) (L : Lx q)
include I h L
theorem xNew_bq (s : ByteArray) (hs : s.size ≤ 1000000) : Calls Tryz.prog 31 #[.pointer (some ⟨Q, 0, none⟩), .string s] u fun r u' => r = .returned (.tuple #[.int .i64 (newI q.x s), .int .i64 (newE q.x s)]) ∧ BqTo PM base D P Y F c Q R S p (nwpP q s) u u' :=
  (rnew14_any h.r.st L.kq.now L.kq.old L.kq.many h.sz s hs).mono fun _ _ k => ⟨k.1, h.x I (h.r.stored k.2)⟩
theorem xHold_bq (l : Int) : Calls Tryz.prog 32 #[.pointer (some ⟨R, 0, none⟩), .int .i64 l] u fun r u' => r = .returned (.tuple #[.string (holR q l).2.1, .int .i64 (holR q l).2.2]) ∧ BqTo PM base D P Y F c Q R S p (holR q l).1 u u' :=
  (rhold15_any h.r L.kq h.sz l).mono fun _ _ k => ⟨k.1, h.x I k.2⟩
theorem xLet_bq (l : Int) : Calls Tryz.prog 33 #[.pointer (some ⟨R, 0, none⟩), .int .i64 l] u fun r u' => r = .returned (.int .i64 (pinE q l)) ∧ BqTo PM base D P Y F c Q R S p (letP q l) u u' :=
  (rlet15_any h.r L.kq h.sz l).mono fun _ _ k => ⟨k.1, h.x I k.2⟩
theorem xSet_bq (l : Int) (s : ByteArray) (hs : s.size ≤ 1000000) : Calls Tryz.prog 34 #[.pointer (some ⟨R, 0, none⟩), .int .i64 l, .string s] u fun r u' => r = .returned (.int .i64 (setE q l s)) ∧ BqTo PM base D P Y F c Q R S p (setP q l s) u u' :=
  (rset_pl h.r L.kq h.sz l s hs).mono fun _ _ k => ⟨k.1, h.x I k.2⟩
theorem xGet_bq (l : Int) : Calls Tryz.prog 35 #[.pointer (some ⟨R, 0, none⟩), .int .i64 l] u fun r u' => r = .returned (.tuple #[.string (getR q l).2.1, .int .i64 (getR q l).2.2]) ∧ BqTo PM base D P Y F c Q R S p (getR q l).1 u u' :=
  (rget_pl h.r L.kq L.hh L.hp h.sz l).mono fun _ _ k => ⟨k.1, h.x I k.2⟩
theorem xPut_bq (l : Int) (s : ByteArray) (hs : s.size ≤ 1000000) : Calls Tryz.prog 39 #[.pointer (some ⟨R, 0, none⟩), .int .i64 l, .string s] u fun r u' => r = .returned (.int .i64 (putE15 q l s)) ∧ BqTo PM base D P Y F c Q R S p (putP q l s) u u' :=
  (rput_pl h.r L.kq L.hh L.hp h.sz l s hs).mono fun _ _ k => ⟨k.1, h.x I k.2⟩
theorem xDrop_bq (l : Int) : Calls Tryz.prog 36 #[.pointer (some ⟨R, 0, none⟩), .int .i64 l] u fun r u' => r = .returned (.int .i64 (drpE q l)) ∧ BqTo PM base D P Y F c Q R S p (drpP q l) u u' :=
  (rdrop15_any h.r L.kq h.sz l).mono fun _ _ k => ⟨k.1, h.x I k.2⟩
theorem xEvict_bq (l : Int) : Calls Tryz.prog 37 #[.pointer (some ⟨R, 0, none⟩), .int .i64 l] u fun r u' => r = .returned (.int .i64 (evcE q l)) ∧ BqTo PM base D P Y F c Q R S p (evcP q l) u u' :=
  (revict15_any h.r L.kq h.sz l).mono fun _ _ k => ⟨k.1, h.x I k.2⟩
theorem xCommit_bq : Calls Tryz.prog 16 #[.pointer (some ⟨R, 0, none⟩)] u fun r u' => r = .returned (.int .i64 (cmtE q)) ∧ BqTo PM base D P Y F c Q R S p (cmtP q) u u' :=
  (rcommit15_any h.r L.kq h.sz).mono fun _ _ k => ⟨k.1, h.x I k.2⟩
theorem xAbort_bq : Calls Tryz.prog 38 #[.pointer (some ⟨R, 0, none⟩)] u fun r u' => r = .returned (.tuple #[]) ∧ BqTo PM base D P Y F c Q R S p (aboP q) u u' :=
  (rabort15_any h.r L.kq.len.2 h.sz).mono fun _ _ k => ⟨k.1, h.x I k.2⟩
end
end
end Go.Proofs.YtmflkkkbahghgaaGreat
