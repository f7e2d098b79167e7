/- What is asked of the program's store (whatever it is made of), and both stores beside each other: a call of both. A call of both stores. -/
import Derived.Test.YtdpmpmaepjgndaaGreatYQShRef4
import Derived.Test.YtdpmpmaepjgndaaGreatYZ4
namespace Go.Proofs.YtdpmpmaepjgndaaGreat
open Go.RowKit Go.Deep
set_option linter.unusedVariables false
set_option linter.unusedSimpArgs false
set_option maxRecDepth 100000

/-- both stores -/
structure Bs14 (PM : StM) (base D P Q : Nat) (x : Stt) (a : Nat) (S : Nat → Bool) (u : World) : Prop where
  p : PM base D P x a S u
  r : RSh base Q x u
  d : ∀ k, Rs Q u k → S k = false
  ok : OkX x
  sz : base ≤ u.heap.size
section
variable {PM : StM} {PF PC : FlM} {base D P Q a : Nat} {x : Stt} {S : Nat → Bool} {u u2 : World}
theorem rs_below (h : RSh base Q x u) (k : Below u.heap.size u u2) {j : Nat} (hj : Rs Q u2 j) : Rs Q u j := by
  rcases hj with rfl | ⟨m, v1, v2, e, b, e2, hv⟩
  · exact .inl rfl
  · exact .inr ⟨m, v1, v2, e, b, by rw [← k.block Q h.lt]; exact e2, hv⟩
theorem Bs14.below (I : Sh14 PM PF PC) (h : Bs14 PM base D P Q x a S u) (k : Below u.heap.size u u2) : Bs14 PM base D P Q x a S u2 :=
  ⟨I.below h.p k, h.r.below k, fun j hj => h.d j (rs_below h.r k hj), h.ok, Nat.le_trans h.sz k.size⟩
/-- what the document's store leaves alone -/
def RP2 (base Q : Nat) (x2 : Stt) (u u2 : World) : Prop := RSh base Q x2 u2 ∧ ∀ k, Rs Q u2 k → Rs Q u k ∨ u.heap.size ≤ k
/-- what a call of both leaves -/
def Both14 (PM : StM) (PF : FlM) (base D P Q : Nat) (x x2 : Stt) (nxt : List Slt) (a : Nat) (S : Nat → Bool) (ok : Prop) (u u2 : World) : Prop :=
  RP2 base Q x2 u u2 ∧ Below base u u2 ∧ KpS (fun k => S k || Q1 Q k) u u2 ∧ ∃ S2, NewB S S2 u ∧ (∀ k, Rs Q u2 k → S2 k = false) ∧ ((ok ∧ ∃ a2, (a = 0 → a2 = 0) ∧ PM base D P x2 a2 S2 u2) ∨ (a ≠ 0 ∧ PF base D x nxt S2 u2))
theorem kps_l {T : Nat → Bool} {w : World} (k : KpS S u w) : KpS (fun k => S k || T k) u w := k.mono fun j h => by simp [h]
theorem kps_r {T : Nat → Bool} {w : World} (k : KpS T u w) : KpS (fun k => S k || T k) u w := k.mono fun j h => by simp [h]
/-- the program's was called, then the document's -/
theorem both_of (I : Sh14 PM PF PC) (h : Bs14 PM base D P Q x a S u) {w : World} {P2 : Nat} {x2 : Stt} {nxt : List Slt} {ok : Prop} (ho : Out14 PM PF base D P2 x x2 nxt a S ok u w) (hr : ∀ (hw : RSh base Q x w), base ≤ w.heap.size → RP base Q x2 w u2) : Both14 PM PF base D P2 Q x x2 nxt a S ok u u2 := by
  obtain ⟨S2, n2, k2, h2⟩ := ho
  obtain ⟨hr1, hr2⟩ := h.r.kept h.d k2
  obtain ⟨q1, q2, q3⟩ := hr hr1 (Nat.le_trans h.sz k2.size)
  have hS2Q : ∀ k, S2 k = true → Q1 Q k = false := fun k hk => Q1.no fun e => by
    subst e
    rcases n2 k hk with c | c
    · rw [h.d k (.inl rfl)] at c; cases c
    · have := h.r.lt; omega
  have hlo2 : ∀ k, S2 k = true → k < w.heap.size := by
    rcases h2 with ⟨_, a2, _, hp⟩ | ⟨_, hp⟩
    · exact fun k hk => (I.lo hp k hk).2
    · exact fun k hk => (I.flo hp k hk).2
  refine ⟨⟨q1, fun k hk => ?_⟩, ?_, (kps_l k2).trans (kps_r q2), S2, n2, fun k hk => ?_, ?_⟩
  · rcases q3 k hk with c | c
    · exact .inl (hr2 k c)
    · exact .inr (Nat.le_trans k2.size c)
  · refine (k2.bot h.sz fun k hk => ?_).trans (q2.bot (Nat.le_trans h.sz k2.size) fun k hk => Q1.no fun e => ?_)
    · cases c : S k with
      | false => rfl
      | true => have := (I.lo h.p k c).1; omega
    · subst e; have := h.r.lo; omega
  · cases c : S2 k with
    | false => rfl
    | true =>
      rcases q3 k hk with d | d
      · have := hr2 k d
        rcases n2 k c with e | e
        · rw [h.d k this] at e; cases e
        · have := (h.r.rlt this).2; omega
      · have := hlo2 k c; omega
  · rcases h2 with ⟨hok, a2, ha, hp⟩ | ⟨ha, hp⟩
    · exact .inl ⟨hok, a2, ha, I.kept hp hS2Q q2⟩
    · exact .inr ⟨ha, I.fkept hp hS2Q q2⟩
/-- the document's was called, then the program's -/
theorem both_of2 (I : Sh14 PM PF PC) (h : Bs14 PM base D P Q x a S u) {w : World} {P2 a2 : Nat} {x2 : Stt} {nxt : List Slt} {ok : Prop} {S2 : Nat → Bool} (hr : RP base Q x2 u w) (hok : ok) (n2 : NewB S S2 w) (k2 : KpS S w u2) (ha : a = 0 → a2 = 0) (hp : PM base D P2 x2 a2 S2 u2) : Both14 PM PF base D P2 Q x x2 nxt a S ok u u2 := by
  obtain ⟨q1, q2, q3⟩ := hr
  have hd : ∀ k, Rs Q w k → S k = false := fun k hk => by
    cases c : S k with
    | false => rfl
    | true =>
      rcases q3 k hk with d | d
      · rw [h.d k d] at c; cases c
      · have := (I.lo h.p k c).2; omega
  obtain ⟨r1, r2⟩ := q1.kept hd k2
  have hsz : base ≤ w.heap.size := Nat.le_trans h.sz q2.size
  refine ⟨⟨r1, fun k hk => q3 k (r2 k hk)⟩, ?_, (kps_r q2).trans (kps_l k2), S2, fun k hk => ?_, fun k hk => ?_, .inl ⟨hok, a2, ha, hp⟩⟩
  · refine (q2.bot h.sz fun k hk => Q1.no fun e => ?_).trans (k2.bot hsz fun k hk => ?_)
    · subst e; have := h.r.lo; omega
    · cases c : S k with
      | false => rfl
      | true => have := (I.lo h.p k c).1; omega
  · rcases n2 k hk with c | c
    · exact .inl c
    · exact .inr (Nat.le_trans q2.size c)
  · cases c : S2 k with
    | false => rfl
    | true =>
      have hk2 := r2 k hk
      rcases n2 k c with d | d
      · rw [hd k hk2] at d; cases d
      · have := (q1.rlt hk2).2; omega
theorem both_drop (hb : Below u.heap.size u u2) (hr : RSh base Q x u) {w : World} {P2 : Nat} {x2 : Stt} {nxt : List Slt} {ok : Prop} (hS : ∀ k, S k = true → k < u.heap.size) (hsz : base ≤ u.heap.size) (h : Both14 PM PF base D P2 Q x x2 nxt a S ok u2 w) : Both14 PM PF base D P2 Q x x2 nxt a S ok u w := by
  obtain ⟨⟨r1, r2⟩, b, k, S2, n2, d2, h2⟩ := h
  refine ⟨⟨r1, fun j hj => ?_⟩, (hb.mono hsz).trans b, (KpS.of hb : KpS _ u u2).trans k, S2, fun j hj => ?_, d2, h2⟩
  · rcases r2 j hj with c | c
    · exact .inl (rs_below hr hb c)
    · exact .inr (Nat.le_trans hb.size c)
  · rcases n2 j hj with c | c
    · exact .inl c
    · exact .inr (Nat.le_trans hb.size c)
def doX (x : Stt) (kind l : Int) (s : ByteArray) : Stt :=
  if kind = 0 ∨ kind = 1 then newX x s else if kind = 5 then dropSX x l else if kind = 6 ∨ kind = 7 then comSX x else if kind = 8 ∨ kind = 9 then aboSX x else putWX x l s
def nxX (x : Stt) (kind : Int) : List Slt := if kind = 6 ∨ kind = 7 then nextS x.now else x.old
theorem short14_any (kind l : Int) (s : ByteArray) (u : World) : Calls Tryz.prog 10 #[.agg #[.int .i64 kind, .int .i64 l, .string s]] u fun r u' => r = .returned (.bool (decide (s.size < 500))) ∧ Below u.heap.size u u' := by
  have B1 := Lib.hid (balloc u (.cells #[.int .i64 kind, .int .i64 l, .string s] 31))
  go_enter Tryz.func10, Tryz.ntmps10
  go_wp2_with fail
  go_ret
  refine ⟨?_, B1.out⟩
  first
    | rfl
    | (show Ending.returned (.bool (decide ((s.size : Int) < 500))) = _
       congr 2
       exact decide_eq_decide.2 (by omega))
end

end Go.Proofs.YtdpmpmaepjgndaaGreat
namespace Go.Proofs.YtdpmpmaepjgndaaGreat
open Go.RowKit Go.Deep
set_option linter.unusedVariables false
set_option linter.unusedSimpArgs false
set_option maxRecDepth 100000

section
variable {PM : StM} {PF PC : FlM} {base D P Q a : Nat} {x : Stt} {S : Nat → Bool} {u : World}
theorem rabort_rp (h : RSh base Q x u) : Calls Tryz.prog 40 #[.pointer (some ⟨Q, 0, none⟩)] u fun r u' => r = .returned (.tuple #[]) ∧ RP base Q (aboSX x) u u' := by
  obtain ⟨a1, c1, a2, c2, x0, x1, x2, x3, h1, h2, f1, f2, f3, e, n1, n2⟩ := h.cells
  have e3 := Joins.block_setCell (i := 1) e (.slice a2 x.old.length c2)
  have F : Hid (RP base Q (aboSX x) u (u.setCell ⟨Q, 1, none⟩ (.slice a2 x.old.length c2))) := Lib.hid ⟨⟨⟨.slice a2 x.old.length c2, .slice a2 x.old.length c2, e3, h2.kept (Q1 Q) (fun b hb => Q1.no fun e => n2 (by rw [hb, e])) (KpS.set (Q1.a Q) 1 _ u), h2.kept (Q1 Q) (fun b hb => Q1.no fun e => n2 (by rw [hb, e])) (KpS.set (Q1.a Q) 1 _ u), n2, n2⟩, h.lo⟩, KpS.set (Q1.a Q) 1 (.slice a2 x.old.length c2) u, fun k hk => .inl (by
    rcases rs_of e3 hk with rfl | hv | hv
    · exact .inl rfl
    · exact .inr ⟨_, _, _, _, _, e, .inr hv⟩
    · exact .inr ⟨_, _, _, _, _, e, .inr hv⟩)⟩
  clear h h1 h2 f2 f3 e x0 x3 e3
  go_enter Tryz.func40, Tryz.ntmps40
  go_wp2_with fail
  exact bodyPost_end (v := .tuple #[]) (by simp [results, Tryz.results40, go_sem]) rfl ⟨rfl, F.out⟩
theorem Both14.imp {x2 : Stt} {nxt : List Slt} {ok ok2 : Prop} {u2 : World} (h : Both14 PM PF base D P Q x x2 nxt a S ok u u2) (hi : ok → ok2) : Both14 PM PF base D P Q x x2 nxt a S ok2 u u2 := by
  obtain ⟨r, b, k, S2, n2, d2, h2⟩ := h
  refine ⟨r, b, k, S2, n2, d2, ?_⟩
  rcases h2 with ⟨hok, h2⟩ | h2
  · exact .inl ⟨hi hok, h2⟩
  · exact .inr h2
set_option maxHeartbeats 12800000 in
theorem do14_any (I : Sh14 PM PF PC) (h : Bs14 PM base D P Q x a S u) (kind l : Int) (s : ByteArray) (hs : s.size ≤ 1000000) : Calls Tryz.prog 11 #[.pointer (some ⟨D, 0, none⟩), .pointer (some ⟨P, 0, none⟩), .pointer (some ⟨Q, 0, none⟩), .agg #[.int .i64 kind, .int .i64 l, .string s]] u fun r u' => ∃ P2 b, r = .returned (.tuple #[.pointer (some ⟨P2, 0, none⟩), .bool b]) ∧ (kind ≠ 9 → P2 = P) ∧ Both14 PM PF base D P2 Q x (doX x kind l s) (nxX x kind) a S (b = true) u u' := by
  have X1 := Lib.hid (heap_alloc_new u (.cells #[.int .i64 kind, .int .i64 l, .string s] 31))
  have B1 := Lib.hid (balloc u (.cells #[.int .i64 kind, .int .i64 l, .string s] 31))
  have H1 := Lib.hid (h.below I B1.out)
  have HI := Lib.hid I
  have HLO := Lib.hid (fun k hk => (I.lo h.p k hk).2)
  have HSZ := Lib.hid h.sz
  have HR0 := Lib.hid h.r
  obtain ⟨C, hC⟩ : ∃ C, C = u.heap.size := ⟨_, rfl⟩
  have SC : Hid (S C = false) := Lib.hid (by
    cases c : S C with
    | false => rfl
    | true => have := (I.lo h.p C c).2; omega)
  have HS := Lib.hid hs
  have NQ : Hid (C ≠ Q) := Lib.hid (by have := h.r.lt; omega)
  rw [← hC] at X1
  clear h hs I
  go_enter Tryz.func11, Tryz.ntmps11
  go_upto_region 1 with fail
  rw [← hC]
  clear hC
  generalize u.alloc (.cells #[.int .i64 kind, .int .i64 l, .string s] 31) = w1 at *
  have x0 : w1.cell? ⟨C, 0, none⟩ = some (.int .i64 kind) := by rw [Lib.cell_of_heap X1.out]; rfl
  have x1 : w1.cell? ⟨C, 1, none⟩ = some (.int .i64 l) := by rw [Lib.cell_of_heap X1.out]; rfl
  have x2 : w1.cell? ⟨C, 2, none⟩ = some (.string s) := by rw [Lib.cell_of_heap X1.out]; rfl
  have FIN : Hid (∀ (P2 : Nat) (x2 : Stt) (nxt : List Slt) (ok : Prop) (w : World), Both14 PM PF base D P2 Q x x2 nxt a S ok w1 w → Both14 PM PF base D P2 Q x x2 nxt a S ok u w) := Lib.hid (fun P2 x2 nxt ok w hb => both_drop B1.out HR0.out HLO.out HSZ.out hb)
  by_cases k01 : kind = 0 ∨ kind = 1
  · have E := Lib.hid (show doX x kind l s = newX x s from by unfold doX; rw [if_pos k01])
    have E2 := Lib.hid (show nxX x kind = x.old from by unfold nxX; rw [if_neg (by omega)])
    have HN := Lib.hid (HI.out.new s H1.out.p H1.out.ok H1.out.sz HS.out)
    have HR := Lib.hid (fun w (hr : RSh base Q x w) (hb : base ≤ w.heap.size) => rnew14_any hr H1.out.ok.now H1.out.ok.old ⟨H1.out.ok.many.1, by have := H1.out.ok.many.2; omega⟩ hb s HS.out)
    generalize newI x s = i2 at *
    generalize newE x s = e2 at *
    clear x1
    rcases k01 with rfl | rfl
    · go_wp2_with fail
      refine (HN.out).mono ?_
      rintro e w3 ⟨i, e, rfl, ho⟩
      have HO := Lib.hid ho
      have HR3 := Lib.hid (HR.out w3 (H1.out.r.kept H1.out.d ho.choose_spec.2.1).1 (Nat.le_trans H1.out.sz ho.choose_spec.2.1.size))
      have X3 := Lib.hid ((ho.choose_spec.2.1.blk (heap_lt12 X1.out) SC.out).trans X1.out)
      have z2 : w3.cell? ⟨C, 2, none⟩ = some (.string s) := by rw [Lib.cell_of_heap X3.out]; rfl
      clear ho x0 x2
      go_wp2_with fail
      refine (HR3.out).mono ?_
      rintro r w4 ⟨rfl, rp⟩
      have FF := Lib.hid (FIN.out _ _ _ _ _ (both_of HI.out H1.out HO.out (fun _ _ => rp)))
      clear rp z2
      by_cases hi : i = i2
      · subst hi
        by_cases he : e = e2
        · subst he
          go_wp2_with fail
          go_ret2
          exact ⟨_, _, rfl, by first | exact fun _ => rfl | exact fun h => absurd rfl h, by rw [E.out, E2.out]; exact FF.out.imp fun _ => by simp⟩
        · have d2 : (e == e2) = false := by simp [he]
          go_wp2_with fail
          go_ret2
          exact ⟨_, _, rfl, by first | exact fun _ => rfl | exact fun h => absurd rfl h, by rw [E.out, E2.out]; exact FF.out.imp fun h => absurd h.2 he⟩
      · have d1 : (i == i2) = false := by simp [hi]
        go_wp2_with fail
        go_ret2
        exact ⟨_, _, rfl, by first | exact fun _ => rfl | exact fun h => absurd rfl h, by rw [E.out, E2.out]; exact FF.out.imp fun h => absurd h.1 hi⟩
    · go_wp2_with fail
      refine (HN.out).mono ?_
      rintro e w3 ⟨i, e, rfl, ho⟩
      have HO := Lib.hid ho
      have HR3 := Lib.hid (HR.out w3 (H1.out.r.kept H1.out.d ho.choose_spec.2.1).1 (Nat.le_trans H1.out.sz ho.choose_spec.2.1.size))
      have X3 := Lib.hid ((ho.choose_spec.2.1.blk (heap_lt12 X1.out) SC.out).trans X1.out)
      have z2 : w3.cell? ⟨C, 2, none⟩ = some (.string s) := by rw [Lib.cell_of_heap X3.out]; rfl
      clear ho x0 x2
      go_wp2_with fail
      refine (HR3.out).mono ?_
      rintro r w4 ⟨rfl, rp⟩
      have FF := Lib.hid (FIN.out _ _ _ _ _ (both_of HI.out H1.out HO.out (fun _ _ => rp)))
      clear rp z2
      by_cases hi : i = i2
      · subst hi
        by_cases he : e = e2
        · subst he
          go_wp2_with fail
          go_ret2
          exact ⟨_, _, rfl, by first | exact fun _ => rfl | exact fun h => absurd rfl h, by rw [E.out, E2.out]; exact FF.out.imp fun _ => by simp⟩
        · have d2 : (e == e2) = false := by simp [he]
          go_wp2_with fail
          go_ret2
          exact ⟨_, _, rfl, by first | exact fun _ => rfl | exact fun h => absurd rfl h, by rw [E.out, E2.out]; exact FF.out.imp fun h => absurd h.2 he⟩
      · have d1 : (i == i2) = false := by simp [hi]
        go_wp2_with fail
        go_ret2
        exact ⟨_, _, rfl, by first | exact fun _ => rfl | exact fun h => absurd rfl h, by rw [E.out, E2.out]; exact FF.out.imp fun h => absurd h.1 hi⟩
  · by_cases k5 : kind = 5
    · subst k5
      clear k01
      have E := Lib.hid (show doX x 5 l s = dropSX x l from by unfold doX; rw [if_neg (by decide), if_pos rfl])
      have E2 := Lib.hid (show nxX x 5 = x.old from by unfold nxX; rw [if_neg (by decide)])
      have HN := Lib.hid (fun w (k : Below w1.heap.size w1 w) => HI.out.drop l (HI.out.below H1.out.p k) H1.out.ok (Nat.le_trans H1.out.sz k.size))
      have HR := Lib.hid (fun w (hr : RSh base Q x w) (hb : base ≤ w.heap.size) => rdrop14_any hr H1.out.ok.now hb l)
      generalize hee : dropSE x l = e2 at *
      clear hee x2
      go_upto_region 8 with fail
      refine wp_region_held_drew (S := (fun w' => w'.cell? ⟨C, 1, none⟩ = some (.int .i64 l))) (by kernel_rfl) x1 (fun hHeld => ?_)
      change wpAnyH _ _ _ _ _ _ _ _ (World.drew w1)
      have B2 := Lib.hid (bdrew w1)
      have H2 := Lib.hid (H1.out.below HI.out B2.out)
      have X2 := Lib.hid (show (World.drew w1).heap[C]? = some (.cells #[.int .i64 _, .int .i64 l, .string s] 31 (0, 0)) from X1.out)
      have Y2 : (World.drew w1).cell? ⟨C, 1, none⟩ = some (.int .i64 l) := x1
      clear x0 x1
      generalize World.drew w1 = w2 at *
      first | refine tq0 0 rfl ?_ | refine tq1 0 rfl ?_
      try go_frame
      first | refine tq0 1 rfl ?_ | refine tq1 1 rfl ?_
      try go_frame
      first | refine tq0 2 rfl ?_ | refine tq1 2 rfl ?_
      try go_frame
      first | refine tq0 3 rfl ?_ | refine tq1 3 rfl ?_
      try go_frame
      first | refine tq0 5 rfl ?_ | refine tq1 5 rfl ?_
      try go_frame
      first | refine tq0 6 rfl ?_ | refine tq1 6 rfl ?_
      try go_frame
      first | refine tq0 7 rfl ?_ | refine tq1 7 rfl ?_
      try go_frame
      refine wpAnyH_ready (rs := [4]) (by kernel_rfl) (by simp) ?_
      refine AllReadyH.cons (o := ⟨_, _, _, _, _, _⟩) rfl (fun Kx hKx => ?_) AllReadyH.nil
      go_simp
      refine (HN.out _ B2.out).mono ?_
      rintro r w3 ⟨e, rfl, ho⟩
      have HO := Lib.hid ho
      have HR3 := Lib.hid (HR.out w3 (H2.out.r.kept H2.out.d ho.choose_spec.2.1).1 (Nat.le_trans H2.out.sz ho.choose_spec.2.1.size))
      have X3 := Lib.hid ((ho.choose_spec.2.1.blk (heap_lt12 X2.out) SC.out).trans X2.out)
      clear ho
      refine hKx.out _ _ (by rw [Lib.cell_of_heap X3.out]; rfl) (fun hHeld => ?_)
      clear hKx Kx
      try simp only [Act.put, List.setIfInBounds_toArray, List.set_cons_zero, List.set_cons_succ]
      refine wpAnyH_ready (rs := [8]) (by kernel_rfl) (by simp) ?_
      refine AllReadyH.cons (o := ⟨_, _, _, _, _, _⟩) rfl (fun Kx hKx => ?_) AllReadyH.nil
      go_simp
      refine (HR3.out).mono ?_
      rintro r w4 ⟨rfl, rp⟩
      have X4 := Lib.hid ((rp.2.1.blk (heap_lt12 X3.out) (Q1.no NQ.out)).trans X3.out)
      have F2 := Lib.hid (both_of HI.out H2.out HO.out (fun _ _ => rp))
      have FF := Lib.hid (FIN.out _ _ _ _ _ (both_drop B2.out H1.out.r (fun k hk => (HI.out.lo H1.out.p k hk).2) H1.out.sz F2.out))
      clear rp
      refine hKx.out _ _ (by rw [Lib.cell_of_heap X4.out]; rfl) (fun hHeld => ?_)
      clear hKx Kx
      try simp only [Act.put, List.setIfInBounds_toArray, List.set_cons_zero, List.set_cons_succ]
      first | refine tq0 9 rfl ?_ | refine tq1 9 rfl ?_
      try go_frame
      first | refine tq0 10 rfl ?_ | refine tq1 10 rfl ?_
      try go_frame
      first | refine tq0 11 rfl ?_ | refine tq1 11 rfl ?_
      try go_frame
      refine wpAnyH_done (by kernel_rfl) ?_ _
      clear hHeld
      go_wp2_with fail
      go_ret2
      exact ⟨_, _, rfl, by first | exact fun _ => rfl | exact fun h => absurd rfl h, by rw [E.out, E2.out]; exact FF.out.imp fun h => by subst h; simp⟩
    · have n5 : (kind == 5) = false := by simp [k5]
      have n0 : (kind == 0) = false := by simp; omega
      have n1 : (kind == 1) = false := by simp; omega
      by_cases k67 : kind = 6 ∨ kind = 7
      · have E := Lib.hid (show doX x kind l s = comSX x from by unfold doX; rw [if_neg k01, if_neg k5, if_pos k67])
        have E2 := Lib.hid (show nxX x kind = nextS x.now from by unfold nxX; rw [if_pos k67])
        have HN := Lib.hid (HI.out.commit H1.out.p H1.out.ok H1.out.sz)
        have HR := Lib.hid (fun w (hr : RSh base Q x w) (hb : base ≤ w.heap.size) => rcommit14_any hr H1.out.ok.now H1.out.ok.old ⟨H1.out.ok.many.1, by have := H1.out.ok.many.2; omega⟩ hb ⟨by have := H1.out.ok.ep; omega, by have := H1.out.ok.ep; omega⟩)
        generalize hee : comSE x = e2 at *
        clear hee x1 x2 k01 k5
        rcases k67 with rfl | rfl
        · go_wp2_with fail
          refine (HN.out).mono ?_
          rintro e w3 ⟨e, rfl, ho⟩
          have HO := Lib.hid ho
          have HR3 := Lib.hid (HR.out w3 (H1.out.r.kept H1.out.d ho.choose_spec.2.1).1 (Nat.le_trans H1.out.sz ho.choose_spec.2.1.size))
          clear ho x0
          go_wp2_with fail
          refine (HR3.out).mono ?_
          rintro r w4 ⟨rfl, rp⟩
          have FF := Lib.hid (FIN.out _ _ _ _ _ (both_of HI.out H1.out HO.out (fun _ _ => rp)))
          clear rp
          go_wp2_with fail
          go_ret2
          exact ⟨_, _, rfl, by first | exact fun _ => rfl | exact fun h => absurd rfl h, by rw [E.out, E2.out]; exact FF.out.imp fun h => by subst h; simp⟩
        · go_wp2_with fail
          refine (HN.out).mono ?_
          rintro e w3 ⟨e, rfl, ho⟩
          have HO := Lib.hid ho
          have HR3 := Lib.hid (HR.out w3 (H1.out.r.kept H1.out.d ho.choose_spec.2.1).1 (Nat.le_trans H1.out.sz ho.choose_spec.2.1.size))
          clear ho x0
          go_wp2_with fail
          refine (HR3.out).mono ?_
          rintro r w4 ⟨rfl, rp⟩
          have FF := Lib.hid (FIN.out _ _ _ _ _ (both_of HI.out H1.out HO.out (fun _ _ => rp)))
          clear rp
          go_wp2_with fail
          go_ret2
          exact ⟨_, _, rfl, by first | exact fun _ => rfl | exact fun h => absurd rfl h, by rw [E.out, E2.out]; exact FF.out.imp fun h => by subst h; simp⟩
      · have n6 : (kind == 6) = false := by simp; omega
        have n7 : (kind == 7) = false := by simp; omega
        by_cases k8 : kind = 8
        · subst k8
          have E := Lib.hid (show doX x 8 l s = aboSX x from by unfold doX; rw [if_neg (by decide), if_neg (by decide), if_neg (by decide), if_pos (.inl rfl)])
          have E2 := Lib.hid (show nxX x 8 = x.old from by unfold nxX; rw [if_neg (by decide)])
          have HA := Lib.hid (rabort_rp H1.out.r)
          clear x1 x2 n0 n1 n5 n6 n7 k01 k5 k67
          go_wp2_with fail
          refine (HA.out).mono ?_
          rintro e w3 ⟨rfl, rp⟩
          have RP3 := Lib.hid rp
          have P3' := Lib.hid (HI.out.kept H1.out.p (T := Q1 Q) (fun k hk => Q1.no fun e => by subst e; rw [H1.out.d k (.inl rfl)] at hk; cases hk) rp.2.1)
          have HN := Lib.hid (HI.out.abort P3'.out H1.out.ok (Nat.le_trans H1.out.sz rp.2.1.size))
          clear rp
          go_wp2_with fail
          refine (HN.out).mono ?_
          rintro e w4 ⟨rfl, S2, n2, k2, hp⟩
          have FF := Lib.hid (FIN.out _ _ x.old _ _ (both_of2 HI.out H1.out (ok := (true = true)) RP3.out rfl n2 k2 id hp))
          clear n2 k2 hp
          go_wp2_with fail
          go_ret2
          exact ⟨_, _, rfl, by first | exact fun _ => rfl | exact fun h => absurd rfl h, by rw [E.out, E2.out]; exact FF.out.imp fun _ => rfl⟩
        · have n8 : (kind == 8) = false := by simp [k8]
          by_cases k9 : kind = 9
          · subst k9
            have E := Lib.hid (show doX x 9 l s = aboSX x from by unfold doX; rw [if_neg (by decide), if_neg (by decide), if_neg (by decide), if_pos (.inr rfl)])
            have E2 := Lib.hid (show nxX x 9 = x.old from by unfold nxX; rw [if_neg (by decide)])
            have HN := Lib.hid (HI.out.open H1.out.p H1.out.ok H1.out.sz)
            clear x1 x2 n0 n1 n5 n6 n7 n8 k01 k5 k67
            go_wp2_with fail
            refine (HN.out).mono ?_
            rintro e w3 ⟨P2, S2, rfl, n2, k2, hp⟩
            obtain ⟨hr1, hr2⟩ := H1.out.r.kept H1.out.d k2
            have OUT := Lib.hid (show Out14 PM PF base D P2 x (aboSX x) x.old a S (true = true) w1 w3 from ⟨S2, n2, k2, .inl ⟨rfl, a, id, hp⟩⟩)
            have HA := Lib.hid (rabort_rp hr1)
            clear n2 k2 hp hr1 hr2
            go_wp2_with fail
            refine (HA.out).mono ?_
            rintro e w4 ⟨rfl, rp⟩
            have FF := Lib.hid (FIN.out _ _ _ _ _ (both_of HI.out H1.out OUT.out (fun _ _ => rp)))
            clear rp
            go_wp2_with fail
            go_ret2
            exact ⟨_, _, rfl, by first | exact fun _ => rfl | exact fun h => absurd rfl h, by rw [E.out, E2.out]; exact FF.out.imp fun _ => by simp⟩
          · have n9 : (kind == 9) = false := by simp [k9]
            have E := Lib.hid (show doX x kind l s = putWX x l s from by unfold doX; rw [if_neg k01, if_neg k5, if_neg k67, if_neg (by omega)])
            have E2 := Lib.hid (show nxX x kind = x.old from by unfold nxX; rw [if_neg k67])
            have HN := Lib.hid (fun w (k : Below w1.heap.size w1 w) => HI.out.write l s (HI.out.below H1.out.p k) H1.out.ok (Nat.le_trans H1.out.sz k.size) HS.out)
            have HR := Lib.hid (fun w (hr : RSh base Q x w) (hb : base ≤ w.heap.size) => rwrite14_any hr H1.out.ok.now H1.out.ok.old ⟨H1.out.ok.many.1, by have := H1.out.ok.many.2; omega⟩ hb l s HS.out)
            generalize hee : putWE x l s = e2 at *
            clear hee k01 k5 k67 k8 k9
            go_upto_region 19 with fail
            refine wp_region_held_drew (S := (fun w' => w'.cell? ⟨C, 1, none⟩ = some (.int .i64 l) ∧ w'.cell? ⟨C, 2, none⟩ = some (.string s))) (by kernel_rfl) ⟨x1, x2⟩ (fun hHeld => ?_)
            change wpAnyH _ _ _ _ _ _ _ _ (World.drew w1)
            have B2 := Lib.hid (bdrew w1)
            have H2 := Lib.hid (H1.out.below HI.out B2.out)
            have X2 := Lib.hid (show (World.drew w1).heap[C]? = some (.cells #[.int .i64 _, .int .i64 l, .string s] 31 (0, 0)) from X1.out)
            have Y2 : (World.drew w1).cell? ⟨C, 1, none⟩ = some (.int .i64 l) ∧ (World.drew w1).cell? ⟨C, 2, none⟩ = some (.string s) := ⟨x1, x2⟩
            clear x0 x1 x2
            generalize World.drew w1 = w2 at *
            first | refine tq0 0 rfl ?_ | refine tq1 0 rfl ?_
            try go_frame
            first | refine tq0 1 rfl ?_ | refine tq1 1 rfl ?_
            try go_frame
            first | refine tq0 2 rfl ?_ | refine tq1 2 rfl ?_
            try go_frame
            first | refine tq0 3 rfl ?_ | refine tq1 3 rfl ?_
            try go_frame
            first | refine tq0 4 rfl ?_ | refine tq1 4 rfl ?_
            try go_frame
            first | refine tq0 5 rfl ?_ | refine tq1 5 rfl ?_
            try go_frame
            first | refine tq0 7 rfl ?_ | refine tq1 7 rfl ?_
            try go_frame
            first | refine tq0 8 rfl ?_ | refine tq1 8 rfl ?_
            try go_frame
            first | refine tq0 9 rfl ?_ | refine tq1 9 rfl ?_
            try go_frame
            first | refine tq0 10 rfl ?_ | refine tq1 10 rfl ?_
            try go_frame
            first | refine tq0 11 rfl ?_ | refine tq1 11 rfl ?_
            try go_frame
            refine wpAnyH_ready (rs := [6]) (by kernel_rfl) (by simp) ?_
            refine AllReadyH.cons (o := ⟨_, _, _, _, _, _⟩) rfl (fun Kx hKx => ?_) AllReadyH.nil
            go_simp
            refine (HN.out _ B2.out).mono ?_
            rintro r w3 ⟨e, rfl, ho⟩
            have HO := Lib.hid ho
            have HR3 := Lib.hid (HR.out w3 (H2.out.r.kept H2.out.d ho.choose_spec.2.1).1 (Nat.le_trans H2.out.sz ho.choose_spec.2.1.size))
            have X3 := Lib.hid ((ho.choose_spec.2.1.blk (heap_lt12 X2.out) SC.out).trans X2.out)
            clear ho
            refine hKx.out _ _ ⟨by rw [Lib.cell_of_heap X3.out]; rfl, by rw [Lib.cell_of_heap X3.out]; rfl⟩ (fun hHeld => ?_)
            clear hKx Kx
            try simp only [Act.put, List.setIfInBounds_toArray, List.set_cons_zero, List.set_cons_succ]
            refine wpAnyH_ready (rs := [12]) (by kernel_rfl) (by simp) ?_
            refine AllReadyH.cons (o := ⟨_, _, _, _, _, _⟩) rfl (fun Kx hKx => ?_) AllReadyH.nil
            go_simp
            refine (HR3.out).mono ?_
            rintro r w4 ⟨rfl, rp⟩
            have X4 := Lib.hid ((rp.2.1.blk (heap_lt12 X3.out) (Q1.no NQ.out)).trans X3.out)
            have F2 := Lib.hid (both_of HI.out H2.out HO.out (fun _ _ => rp))
            have FF := Lib.hid (FIN.out _ _ _ _ _ (both_drop B2.out H1.out.r (fun k hk => (HI.out.lo H1.out.p k hk).2) H1.out.sz F2.out))
            clear rp
            refine hKx.out _ _ ⟨by rw [Lib.cell_of_heap X4.out]; rfl, by rw [Lib.cell_of_heap X4.out]; rfl⟩ (fun hHeld => ?_)
            clear hKx Kx
            try simp only [Act.put, List.setIfInBounds_toArray, List.set_cons_zero, List.set_cons_succ]
            first | refine tq0 13 rfl ?_ | refine tq1 13 rfl ?_
            try go_frame
            first | refine tq0 14 rfl ?_ | refine tq1 14 rfl ?_
            try go_frame
            first | refine tq0 15 rfl ?_ | refine tq1 15 rfl ?_
            try go_frame
            refine wpAnyH_done (by kernel_rfl) ?_ _
            clear hHeld
            go_wp2_with fail
            go_ret2
            exact ⟨_, _, rfl, by first | exact fun _ => rfl | exact fun h => absurd rfl h, by rw [E.out, E2.out]; exact FF.out.imp fun h => by subst h; simp⟩
end

end Go.Proofs.YtdpmpmaepjgndaaGreat
