/- The contracts of the document's Write and Sync. -/
import Derived.Test.YtbohcfflkcaijaaDkR1
import Derived.Test.YtbohcfflkcaijaaDkFill
import Derived.Test.YtbohcfflkcaijaaTakeQ
import Derived.Deep.DeepCutAuto
namespace Go.Proofs.Ytbohcfflkcaijaa
open Go.RowKit Go.Deep Go.Maps
set_option linter.unusedVariables false
set_option linter.unusedSimpArgs false
set_option maxRecDepth 100000

section
variable {T : TypeId} {b n : Nat} {G : Nat → Nat → Value} {v : Value} {u : World}
theorem RowB.cell1 (h : RowB T 1 b G n v u) {i : Nat} (hi : i < n) : u.cell? ⟨b, i, none⟩ = some (G i 0) := by
  have := h.c i hi 0 (by omega)
  rwa [Nat.mul_one, Nat.add_zero] at this
theorem RowB.put1 (h : RowB T 1 b G n v u) {i : Nat} (hi : i < n) (x : Value) {G2 : Nat → Nat → Value} (h0 : G2 i 0 = x) (ho : ∀ k, k < n → k ≠ i → G2 k 0 = G k 0) : RowB T 1 b G2 n v (u.setCell ⟨b, i, none⟩ x) := by
  have := h.set1 (j := 0) hi (by omega) x (G2 := G2) h0 (fun i2 h2 j2 hj2 hne => by
    obtain rfl : j2 = 0 := by omega
    exact ho i2 h2 fun e => hne ⟨e, rfl⟩)
  rwa [Nat.mul_one, Nat.add_zero] at this
end
def fixD (d : Dk) (i : Nat) (f : Nat → Int) : Dk := { d with sf := upd d.sf i f, is := upd d.is i false }
variable {base Q b1 b2 b3 c1 c2 c3 : Nat} {d : Dk} {u : World}
theorem RDk.put (h : RDk base Q b1 b2 b3 c1 c2 c3 d u) {k : Nat} (hk : k < d.n) (s : ByteArray) : RDk base Q b1 b2 b3 c1 c2 c3 (putD d k s) ((u.setCell ⟨b2, k, none⟩ (.string (sec (byD s)))).setCell ⟨b3, k, none⟩ (.bool true)) := by
  obtain ⟨n1, n2, n3, n4, n5, n6⟩ := h.nes
  obtain ⟨t, r, ht⟩ := h.r2
  refine ⟨((set_else _ n3).trans (set_else _ n2)).trans h.box, h.r1.kept ((set_else _ n5).trans (set_else _ n4)), ⟨upd t k (sec (byD s)), (RowB.put1 r hk _ ?_ fun i hi e => ?_).kept (set_else _ n6), fun i hi hs => ?_⟩, ?_, h.ne, h.lo⟩
  · simp [gT, upd]
  · simp [gT, upd, e]
  · show upd t k (sec (byD s)) i = sec (upd d.nw k (byD s) i)
    change upd d.is k true i = true at hs
    unfold upd at hs ⊢
    by_cases e : i = k
    · simp [e]
    · rw [if_neg e] at hs
      rw [if_neg e, if_neg e, ht i hi hs]
  · exact RowB.put1 (h.r3.kept (set_else _ n6.symm)) hk _ (by simp [gO, putD, upd]) fun i hi e => by simp [gO, putD, upd, e]
theorem RDk.fix (h : RDk base Q b1 b2 b3 c1 c2 c3 d u) {k : Nat} (hk : k < d.n) (f : Nat → Int) : RDk base Q b1 b2 b3 c1 c2 c3 (fixD d k f) ((u.setCell ⟨b1, k, none⟩ (.string (sec f))).setCell ⟨b3, k, none⟩ (.bool false)) := by
  obtain ⟨n1, n2, n3, n4, n5, n6⟩ := h.nes
  obtain ⟨t, r, ht⟩ := h.r2
  refine ⟨((set_else _ n3).trans (set_else _ n1)).trans h.box, (RowB.put1 h.r1 hk _ ?_ fun i hi e => ?_).kept (set_else _ n5), ⟨t, r.kept ((set_else _ n6).trans (set_else _ n4.symm)), fun i hi hs => ?_⟩, ?_, h.ne, h.lo⟩
  · simp [gT, fixD, upd]
  · simp [gT, fixD, upd, e]
  · change upd d.is k false i = true at hs
    unfold upd at hs
    by_cases e : i = k
    · simp [e] at hs
    · rw [if_neg e] at hs
      exact ht i hi hs
  · exact RowB.put1 (h.r3.kept (set_else _ n5.symm)) hk _ (by simp [gO, fixD, upd]) fun i hi e => by simp [gO, fixD, upd, e]

set_option maxHeartbeats 3200000 in
theorem rwrite_any (h : RDk base Q b1 b2 b3 c1 c2 c3 d u) (hb : BdD d) (i : Int) (s : ByteArray) (hs : s.size ≤ 1000000) : Calls Try.prog 20 #[.pointer (some ⟨Q, 0, none⟩), .int .i64 i, .string s] u fun r u' => r = .returned (.int .i64 (writeE d i)) ∧ RDk base Q b1 b2 b3 c1 c2 c3 (writeD d i s) u' ∧ KpS (R4 Q b1 b2 b3) u u' := by
  have R := Lib.hid h
  have HBD := Lib.hid hb
  have HS := Lib.hid hs
  obtain ⟨k0, k1, k2, k3, k4, k5, kf⟩ := h.cells
  unfold writeE writeD
  clear h hb hs kf
  go_enter Try.func20, Try.ntmps20
  cases hd : d.down with
  | true =>
    rw [hd] at k5
    go_wp2_with fail
    go_ret
    exact ⟨rfl, R.out, KpS.refl _ _⟩
  | false =>
    rw [hd] at k5
    by_cases h1 : i < 0
    · have d1 : decide (i < 0) = true := by simp [h1]
      have h9 : i < 0 ∨ (d.n : Int) ≤ i := .inl h1
      have H9 := Lib.hid h9
      clear h9
      go_wp2_with fail
      go_ret
      refine ⟨?_, ?_, KpS.refl _ _⟩
      · first
          | rfl
          | (simp only [if_pos H9.out]; rfl)
      · first
          | exact R.out
          | (rw [if_pos H9.out]; exact R.out)
          | (rw [if_neg (by decide), if_pos H9.out]; exact R.out)
    · have d1 : decide (i < 0) = false := by simp; omega
      by_cases h2 : (d.n : Int) ≤ i
      · have d2 : decide ((d.n : Int) ≤ i) = true := by simp [h2]
        have H9 := Lib.hid (show i < 0 ∨ (d.n : Int) ≤ i from .inr h2)
        go_wp2_with fail
        go_ret
        refine ⟨?_, ?_, KpS.refl _ _⟩
        · first
            | rfl
            | (simp only [if_pos H9.out]; rfl)
        · first
            | exact R.out
            | (rw [if_pos H9.out]; exact R.out)
            | (rw [if_neg (by decide), if_pos H9.out]; exact R.out)
      · have d2 : decide ((d.n : Int) ≤ i) = false := by simp; omega
        have H9 := Lib.hid (show ¬ (i < 0 ∨ (d.n : Int) ≤ i) by omega)
        obtain ⟨k, rfl⟩ : ∃ k : Nat, i = (k : Int) := ⟨i.toNat, by omega⟩
        have hk : k < d.n := by omega
        have hk0 : (0 : Int) ≤ (k : Int) := by omega
        have hlt : (k : Int) < (d.n : Int) := by omega
        have HF : Hid (∀ w, Calls Try.prog 22 #[.string s] w fun r u' => r = .returned (.string (sec (byD s))) ∧ Below w.heap.size w u') := Lib.hid fun w => rfill_any s HS.out w
        have HD := Lib.hid hd
        have HK := Lib.hid hk
        clear hd hk h1 h2
        go_upto_region 5 with fail
        refine wp_region_held_drew (S := (fun w' => w'.cell? ⟨Q, 1, none⟩ = some (.slice (some ⟨b2, 0, none⟩) d.n c2))) (by kernel_rfl) ?_ (fun hHeld => ?_)
        · exact (R.out.below (bdrew u)).cells.2.1
        have L1 := Lib.hid (bdrew u)
        change wpAnyH _ _ _ _ _ _ _ _ (World.drew u)
        generalize World.drew u = w1 at *
        first | refine tq0 0 rfl ?_ | refine tq1 0 rfl ?_
        try go_frame
        first | refine tq0 1 rfl ?_ | refine tq1 1 rfl ?_
        try go_frame
        first | refine tq0 2 rfl ?_ | refine tq1 2 rfl ?_
        try go_frame
        first | refine tq0 3 rfl ?_ | refine tq1 3 rfl ?_
        try go_frame
        first | refine tq0 4 rfl ?_ | refine tq1 4 rfl ?_
        try go_frame
        first | refine tq0 5 rfl ?_ | refine tq1 5 rfl ?_
        try go_frame
        refine wpAnyH_ready (rs := [6]) (by kernel_rfl) (by simp) ?_
        refine AllReadyH.cons (o := ⟨_, _, _, _, _, _⟩) rfl (fun K hK => ?_) AllReadyH.nil
        go_simp
        refine (HF.out _).mono ?_
        rintro e w2 ⟨rfl, hb2⟩
        have L2 := Lib.hid (L1.out.trans (hb2.mono L1.out.size))
        clear hb2
        refine hK.out _ _ ?_ (fun hHeld => ?_)
        · exact (R.out.below L2.out).cells.2.1
        clear hK K
        try simp only [Act.put, List.setIfInBounds_toArray, List.set_cons_zero, List.set_cons_succ]
        first | refine tq0 7 rfl ?_ | refine tq1 7 rfl ?_
        try go_frame
        have R2 := Lib.hid (R.out.below L2.out)
        obtain ⟨t2, r2, ht2⟩ := R2.out.r2
        have q2 := r2.cell1 HK.out
        have f2 := r2.frozen k
        have NE := Lib.hid R2.out.nes
        clear r2 ht2
        refine wpAnyH_ready (rs := [8]) (by kernel_rfl) (by simp) ?_
        refine AllReadyH.cons (o := ⟨_, _, _, _, _, _⟩) rfl (fun K hK => ?_) AllReadyH.nil
        go_simp
        refine hK.out _ _ ?_ (fun hHeld => ?_)
        · exact (World.cell?_of_block (set_else _ NE.out.2.1)).trans R2.out.cells.2.1
        clear hK K
        try simp only [Act.put, List.setIfInBounds_toArray, List.set_cons_zero, List.set_cons_succ]
        refine wpAnyH_done (by kernel_rfl) ?_ _
        have W4 := Lib.hid (R2.out.put HK.out s)
        have c9 : (w2.setCell ⟨b2, k, none⟩ (.string (sec (byD s)))).cell? ⟨Q, 2, none⟩ = some (.slice (some ⟨b3, 0, none⟩) d.n c3) := (World.cell?_of_block (set_else _ NE.out.2.1)).trans R2.out.cells.2.2.1
        have q3 : (w2.setCell ⟨b2, k, none⟩ (.string (sec (byD s)))).cell? ⟨b3, k, none⟩ = some (gO d.is k 0) := (World.cell?_of_block (set_else _ NE.out.2.2.2.2.2.symm)).trans (R2.out.r3.cell1 HK.out)
        have f3 : (w2.setCell ⟨b2, k, none⟩ (.string (sec (byD s)))).frozen? ⟨b3, k, none⟩ = false := (R2.out.r3.kept (set_else _ NE.out.2.2.2.2.2.symm)).frozen k
        have K4 := Lib.hid (((KpS.of L2.out : KpS (R4 Q b1 b2 b3) u w2).trans (KpS.set (R4.c Q b1 b2 b3) k (.string (sec (byD s))) w2)).trans (KpS.set (R4.d Q b1 b2 b3) k (.bool true) _))
        clear hHeld k0 k1 k2 k3 k4 k5
        generalize w2.setCell ⟨b2, k, none⟩ (.string (sec (byD s))) = w3 at *
        have H5 := Lib.hid (rcount_any W4.out ⟨HBD.out.n, HBD.out.calls, HBD.out.arm⟩ HD.out)
        go_wp2_with fail
        refine (H5.out).mono ?_
        rintro e w5 ⟨rfl, r5, k5⟩
        have R5 := Lib.hid r5
        have K5 := Lib.hid (K4.out.trans k5)
        clear r5 k5
        go_wp2_with fail
        go_ret
        refine ⟨?_, ?_, K5.out⟩
        · first
            | rfl
            | (rw [if_neg H9.out]; rfl)
        · first
            | exact R5.out
            | (have := R5.out; rw [← HD.out]; exact this)
            | (rw [if_neg H9.out]; exact R5.out)

def sncD (d : Dk) (j : Nat) : Dk := { d with sf := fun i => if i < j then nowD d i else d.sf i, is := fun i => if i < j then false else d.is i }
theorem snc_now (d : Dk) (j k : Nat) (h : j ≤ k) : nowD (sncD d j) k = nowD d k := by
  have e : ¬ k < j := by omega
  simp [nowD, sncD, e]
theorem snc_step {k : Nat} (h : RDk base Q b1 b2 b3 c1 c2 c3 (fixD (sncD d k) k (nowD d k)) u) : RDk base Q b1 b2 b3 c1 c2 c3 (sncD d (k + 1)) u := by
  refine h.congr rfl rfl rfl rfl (fun i hi => ?_) (fun i hi j hj => ?_) (fun _ _ _ _ _ => rfl)
  · show (if i < k + 1 then false else d.is i) = upd (fun i => if i < k then false else d.is i) k false i
    unfold upd
    by_cases e : i = k
    · subst e; simp
    · rw [if_neg e]
      by_cases e2 : i < k
      · simp only [if_pos e2, if_pos (show i < k + 1 by omega)]
      · simp only [if_neg e2, if_neg (show ¬ i < k + 1 by omega)]
  · show (if i < k + 1 then nowD d i else d.sf i) j = upd (fun i => if i < k then nowD d i else d.sf i) k (nowD d k) i j
    unfold upd
    by_cases e : i = k
    · subst e; simp
    · rw [if_neg e]
      by_cases e2 : i < k
      · simp only [if_pos e2, if_pos (show i < k + 1 by omega)]
      · simp only [if_neg e2, if_neg (show ¬ i < k + 1 by omega)]
theorem snc_end (h : RDk base Q b1 b2 b3 c1 c2 c3 (sncD d d.n) u) : RDk base Q b1 b2 b3 c1 c2 c3 (safeD d) u := by
  have hx : ∀ i, i < d.n → (sncD d d.n).is i = false := fun i hi => if_pos hi
  refine h.congr rfl rfl rfl rfl (fun i hi => (hx i hi).symm) (fun i hi j hj => ?_) (fun i hi hs => ?_)
  · show nowD d i j = (if i < d.n then nowD d i else d.sf i) j
    rw [if_pos (show i < d.n from hi)]
  · rw [hx i hi] at hs; cases hs
theorem RDk.snc0 (h : RDk base Q b1 b2 b3 c1 c2 c3 d u) : RDk base Q b1 b2 b3 c1 c2 c3 (sncD d 0) u := h
set_option maxHeartbeats 3200000 in
theorem rsync_any (h : RDk base Q b1 b2 b3 c1 c2 c3 d u) (hb : BdD d) : Calls Try.prog 37 #[.pointer (some ⟨Q, 0, none⟩)] u fun r u' => r = .returned (.int .i64 (syncE d)) ∧ RDk base Q b1 b2 b3 c1 c2 c3 (syncD d) u' ∧ KpS (R4 Q b1 b2 b3) u u' := by
  have R := Lib.hid h
  have hn := hb.n
  obtain ⟨k0, k1, k2, k3, k4, k5, kf⟩ := h.cells
  unfold syncE syncD
  clear kf
  go_enter Try.func37, Try.ntmps37
  cases hd : d.down with
  | true =>
    rw [hd] at k5
    clear h hb
    go_wp2_with fail
    go_ret
    exact ⟨rfl, R.out, KpS.refl _ _⟩
  | false =>
    rw [hd] at k5
    have H2 := Lib.hid (rcount_any h hb hd)
    clear h hb
    go_wp2_with fail
    refine (H2.out).mono ?_
    rintro e w2 ⟨rfl, r2, q2⟩
    have R2 := Lib.hid r2
    have K2 := Lib.hid q2
    clear r2 q2 k0 k1 k2 k3 k4 k5
    by_cases h1 : d.arm = 1
    · have e1 : countE d = 13 := by simp [countE, h1]
      rw [e1]
      go_wp2_with fail
      go_ret
      refine ⟨rfl, ?_, K2.out⟩
      first
        | exact R2.out
        | (rw [if_neg (by decide), if_pos h1]; exact R2.out)
        | (rw [if_pos h1]; exact R2.out)
    · have e1 : countE d = 0 := by simp [countE, h1]
      rw [e1]
      have hn2 : (countD d).n = d.n := count_n d
      obtain ⟨n, hq⟩ : ∃ n, n = d.n := ⟨_, rfl⟩
      rw [← hq] at hn hn2
      have HN2 := Lib.hid hn2
      have HQ := Lib.hid hq
      have H1 := Lib.hid h1
      have E1 := Lib.hid e1
      clear hq h1 e1 hn2
      obtain ⟨x, hx⟩ : ∃ x, x = countD d := ⟨_, rfl⟩
      rw [← hx] at HN2 R2
      have HX := Lib.hid hx
      clear hx
      go_wp2_with fail
      go_loopw [4] (fun i wr => ∃ j : Nat, j ≤ n ∧ i = .int .i64 j ∧ RDk base Q b1 b2 b3 c1 c2 c3 (sncD x j) wr ∧ KpS (R4 Q b1 b2 b3) u wr) (fun i _ => n - (intOf i).toNat)
      case atStart => exact ⟨0, Nat.zero_le _, rfl, R2.out.snc0, K2.out⟩
      case round =>
        obtain ⟨j, hj, rfl, hr, hk⟩ := hrel
        have RJ := Lib.hid hr
        have KJ := Lib.hid hk
        have en : (sncD x j).n = n := HN2.out
        obtain ⟨k0, k1, k2, k3, k4, k5, kf⟩ := hr.cells
        rw [en] at k0 k1 k2
        have hj0 : (0 : Int) ≤ (j : Int) := by omega
        by_cases hlt : j < n
        · have hj2 : (j : Int) < (n : Int) := by omega
          have d1 : decide ((j : Int) < (n : Int)) = true := by simp [hlt]
          have HN := Lib.hid (show ∀ w, w = wr.drew → Calls Try.prog 21 #[.pointer (some ⟨Q, 0, none⟩), .int .i64 (j : Int)] w fun r u' => r = .returned (.string (sec (nowD x j))) ∧ u' = w from fun w hw => by
            have := rnow_any (hw ▸ hr.below (bdrew wr) : RDk base Q b1 b2 b3 c1 c2 c3 (sncD x j) w) j (by rw [en]; exact hlt) (by rw [en]; omega)
            rw [snc_now x j j (Nat.le_refl _)] at this
            exact this)
          have HJ := Lib.hid hlt
          clear hr hk kf hlt
          go_upto_region 9 with fail
          refine wp_region_held_drew (S := (fun w' => w'.cell? ⟨Q, 0, none⟩ = some (.slice (some ⟨b1, 0, none⟩) n c1))) (by kernel_rfl) ?_ (fun hHeld => ?_)
          · have := (RJ.out.below (bdrew wr)).cells.1
            rw [en] at this
            exact this
          have L1 := Lib.hid (bdrew wr)
          have HN1 := Lib.hid (HN.out _ rfl)
          change wpAnyH _ _ _ _ _ _ _ _ (World.drew wr)
          clear HN k0 k1 k2 k3 k4 k5
          generalize World.drew wr = w1 at *
          first | refine tq0 0 rfl ?_ | refine tq1 0 rfl ?_
          try go_frame
          first | refine tq0 1 rfl ?_ | refine tq1 1 rfl ?_
          try go_frame
          first | refine tq0 2 rfl ?_ | refine tq1 2 rfl ?_
          try go_frame
          first | refine tq0 3 rfl ?_ | refine tq1 3 rfl ?_
          try go_frame
          first | refine tq0 4 rfl ?_ | refine tq1 4 rfl ?_
          try go_frame
          first | refine tq0 5 rfl ?_ | refine tq1 5 rfl ?_
          try go_frame
          first | refine tq0 6 rfl ?_ | refine tq1 6 rfl ?_
          try go_frame
          refine wpAnyH_ready (rs := [7]) (by kernel_rfl) (by simp) ?_
          refine AllReadyH.cons (o := ⟨_, _, _, _, _, _⟩) rfl (fun K hK => ?_) AllReadyH.nil
          go_simp
          refine (HN1.out).mono ?_
          rintro e w3 ⟨rfl, rfl⟩
          refine hK.out _ _ hHeld (fun hHeld => ?_)
          clear hK K
          try simp only [Act.put, List.setIfInBounds_toArray, List.set_cons_zero, List.set_cons_succ]
          first | refine tq0 8 rfl ?_ | refine tq1 8 rfl ?_
          try go_frame
          have R3 := Lib.hid (RJ.out.below L1.out)
          have HJ2 := Lib.hid (show j < (sncD x j).n by rw [en]; exact HJ.out)
          have q2 := R3.out.r1.cell1 HJ2.out
          have f2 := R3.out.r1.frozen j
          have NE := Lib.hid R3.out.nes
          refine wpAnyH_ready (rs := [9]) (by kernel_rfl) (by simp) ?_
          refine AllReadyH.cons (o := ⟨_, _, _, _, _, _⟩) rfl (fun K hK => ?_) AllReadyH.nil
          go_simp
          refine hK.out _ _ ?_ (fun hHeld => ?_)
          · have := R3.out.cells.1
            rw [en] at this
            exact (World.cell?_of_block (set_else _ NE.out.1)).trans this
          clear hK K
          try simp only [Act.put, List.setIfInBounds_toArray, List.set_cons_zero, List.set_cons_succ]
          refine wpAnyH_done (by kernel_rfl) ?_ _
          have W4 := Lib.hid (R3.out.fix HJ2.out (nowD x j))
          have c9 : (w3.setCell ⟨b1, j, none⟩ (.string (sec (nowD x j)))).cell? ⟨Q, 2, none⟩ = some (.slice (some ⟨b3, 0, none⟩) n c3) := by
            have := R3.out.cells.2.2.1
            rw [en] at this
            exact (World.cell?_of_block (set_else _ NE.out.1)).trans this
          have q3 : (w3.setCell ⟨b1, j, none⟩ (.string (sec (nowD x j)))).cell? ⟨b3, j, none⟩ = some (gO (sncD x j).is j 0) := (World.cell?_of_block (set_else _ NE.out.2.2.2.2.1.symm)).trans (R3.out.r3.cell1 HJ2.out)
          have f3 : (w3.setCell ⟨b1, j, none⟩ (.string (sec (nowD x j)))).frozen? ⟨b3, j, none⟩ = false := (R3.out.r3.kept (set_else _ NE.out.2.2.2.2.1.symm)).frozen j
          have K4 := Lib.hid (((KJ.out.on L1.out).trans (KpS.set (R4.b Q b1 b2 b3) j (.string (sec (nowD x j))) w3)).trans (KpS.set (R4.d Q b1 b2 b3) j (.bool false) _))
          clear hHeld
          generalize w3.setCell ⟨b1, j, none⟩ (.string (sec (nowD x j))) = w4 at *
          go_wp2_with fail
          go_roundw
          case rel => exact ⟨j + 1, HJ.out, by go_num, snc_step W4.out, K4.out⟩
          case measure => have := HJ.out; simp [intOf]; omega
        · obtain rfl : j = n := by omega
          have d1 : decide ((j : Int) < (j : Int)) = false := by simp
          have E : Hid (RDk base Q b1 b2 b3 c1 c2 c3 (safeD x) wr) := snc_end (by rw [HN2.out]; exact RJ.out)
          clear hr hk kf
          go_wp2_with fail
          go_ret
          refine ⟨by rw [E1.out]; rfl, ?_, KJ.out⟩
          rw [HX.out] at E
          first
            | exact E.out
            | (rw [if_neg (by decide), if_neg H1.out]; exact E.out)
            | (rw [if_neg H1.out]; exact E.out)

end Go.Proofs.Ytbohcfflkcaijaa
