/- The laws' calls of both disks: what a call does, what comes of many, what must come at any rate. -/
import Derived.Test.YtbohcfflkcaijaaDkP6
import Derived.Test.YtbohcfflkcaijaaDkR4
namespace Go.Proofs.Ytbohcfflkcaijaa
open Go.RowKit Go.Deep Go.Maps
set_option linter.unusedVariables false
set_option linter.unusedSimpArgs false
set_option maxRecDepth 100000

/-- a call -/
structure Ac where
  kind : Int
  i : Int
  s : ByteArray
  keep : List Bool
  t : Int
  b : Int
def bd64 (x : Int) : Prop := -9223372036854775808 ≤ x ∧ x ≤ 9223372036854775807
structure AcAt (base : Nat) (a : Ac) (v : Value) (u : World) : Prop where
  kind : bd64 a.kind
  i : bd64 a.i
  s : a.s.size ≤ 9223372036854775807
  c : CrA base a.keep a.t a.b v u
theorem AcAt.below {base : Nat} {a : Ac} {v : Value} {u u2 : World} (h : AcAt base a v u) (k : Below base u u2) : AcAt base a v u2 := ⟨h.kind, h.i, h.s, h.c.below k⟩
def acV (a : Ac) (v : Value) : List Value := [.int .i64 a.kind, .int .i64 a.i, .string a.s, v, .int .i64 a.t, .int .i64 a.b]
def doD (d : Dk) (a : Ac) : Dk :=
  if a.kind = 0 ∨ a.kind = 1 ∨ a.kind = 2 then writeD d a.i a.s else if a.kind = 3 then syncD d else if a.kind = 4 then armD d a.i else crashD d a.keep a.t a.b
/-- both disks -/
structure Both (base P bS bm cS Q b1 b2 b3 c1 c2 c3 : Nat) (d : Dk) (u : World) : Prop where
  p : PDk base P bS bm cS d u
  r : RDk base Q b1 b2 b3 c1 c2 c3 d u
  ok : OkD d
  sz : base ≤ u.heap.size
section
variable {base P bS bm cS Q b1 b2 b3 c1 c2 c3 : Nat} {d : Dk} {u : World}
theorem Both.below {u2 : World} (h : Both base P bS bm cS Q b1 b2 b3 c1 c2 c3 d u) (k : Below u.heap.size u u2) : Both base P bS bm cS Q b1 b2 b3 c1 c2 c3 d u2 := ⟨h.p.below k, h.r.below k, h.ok, Nat.le_trans h.sz k.size⟩
theorem bd_of (h : OkD d) {m : Nat} (hm : d.calls ≤ m) (hm2 : m < 1000000) (ha : d.arm ≤ 9223372036854775807) : BdD d := ⟨h.n.2, by omega, ha⟩
theorem count_calls (d : Dk) : (countD d).calls = d.calls + 1 ∧ (countD d).arm ≤ d.arm := by
  unfold countD; split
  · exact ⟨rfl, Nat.zero_le _⟩
  · exact ⟨rfl, Nat.sub_le _ _⟩
theorem do_bd (d : Dk) (a : Ac) (hi : bd64 a.i) (ha : d.arm ≤ 9223372036854775807) : (doD d a).calls ≤ d.calls + 1 ∧ (doD d a).arm ≤ 9223372036854775807 := by
  have hc := count_calls d
  have hb := hi
  unfold bd64 at hb
  unfold doD
  split
  · unfold writeD
    split
    · exact ⟨by omega, ha⟩
    · split
      · exact ⟨by omega, ha⟩
      · have := count_calls { d with nw := upd d.nw a.i.toNat (byD a.s), is := upd d.is a.i.toNat true }
        exact ⟨Nat.le_of_eq this.1, Nat.le_trans this.2 ha⟩
  · split
    · unfold syncD
      split
      · exact ⟨by omega, ha⟩
      · split
        · omega
        · show (countD d).calls ≤ _ ∧ (countD d).arm ≤ _
          omega
    · split
      · unfold armD
        split
        · exact ⟨by omega, ha⟩
        · split
          · exact ⟨by omega, ha⟩
          · show d.calls ≤ _ ∧ a.i.toNat ≤ _
            omega
      · show d.calls ≤ _ ∧ 0 ≤ _
        omega
theorem OkD.do (h : OkD d) (a : Ac) : OkD (doD d a) := by
  unfold doD
  split
  · exact h.write _ _
  · split
    · exact h.sync
    · split
      · exact h.arm _
      · exact h.crash _ _ _
theorem do_n (d : Dk) (a : Ac) : (doD d a).n = d.n := by
  unfold doD
  split
  · exact write_n _ _ _
  · split
    · exact sync_n _
    · split
      · exact arm_n _ _
      · rfl
end
section
variable {base P bS bm cS Q b1 b2 b3 c1 c2 c3 : Nat} {d : Dk} {u u2 u3 : World}
/-- one is written, then the other -/
theorem Both.next {bm2 : Nat} {d2 : Dk} (h : Both base P bS bm cS Q b1 b2 b3 c1 c2 c3 d u) (hp : PDk base P bS bm2 cS d2 u2) (k1 : KpS (P3 P bS bm) u u2) : RDk base Q b1 b2 b3 c1 c2 c3 d u2 ∧ Below base u u2 ∧ base ≤ u2.heap.size :=
  ⟨h.r.stays h.p k1, h.p.bot k1 h.sz, Nat.le_trans h.sz k1.size⟩
theorem Both.last {bm2 : Nat} {d2 : Dk} (h : Both base P bS bm cS Q b1 b2 b3 c1 c2 c3 d u) (hp : PDk base P bS bm2 cS d2 u2) (k1 : KpS (P3 P bS bm) u u2) (hr : RDk base Q b1 b2 b3 c1 c2 c3 d2 u3) (k2 : KpS (R4 Q b1 b2 b3) u2 u3) (ho : OkD d2) : Both base P bS bm2 cS Q b1 b2 b3 c1 c2 c3 d2 u3 ∧ Below base u u3 := by
  obtain ⟨h1, h2, h3⟩ := h.next hp k1
  exact ⟨⟨hp.stays h1 k2, hr, ho, Nat.le_trans h3 k2.size⟩, h2.trans (h1.bot k2 h3)⟩
set_option maxHeartbeats 6400000 in
theorem do_any (h : Both base P bS bm cS Q b1 b2 b3 c1 c2 c3 d u) (hb : BdD d) {a : Ac} {v : Value} (ha : AcAt base a v u) (hs : a.s.size ≤ 1000000) : Calls Try.prog 28 #[.pointer (some ⟨P, 0, none⟩), .pointer (some ⟨Q, 0, none⟩), .agg (acV a v).toArray] u fun r u' => r = .returned (.bool true) ∧ (∃ bm2, Both base P bS bm2 cS Q b1 b2 b3 c1 c2 c3 (doD d a) u') ∧ Below base u u' := by
  obtain ⟨kind, i, s, keep, t, b⟩ := a
  have HB := Lib.hid hb
  have HS := Lib.hid hs
  change Calls _ _ #[_, _, .agg #[.int .i64 kind, .int .i64 i, .string s, v, .int .i64 t, .int .i64 b]] _ _
  have X1 := Lib.hid (heap_alloc_new u (.cells #[.int .i64 kind, .int .i64 i, .string s, v, .int .i64 t, .int .i64 b] 49))
  have B1 := Lib.hid (balloc u (.cells #[.int .i64 kind, .int .i64 i, .string s, v, .int .i64 t, .int .i64 b] 49))
  have H1 := Lib.hid (h.below B1.out)
  have A1 := Lib.hid (ha.below (B1.out.mono h.sz))
  have K1 := Lib.hid (B1.out.mono h.sz)
  have NP : Hid (P3 P bS bm u.heap.size = false) := Lib.hid (P3.no (by have := h.p.lt; omega) (by have := h.p.lt; omega) (by have := h.p.lt; omega))
  have NR : Hid (R4 Q b1 b2 b3 u.heap.size = false) := Lib.hid (R4.no (by have := h.r.lt; omega) (by have := h.r.lt; omega) (by have := h.r.lt; omega) (by have := h.r.lt; omega))
  obtain ⟨C, hC⟩ : ∃ C, C = u.heap.size := ⟨_, rfl⟩
  rw [← hC] at X1 NP NR
  clear h hb ha hs
  go_enter Try.func28, Try.ntmps28
  go_upto_region 1 with fail
  rw [← hC]
  clear hC B1
  generalize u.alloc (.cells #[.int .i64 kind, .int .i64 i, .string s, v, .int .i64 t, .int .i64 b] 49) = w1 at *
  have x0 : w1.cell? ⟨C, 0, none⟩ = some (.int .i64 kind) := by rw [Lib.cell_of_heap X1.out]; rfl
  have x1 : w1.cell? ⟨C, 1, none⟩ = some (.int .i64 i) := by rw [Lib.cell_of_heap X1.out]; rfl
  have x2 : w1.cell? ⟨C, 2, none⟩ = some (.string s) := by rw [Lib.cell_of_heap X1.out]; rfl
  have x3 : w1.cell? ⟨C, 3, none⟩ = some v := by rw [Lib.cell_of_heap X1.out]; rfl
  have x4 : w1.cell? ⟨C, 4, none⟩ = some (.int .i64 t) := by rw [Lib.cell_of_heap X1.out]; rfl
  have x5 : w1.cell? ⟨C, 5, none⟩ = some (.int .i64 b) := by rw [Lib.cell_of_heap X1.out]; rfl
  by_cases hw : kind = 0 ∨ kind = 1 ∨ kind = 2
  · have E : Hid (doD d ⟨kind, i, s, keep, t, b⟩ = writeD d i s) := Lib.hid (if_pos hw)
    have GO : Hid (∀ w, w = w1.drew → Calls Try.prog 19 #[.pointer (some ⟨P, 0, none⟩), .int .i64 i, .string s] w fun r u' => r = .returned (.int .i64 (writeE d i)) ∧ PDk base P bS bm cS (writeD d i s) u' ∧ KpS (P3 P bS bm) w u') := Lib.hid fun w hw => by
      subst hw; exact pwrite_any (H1.out.below (bdrew w1)).p HB.out i s
    have GO2 : Hid (∀ w, RDk base Q b1 b2 b3 c1 c2 c3 d w → Calls Try.prog 20 #[.pointer (some ⟨Q, 0, none⟩), .int .i64 i, .string s] w fun r u' => r = .returned (.int .i64 (writeE d i)) ∧ RDk base Q b1 b2 b3 c1 c2 c3 (writeD d i s) u' ∧ KpS (R4 Q b1 b2 b3) w u') := Lib.hid fun w hr => rwrite_any hr HB.out i s HS.out
    rcases hw with rfl | rfl | rfl
    · go_upto_region 5 with fail
      refine wp_region_held_drew (S := (fun w' => w'.cell? ⟨C, 1, none⟩ = some (.int .i64 i) ∧ w'.cell? ⟨C, 2, none⟩ = some (.string s))) (by kernel_rfl) ⟨x1, x2⟩ (fun hHeld => ?_)
      have GP := Lib.hid (GO.out _ rfl)
      have H2 := Lib.hid (H1.out.below (bdrew w1))
      have K2 := Lib.hid (K1.out.trans ((bdrew w1).mono H1.out.sz))
      have X2 := Lib.hid (show (World.drew w1).heap[C]? = some (.cells #[.int .i64 _, .int .i64 i, .string s, v, .int .i64 t, .int .i64 b] 49 (0, 0)) from X1.out)
      change wpAnyH _ _ _ _ _ _ _ _ (World.drew w1)
      clear GO x0 x1 x2 x3 x4 x5
      generalize World.drew w1 = w2 at *
      first | refine tq0 0 rfl ?_ | refine tq1 0 rfl ?_
      try go_frame
      first | refine tq0 1 rfl ?_ | refine tq1 1 rfl ?_
      try go_frame
      first | refine tq0 2 rfl ?_ | refine tq1 2 rfl ?_
      try go_frame
      first | refine tq0 3 rfl ?_ | refine tq1 3 rfl ?_
      try go_frame
      first | refine tq0 4 rfl ?_ | refine tq1 4 rfl ?_
      try go_frame
      first | refine tq0 6 rfl ?_ | refine tq1 6 rfl ?_
      try go_frame
      first | refine tq0 7 rfl ?_ | refine tq1 7 rfl ?_
      try go_frame
      first | refine tq0 8 rfl ?_ | refine tq1 8 rfl ?_
      try go_frame
      first | refine tq0 9 rfl ?_ | refine tq1 9 rfl ?_
      try go_frame
      first | refine tq0 10 rfl ?_ | refine tq1 10 rfl ?_
      try go_frame
      refine wpAnyH_ready (rs := [5]) (by kernel_rfl) (by simp) ?_
      refine AllReadyH.cons (o := ⟨_, _, _, _, _, _⟩) rfl (fun K hK => ?_) AllReadyH.nil
      go_simp
      refine (GP.out).mono ?_
      rintro e w3 ⟨rfl, hp3, k3⟩
      have HP3 := Lib.hid hp3
      have K3 := Lib.hid k3
      have N3 := Lib.hid (H2.out.next hp3 k3)
      have X3 := Lib.hid ((k3.blk (lt_of_block X2.out) NP.out).trans X2.out)
      clear hp3 k3
      refine hK.out _ _ ?_ (fun hHeld => ?_)
      · exact ⟨by rw [Lib.cell_of_heap X3.out]; rfl, by rw [Lib.cell_of_heap X3.out]; rfl⟩
      clear hK K
      try simp only [Act.put, List.setIfInBounds_toArray, List.set_cons_zero, List.set_cons_succ]
      refine wpAnyH_ready (rs := [11]) (by kernel_rfl) (by simp) ?_
      refine AllReadyH.cons (o := ⟨_, _, _, _, _, _⟩) rfl (fun K hK => ?_) AllReadyH.nil
      go_simp
      refine (GO2.out _ N3.out.1).mono ?_
      rintro e w4 ⟨rfl, hr4, k4⟩
      have X4 := Lib.hid ((k4.blk (lt_of_block X3.out) NR.out).trans X3.out)
      have F4 := Lib.hid (H2.out.last HP3.out K3.out hr4 k4 (H2.out.ok.write i s))
      clear hr4 k4
      refine hK.out _ _ ?_ (fun hHeld => ?_)
      · exact ⟨by rw [Lib.cell_of_heap X4.out]; rfl, by rw [Lib.cell_of_heap X4.out]; rfl⟩
      clear hK K
      try simp only [Act.put, List.setIfInBounds_toArray, List.set_cons_zero, List.set_cons_succ]
      first | refine tq0 12 rfl ?_ | refine tq1 12 rfl ?_
      try go_frame
      first | refine tq0 13 rfl ?_ | refine tq1 13 rfl ?_
      try go_frame
      refine wpAnyH_done (by kernel_rfl) ?_ _
      clear hHeld
      generalize writeE d i = er at *
      go_wp2_with fail
      go_ret
      first
        | exact ⟨rfl, ⟨bm, by rw [E.out]; exact F4.out.1⟩, K2.out.trans F4.out.2⟩
        | exact ⟨by simp, ⟨bm, by rw [E.out]; exact F4.out.1⟩, K2.out.trans F4.out.2⟩

    · go_upto_region 5 with fail
      refine wp_region_held_drew (S := (fun w' => w'.cell? ⟨C, 1, none⟩ = some (.int .i64 i) ∧ w'.cell? ⟨C, 2, none⟩ = some (.string s))) (by kernel_rfl) ⟨x1, x2⟩ (fun hHeld => ?_)
      have GP := Lib.hid (GO.out _ rfl)
      have H2 := Lib.hid (H1.out.below (bdrew w1))
      have K2 := Lib.hid (K1.out.trans ((bdrew w1).mono H1.out.sz))
      have X2 := Lib.hid (show (World.drew w1).heap[C]? = some (.cells #[.int .i64 _, .int .i64 i, .string s, v, .int .i64 t, .int .i64 b] 49 (0, 0)) from X1.out)
      change wpAnyH _ _ _ _ _ _ _ _ (World.drew w1)
      clear GO x0 x1 x2 x3 x4 x5
      generalize World.drew w1 = w2 at *
      first | refine tq0 0 rfl ?_ | refine tq1 0 rfl ?_
      try go_frame
      first | refine tq0 1 rfl ?_ | refine tq1 1 rfl ?_
      try go_frame
      first | refine tq0 2 rfl ?_ | refine tq1 2 rfl ?_
      try go_frame
      first | refine tq0 3 rfl ?_ | refine tq1 3 rfl ?_
      try go_frame
      first | refine tq0 4 rfl ?_ | refine tq1 4 rfl ?_
      try go_frame
      first | refine tq0 6 rfl ?_ | refine tq1 6 rfl ?_
      try go_frame
      first | refine tq0 7 rfl ?_ | refine tq1 7 rfl ?_
      try go_frame
      first | refine tq0 8 rfl ?_ | refine tq1 8 rfl ?_
      try go_frame
      first | refine tq0 9 rfl ?_ | refine tq1 9 rfl ?_
      try go_frame
      first | refine tq0 10 rfl ?_ | refine tq1 10 rfl ?_
      try go_frame
      refine wpAnyH_ready (rs := [5]) (by kernel_rfl) (by simp) ?_
      refine AllReadyH.cons (o := ⟨_, _, _, _, _, _⟩) rfl (fun K hK => ?_) AllReadyH.nil
      go_simp
      refine (GP.out).mono ?_
      rintro e w3 ⟨rfl, hp3, k3⟩
      have HP3 := Lib.hid hp3
      have K3 := Lib.hid k3
      have N3 := Lib.hid (H2.out.next hp3 k3)
      have X3 := Lib.hid ((k3.blk (lt_of_block X2.out) NP.out).trans X2.out)
      clear hp3 k3
      refine hK.out _ _ ?_ (fun hHeld => ?_)
      · exact ⟨by rw [Lib.cell_of_heap X3.out]; rfl, by rw [Lib.cell_of_heap X3.out]; rfl⟩
      clear hK K
      try simp only [Act.put, List.setIfInBounds_toArray, List.set_cons_zero, List.set_cons_succ]
      refine wpAnyH_ready (rs := [11]) (by kernel_rfl) (by simp) ?_
      refine AllReadyH.cons (o := ⟨_, _, _, _, _, _⟩) rfl (fun K hK => ?_) AllReadyH.nil
      go_simp
      refine (GO2.out _ N3.out.1).mono ?_
      rintro e w4 ⟨rfl, hr4, k4⟩
      have X4 := Lib.hid ((k4.blk (lt_of_block X3.out) NR.out).trans X3.out)
      have F4 := Lib.hid (H2.out.last HP3.out K3.out hr4 k4 (H2.out.ok.write i s))
      clear hr4 k4
      refine hK.out _ _ ?_ (fun hHeld => ?_)
      · exact ⟨by rw [Lib.cell_of_heap X4.out]; rfl, by rw [Lib.cell_of_heap X4.out]; rfl⟩
      clear hK K
      try simp only [Act.put, List.setIfInBounds_toArray, List.set_cons_zero, List.set_cons_succ]
      first | refine tq0 12 rfl ?_ | refine tq1 12 rfl ?_
      try go_frame
      first | refine tq0 13 rfl ?_ | refine tq1 13 rfl ?_
      try go_frame
      refine wpAnyH_done (by kernel_rfl) ?_ _
      clear hHeld
      generalize writeE d i = er at *
      go_wp2_with fail
      go_ret
      first
        | exact ⟨rfl, ⟨bm, by rw [E.out]; exact F4.out.1⟩, K2.out.trans F4.out.2⟩
        | exact ⟨by simp, ⟨bm, by rw [E.out]; exact F4.out.1⟩, K2.out.trans F4.out.2⟩

    · go_upto_region 5 with fail
      refine wp_region_held_drew (S := (fun w' => w'.cell? ⟨C, 1, none⟩ = some (.int .i64 i) ∧ w'.cell? ⟨C, 2, none⟩ = some (.string s))) (by kernel_rfl) ⟨x1, x2⟩ (fun hHeld => ?_)
      have GP := Lib.hid (GO.out _ rfl)
      have H2 := Lib.hid (H1.out.below (bdrew w1))
      have K2 := Lib.hid (K1.out.trans ((bdrew w1).mono H1.out.sz))
      have X2 := Lib.hid (show (World.drew w1).heap[C]? = some (.cells #[.int .i64 _, .int .i64 i, .string s, v, .int .i64 t, .int .i64 b] 49 (0, 0)) from X1.out)
      change wpAnyH _ _ _ _ _ _ _ _ (World.drew w1)
      clear GO x0 x1 x2 x3 x4 x5
      generalize World.drew w1 = w2 at *
      first | refine tq0 0 rfl ?_ | refine tq1 0 rfl ?_
      try go_frame
      first | refine tq0 1 rfl ?_ | refine tq1 1 rfl ?_
      try go_frame
      first | refine tq0 2 rfl ?_ | refine tq1 2 rfl ?_
      try go_frame
      first | refine tq0 3 rfl ?_ | refine tq1 3 rfl ?_
      try go_frame
      first | refine tq0 4 rfl ?_ | refine tq1 4 rfl ?_
      try go_frame
      first | refine tq0 6 rfl ?_ | refine tq1 6 rfl ?_
      try go_frame
      first | refine tq0 7 rfl ?_ | refine tq1 7 rfl ?_
      try go_frame
      first | refine tq0 8 rfl ?_ | refine tq1 8 rfl ?_
      try go_frame
      first | refine tq0 9 rfl ?_ | refine tq1 9 rfl ?_
      try go_frame
      first | refine tq0 10 rfl ?_ | refine tq1 10 rfl ?_
      try go_frame
      refine wpAnyH_ready (rs := [5]) (by kernel_rfl) (by simp) ?_
      refine AllReadyH.cons (o := ⟨_, _, _, _, _, _⟩) rfl (fun K hK => ?_) AllReadyH.nil
      go_simp
      refine (GP.out).mono ?_
      rintro e w3 ⟨rfl, hp3, k3⟩
      have HP3 := Lib.hid hp3
      have K3 := Lib.hid k3
      have N3 := Lib.hid (H2.out.next hp3 k3)
      have X3 := Lib.hid ((k3.blk (lt_of_block X2.out) NP.out).trans X2.out)
      clear hp3 k3
      refine hK.out _ _ ?_ (fun hHeld => ?_)
      · exact ⟨by rw [Lib.cell_of_heap X3.out]; rfl, by rw [Lib.cell_of_heap X3.out]; rfl⟩
      clear hK K
      try simp only [Act.put, List.setIfInBounds_toArray, List.set_cons_zero, List.set_cons_succ]
      refine wpAnyH_ready (rs := [11]) (by kernel_rfl) (by simp) ?_
      refine AllReadyH.cons (o := ⟨_, _, _, _, _, _⟩) rfl (fun K hK => ?_) AllReadyH.nil
      go_simp
      refine (GO2.out _ N3.out.1).mono ?_
      rintro e w4 ⟨rfl, hr4, k4⟩
      have X4 := Lib.hid ((k4.blk (lt_of_block X3.out) NR.out).trans X3.out)
      have F4 := Lib.hid (H2.out.last HP3.out K3.out hr4 k4 (H2.out.ok.write i s))
      clear hr4 k4
      refine hK.out _ _ ?_ (fun hHeld => ?_)
      · exact ⟨by rw [Lib.cell_of_heap X4.out]; rfl, by rw [Lib.cell_of_heap X4.out]; rfl⟩
      clear hK K
      try simp only [Act.put, List.setIfInBounds_toArray, List.set_cons_zero, List.set_cons_succ]
      first | refine tq0 12 rfl ?_ | refine tq1 12 rfl ?_
      try go_frame
      first | refine tq0 13 rfl ?_ | refine tq1 13 rfl ?_
      try go_frame
      refine wpAnyH_done (by kernel_rfl) ?_ _
      clear hHeld
      generalize writeE d i = er at *
      go_wp2_with fail
      go_ret
      first
        | exact ⟨rfl, ⟨bm, by rw [E.out]; exact F4.out.1⟩, K2.out.trans F4.out.2⟩
        | exact ⟨by simp, ⟨bm, by rw [E.out]; exact F4.out.1⟩, K2.out.trans F4.out.2⟩

  · have n0 : (kind == 0) = false := by simp; omega
    have n1 : (kind == 1) = false := by simp; omega
    have n2 : (kind == 2) = false := by simp; omega
    by_cases h3 : kind = 3
    · subst h3
      have E : Hid (doD d ⟨3, i, s, keep, t, b⟩ = syncD d) := Lib.hid (by unfold doD; rw [if_neg (by simp), if_pos rfl])
      have GP := Lib.hid (psync_any H1.out.p HB.out)
      clear n0 n1 n2 hw
      go_wp2_with fail
      refine (GP.out).mono ?_
      rintro e w3 ⟨rfl, ⟨bm2, hlt2, hp3⟩, k3⟩
      have HP3 := Lib.hid hp3
      have K3 := Lib.hid k3
      have GR := Lib.hid (rsync_any (H1.out.next hp3 k3).1 HB.out)
      clear hp3 k3
      go_wp2_with fail
      refine (GR.out).mono ?_
      rintro e w4 ⟨rfl, hr4, k4⟩
      have F4 := Lib.hid (H1.out.last HP3.out K3.out hr4 k4 H1.out.ok.sync)
      clear hr4 k4
      generalize syncE d = er at *
      go_wp2_with fail
      go_ret
      exact ⟨by simp, ⟨bm2, by rw [E.out]; exact F4.out.1⟩, K1.out.trans F4.out.2⟩
    · have n3 : (kind == 3) = false := by simp [h3]
      by_cases h4 : kind = 4
      · subst h4
        have E : Hid (doD d ⟨4, i, s, keep, t, b⟩ = armD d i) := Lib.hid (by unfold doD; rw [if_neg (by simp), if_neg (by simp), if_pos rfl])
        have GP := Lib.hid (parm_any H1.out.p i)
        clear n0 n1 n2 n3 hw h3
        go_wp2_with fail
        refine (GP.out).mono ?_
        rintro e w3 ⟨rfl, hp3, k3⟩
        have HP3 := Lib.hid hp3
        have K3 := Lib.hid k3
        have N3 := Lib.hid (H1.out.next hp3 k3)
        have X3 := Lib.hid ((k3.blk (lt_of_block X1.out) NP.out).trans X1.out)
        have y1 : w3.cell? ⟨C, 1, none⟩ = some (.int .i64 i) := by rw [Lib.cell_of_heap X3.out]; rfl
        obtain ⟨k0, k1, k2, k3', k4, k5, kf⟩ := N3.out.1.cells
        have kf3 := kf 3
        clear hp3 k3 k0 k1 k2 kf k4
        have hdn : Hid (d.down = d.down) := Lib.hid rfl
        cases hd : d.down with
        | true =>
          rw [hd] at k5
          have EA : armE d i = 13 := by simp [armE, hd]
          have ED : Hid (armD d i = d) := Lib.hid (by unfold armD; rw [if_pos hd])
          have F4 : Hid (Both base P bS bm cS Q b1 b2 b3 c1 c2 c3 (armD d i) w3) := Lib.hid ⟨HP3.out, by rw [ED.out]; exact N3.out.1, H1.out.ok.arm i, N3.out.2.2⟩
          rw [EA]
          go_wp2_with fail
          go_ret
          exact ⟨rfl, ⟨bm, by rw [E.out]; exact F4.out⟩, K1.out.trans N3.out.2.1⟩
        | false =>
          rw [hd] at k5
          by_cases h1 : i < 1
          · have d1 : decide (i < 1) = true := by simp [h1]
            have EA : armE d i = 2 := by simp [armE, hd, h1]
            have ED : Hid (armD d i = d) := Lib.hid (by unfold armD; rw [if_neg (by rw [hd]; decide), if_pos h1])
            have F4 : Hid (Both base P bS bm cS Q b1 b2 b3 c1 c2 c3 (armD d i) w3) := Lib.hid ⟨HP3.out, by rw [ED.out]; exact N3.out.1, H1.out.ok.arm i, N3.out.2.2⟩
            rw [EA]
            go_wp2_with fail
            go_ret
            exact ⟨rfl, ⟨bm, by rw [E.out]; exact F4.out⟩, K1.out.trans N3.out.2.1⟩
          · have d1 : decide (i < 1) = false := by simp; omega
            have EA : armE d i = 0 := by simp [armE, hd, h1]
            have hi0 : ((i.toNat : Nat) : Int) = i := by omega
            have ED : Hid (armD d i = { d with arm := i.toNat }) := Lib.hid (by unfold armD; rw [if_neg (by rw [hd]; decide), if_neg h1])
            have BX := Lib.hid (show (w3.setCell ⟨Q, 3, none⟩ (.int .i64 i)).heap[Q]? = some (.cells (rbx b1 b2 b3 c1 c2 c3 (armD d i)) 34 (0, 0)) from by
              have := Joins.block_setCell (i := 3) N3.out.1.box (.int .i64 i)
              rw [this, ED.out]
              unfold rbx
              simp only [hi0]
              rfl)
            have R4' : Hid (RDk base Q b1 b2 b3 c1 c2 c3 (armD d i) (w3.setCell ⟨Q, 3, none⟩ (.int .i64 i))) := Lib.hid (N3.out.1.rebox (fun q hq => set_else _ hq) BX.out (by rw [ED.out]) (by rw [ED.out]) (by rw [ED.out]) (by rw [ED.out]))
            have F4 := Lib.hid (H1.out.last HP3.out K3.out R4'.out (KpS.set (R4.a Q b1 b2 b3) 3 (.int .i64 i) w3) (H1.out.ok.arm i))
            rw [EA]
            clear hi0
            go_wp2_with fail
            go_ret
            exact ⟨rfl, ⟨bm, by rw [E.out]; exact F4.out.1⟩, K1.out.trans F4.out.2⟩
      · have n4 : (kind == 4) = false := by simp [h4]
        have E : Hid (doD d ⟨kind, i, s, keep, t, b⟩ = crashD d keep t b) := Lib.hid (by unfold doD; rw [if_neg (by simpa using hw), if_neg h3, if_neg h4])
        have GR := Lib.hid (rcrash_any H1.out.r H1.out.ok HB.out.n H1.out.sz A1.out.c)
        clear hw h3 h4
        go_wp2_with fail
        refine (GR.out).mono ?_
        rintro e w3 ⟨rfl, hr3, k3⟩
        have HR3 := Lib.hid hr3
        have PB := Lib.hid (H1.out.p.stays H1.out.r k3)
        have BB := Lib.hid (H1.out.r.bot k3 H1.out.sz)
        have SZ := Lib.hid (Nat.le_trans H1.out.sz k3.size)
        have GP := Lib.hid (pcrash_any PB.out HB.out.n SZ.out (A1.out.c.below BB.out))
        have X3 := Lib.hid ((k3.blk (lt_of_block X1.out) NR.out).trans X1.out)
        have y3 : w3.cell? ⟨C, 3, none⟩ = some v := by rw [Lib.cell_of_heap X3.out]; rfl
        have y4 : w3.cell? ⟨C, 4, none⟩ = some (.int .i64 t) := by rw [Lib.cell_of_heap X3.out]; rfl
        have y5 : w3.cell? ⟨C, 5, none⟩ = some (.int .i64 b) := by rw [Lib.cell_of_heap X3.out]; rfl
        clear hr3 k3
        go_wp2_with fail
        refine (GP.out).mono ?_
        rintro e w4 ⟨rfl, ⟨bm2, hlt2, hp4⟩, k4⟩
        have F4 : Hid (Both base P bS bm2 cS Q b1 b2 b3 c1 c2 c3 (crashD d keep t b) w4) := Lib.hid ⟨hp4, HR3.out.stays PB.out k4, H1.out.ok.crash _ _ _, Nat.le_trans SZ.out k4.size⟩
        have B4 := Lib.hid ((K1.out.trans BB.out).trans (PB.out.bot k4 SZ.out))
        clear hp4 k4
        go_wp2_with fail
        go_ret
        exact ⟨rfl, ⟨bm2, by rw [E.out]; exact F4.out⟩, B4.out⟩
end

end Go.Proofs.Ytbohcfflkcaijaa
