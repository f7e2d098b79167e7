/- The walk of the law DiskSafe: behind a crash a sector that was safe is as it was; a loose one is new, or old, or (one at most) torn; a second crash changes nothing. -/
import Derived.Test.YtbohcfflkcaijaaDkSafe0
namespace Go.Proofs.Ytbohcfflkcaijaa
open Go.RowKit Go.Deep Go.Maps
set_option linter.unusedVariables false
set_option linter.unusedSimpArgs false
set_option maxRecDepth 100000

theorem CrA.mono {base base2 : Nat} {keep : List Bool} {t b : Int} {v : Value} {u : World} (h : CrA base keep t b v u) (hb : base ≤ base2) : CrA base2 keep t b v u := by
  obtain ⟨ao, cap, e, h1, h2, h3⟩ := h.k
  exact ⟨⟨ao, cap, e, h1, h2, fun hp => by
    obtain ⟨B, o, e2, hB, hc⟩ := h3 hp
    exact ⟨B, o, e2, Nat.lt_of_lt_of_le hB hb, hc⟩⟩, h.t, h.b⟩
theorem AcAt.mono {base base2 : Nat} {a : Ac} {v : Value} {u : World} (h : AcAt base a v u) (hb : base ≤ base2) : AcAt base2 a v u := ⟨h.kind, h.i, h.s, h.c.mono hb⟩
theorem AcsAt.mono {base base2 n : Nat} {A : Nat → Ac} {g : Nat → Value} {ao : Option Addr} {cap : Nat} {u : World} (h : AcsAt base n A g ao cap u) (hb : base ≤ base2) : AcsAt base2 n A g ao cap u :=
  ⟨h.c, fun hn => by
    obtain ⟨B, o, e, hB, hc⟩ := h.x hn
    exact ⟨B, o, e, Nat.lt_of_lt_of_le hB hb, hc⟩, fun i hi => (h.a i hi).mono hb⟩
/-- the copies that the law keeps, and the disk -/
structure SafeAt (base P bS bm cS : Nat) (d : Dk) (t : Nat → ByteArray) (g1 c1 g2 c2 g3 c3 : Nat) (u : World) : Prop where
  p : PDk base P bS bm cS d u
  r1 : RowB 9 1 g1 (gT fun i => sec (d.sf i)) 6 (.slice (some ⟨g1, 0, none⟩) 6 c1) u
  r2 : RowB 9 1 g2 (gT t) 6 (.slice (some ⟨g2, 0, none⟩) 6 c2) u
  r3 : RowB 4 1 g3 (gO d.is) 6 (.slice (some ⟨g3, 0, none⟩) 6 c3) u
  t : ∀ i, i < 6 → d.is i = true → t i = sec (d.nw i)
theorem byD_get9 (s : ByteArray) {i : Nat} (h : i < s.size) : byD s i = (s[i].toNat : Int) := by
  have hs : s.data.toList.length = s.size := by simp
  unfold byD
  rw [List.getD_eq_getElem?_getD, List.getElem?_eq_getElem (by omega)]
  rfl
theorem toList_ne9 {a b : ByteArray} (h : a ≠ b) : ¬ a.toList = b.toList := fun e => h (Go.WideShapes.bytes_inj (by rw [Lib.toList_data, Lib.toList_data] at e; exact e))
/-- behind the crash: the disk, the copies -/
structure SafeB (base P bS bm cS : Nat) (D d : Dk) (t : Nat → ByteArray) (g1 c1 g2 c2 g3 c3 : Nat) (u : World) : Prop where
  p : PDk base P bS bm cS D u
  r1 : RowB 9 1 g1 (gT fun i => sec (d.sf i)) 6 (.slice (some ⟨g1, 0, none⟩) 6 c1) u
  r2 : RowB 9 1 g2 (gT t) 6 (.slice (some ⟨g2, 0, none⟩) 6 c2) u
  r3 : RowB 4 1 g3 (gO d.is) 6 (.slice (some ⟨g3, 0, none⟩) 6 c3) u
theorem SafeB.below {base P bS bm cS : Nat} {D d : Dk} {t : Nat → ByteArray} {g1 c1 g2 c2 g3 c3 : Nat} {u u2 : World} (h : SafeB base P bS bm cS D d t g1 c1 g2 c2 g3 c3 u) (k : Below u.heap.size u u2) : SafeB base P bS bm cS D d t g1 c1 g2 c2 g3 c3 u2 :=
  ⟨h.p.below k, h.r1.kept (k.block _ h.r1.lt), h.r2.kept (k.block _ h.r2.lt), h.r3.kept (k.block _ h.r3.lt)⟩
theorem SafeB.crash {base P bS bm bm2 cS : Nat} {D D2 d : Dk} {t : Nat → ByteArray} {g1 c1 g2 c2 g3 c3 : Nat} {u u2 : World} (h : SafeB base P bS bm cS D d t g1 c1 g2 c2 g3 c3 u) (k : KpS (P3 P bS bm) u u2) (p : PDk base P bS bm2 cS D2 u2) : SafeB base P bS bm2 cS D2 d t g1 c1 g2 c2 g3 c3 u2 := by
  obtain ⟨_, f1⟩ := h.p.row.b
  obtain ⟨_, _, f2⟩ := h.p.mp.blk
  obtain ⟨_, e1⟩ := h.r1.b
  obtain ⟨_, e2⟩ := h.r2.b
  obtain ⟨_, e3⟩ := h.r3.b
  exact ⟨p, h.r1.kept (k.blk h.r1.lt (P3.no (blocks_ne e1 h.p.box (by decide)) (blocks_ne e1 f1 (by decide)) (blocks_ne_map e1 f2))), h.r2.kept (k.blk h.r2.lt (P3.no (blocks_ne e2 h.p.box (by decide)) (blocks_ne e2 f1 (by decide)) (blocks_ne_map e2 f2))), h.r3.kept (k.blk h.r3.lt (P3.no (blocks_ne e3 h.p.box (by decide)) (blocks_ne e3 f1 (by decide)) (blocks_ne_map e3 f2)))⟩
set_option maxHeartbeats 25600000 in
theorem diskSafe_walk (n : Nat) (A : Nat → Ac) (g : Nat → Value) (ao : Option Addr) (cap : Nat) (keep : List Bool) (t b : Int) (v : Value) (keep2 : List Bool) (t2 b2x : Int) (v2 : Value) (W : World) (ha : AcsAt W.heap.size n A g ao cap W) (hc : CrA W.heap.size keep t b v W) (hc2 : CrA W.heap.size keep2 t2 b2x v2 W) :
    Calls Try.prog 4 #[.slice ao n cap, .agg #[v, .int .i64 t, .int .i64 b], .agg #[v2, .int .i64 t2, .int .i64 b2x]] W fun e w' => e = .returned (.bool true) ∧ Below W.heap.size W w' := by
  obtain ⟨i1, hi1, hz1, hs1, hby1⟩ := info_parts infoStr9
  obtain ⟨i3, hi3, hz3, hs3, hby3⟩ := info_parts infoBool9
  have X1 := Lib.hid (heap_alloc_new W (.cells #[v, .int .i64 t, .int .i64 b] 38))
  have B1 := Lib.hid (balloc W (.cells #[v, .int .i64 t, .int .i64 b] 38))
  have S1 := Lib.hid (show (W.alloc (.cells #[v, .int .i64 t, .int .i64 b] 38)).heap.size = W.heap.size + 1 from World.size_alloc _ _)
  have HA : Hid (∀ w, Calls Try.prog 10 #[] w fun r u' => r = .returned (.bool true) ∧ Below w.heap.size w u') := Lib.hid fun w => awake_any w
  have HC := Lib.hid hc
  have HC2 := Lib.hid hc2
  have HACS := Lib.hid ha
  clear hc hc2 ha
  go_enter Try.func4, Try.ntmps4
  go_upto_region 1 with fail
  have X2 := Lib.hid (heap_alloc_new (W.alloc (.cells #[v, .int .i64 t, .int .i64 b] 38)) (.cells #[v2, .int .i64 t2, .int .i64 b2x] 38))
  have B2 := Lib.hid (balloc (W.alloc (.cells #[v, .int .i64 t, .int .i64 b] 38)) (.cells #[v2, .int .i64 t2, .int .i64 b2x] 38))
  rw [S1.out] at X2 B2
  have Y1 := Lib.hid ((B2.out.block _ (by omega)).trans X1.out)
  have BB := Lib.hid (B1.out.trans (B2.out.mono (by omega)))
  generalize (W.alloc (.cells #[v, .int .i64 t, .int .i64 b] 38)).alloc (.cells #[v2, .int .i64 t2, .int .i64 b2x] 38) = w1 at *
  clear X1 B1 S1 B2
  obtain ⟨base, hbase⟩ : ∃ base, base = w1.heap.size := ⟨_, rfl⟩
  have H := Lib.hid (made_any (base := base) (Nat.le_of_eq hbase) ((HACS.out.below BB.out).mono (by rw [hbase]; exact BB.out.size)) 6 ⟨by omega, by omega⟩)
  have CL := Lib.hid (show W.heap.size < base ∧ W.heap.size + 1 < base from by rw [hbase]; exact ⟨lt_of_block Y1.out, lt_of_block X2.out⟩)
  have HBS := Lib.hid hbase
  clear hbase
  go_wp2_with fail
  refine (H.out).mono ?_
  rintro e w2 ⟨P, bS, bm, cS, Q, b1, b2, b3, c1, c2, c3, d, rfl, hb1, hn, hcalls, harm, k1⟩
  have HB1 := Lib.hid hb1
  have K1 := Lib.hid k1
  have HN := Lib.hid hn
  clear hb1 k1 hn hcalls harm H
  go_wp2_with fail
  refine (HA.out _).mono ?_
  rintro e w3 ⟨rfl, k3⟩
  have HB3 := Lib.hid (HB1.out.below k3)
  have K3 := Lib.hid (K1.out.trans (k3.mono HB1.out.sz))
  clear k3 HB1 K1
  obtain ⟨tt, rr2, htt⟩ := HB3.out.r.r2
  rw [HN.out] at rr2 htt
  have HTT := Lib.hid htt
  clear rr2 htt
  go_upto_region 4 with fail
  go_cut [10, 11, 12] from 38 to 56 (fun va vb vc wx => ∃ tt g1 d1 g2 d2 g3 d3, va = .slice (some ⟨g1, 0, none⟩) 6 d1 ∧ vb = .slice (some ⟨g2, 0, none⟩) 6 d2 ∧ vc = .slice (some ⟨g3, 0, none⟩) 6 d3 ∧ SafeAt base P bS bm cS d tt g1 d1 g2 d2 g3 d3 wx ∧ Below base w1 wx)
  case first =>
    have hd6 : d.n = 6 := HN.out
    refine wp_region_held_drew (S := (fun w' => w'.cell? ⟨Q, 0, none⟩ = some (.slice (some ⟨b1, 0, none⟩) 6 c1) ∧ w'.cell? ⟨Q, 1, none⟩ = some (.slice (some ⟨b2, 0, none⟩) 6 c2) ∧ w'.cell? ⟨Q, 2, none⟩ = some (.slice (some ⟨b3, 0, none⟩) 6 c3))) (by kernel_rfl) ?_ (fun hHeld => ?_)
    · have hc := (HB3.out.r.below (bdrew w3)).cells
      rw [HN.out] at hc
      exact ⟨hc.1, hc.2.1, hc.2.2.1⟩
    have F0 : Hid (Both base P bS bm cS Q b1 b2 b3 c1 c2 c3 d (World.drew w3)) := Lib.hid (HB3.out.below (bdrew w3))
    have K0 : Hid (Below base w1 (World.drew w3)) := Lib.hid (K3.out.trans ((bdrew w3).mono HB3.out.sz))
    have ROWS : Hid (∀ w, Both base P bS bm cS Q b1 b2 b3 c1 c2 c3 d w → RowB 9 1 b1 (gT fun i => sec (d.sf i)) 6 (.slice (some ⟨b1, 0, none⟩) 6 c1) w ∧ (∃ tt, RowB 9 1 b2 (gT tt) 6 (.slice (some ⟨b2, 0, none⟩) 6 c2) w ∧ ∀ i, i < 6 → d.is i = true → tt i = sec (d.nw i)) ∧ RowB 4 1 b3 (gO d.is) 6 (.slice (some ⟨b3, 0, none⟩) 6 c3) w ∧ (w.cell? ⟨Q, 0, none⟩ = some (.slice (some ⟨b1, 0, none⟩) 6 c1) ∧ w.cell? ⟨Q, 1, none⟩ = some (.slice (some ⟨b2, 0, none⟩) 6 c2) ∧ w.cell? ⟨Q, 2, none⟩ = some (.slice (some ⟨b3, 0, none⟩) 6 c3))) := Lib.hid fun w h => by
      have q1 := h.r.r1
      have q2 := h.r.r2
      have q3 := h.r.r3
      have q4 := h.r.cells
      rw [HN.out] at q1 q2 q3 q4
      exact ⟨q1, q2, q3, q4.1, q4.2.1, q4.2.2.1⟩
    change wpAnyH _ _ _ _ _ _ _ _ (World.drew w3)
    clear HB3 K3
    generalize World.drew w3 = u0 at *
    first | refine tq0 1 rfl ?_ | refine tq1 1 rfl ?_
    try go_frame
    first | refine tq0 2 rfl ?_ | refine tq1 2 rfl ?_
    try go_frame
    first | refine tq0 3 rfl ?_ | refine tq1 3 rfl ?_
    try go_frame
    first | refine tq0 4 rfl ?_ | refine tq1 4 rfl ?_
    try go_frame
    first | refine tq0 7 rfl ?_ | refine tq1 7 rfl ?_
    try go_frame
    first | refine tq0 8 rfl ?_ | refine tq1 8 rfl ?_
    try go_frame
    first | refine tq0 9 rfl ?_ | refine tq1 9 rfl ?_
    try go_frame
    first | refine tq0 10 rfl ?_ | refine tq1 10 rfl ?_
    try go_frame
    first | refine tq0 13 rfl ?_ | refine tq1 13 rfl ?_
    try go_frame
    first | refine tq0 14 rfl ?_ | refine tq1 14 rfl ?_
    try go_frame
    first | refine tq0 15 rfl ?_ | refine tq1 15 rfl ?_
    try go_frame
    first | refine tq0 16 rfl ?_ | refine tq1 16 rfl ?_
    try go_frame
    refine wpAnyH_ready (rs := [0, 6, 12]) (by kernel_rfl) (by simp) ?_
    refine AllReadyH.cons (o := ⟨_, _, _, _, _, _⟩) rfl (fun K hK => ?_) (AllReadyH.cons (o := ⟨_, _, _, _, _, _⟩) rfl (fun K hK => ?_) (AllReadyH.cons (o := ⟨_, _, _, _, _, _⟩) rfl (fun K hK => ?_) AllReadyH.nil))
    · have B1 := Lib.hid (balloc u0 (.cells #[] 9))
      have F1 := Lib.hid (F0.out.below B1.out)
      have K1 := Lib.hid (K0.out.trans (B1.out.mono F0.out.sz))
      go_simp
      refine hK.out _ _ (ROWS.out _ F1.out).2.2.2 (fun hHeld => ?_)
      clear hK K
      try simp only [Act.put, List.setIfInBounds_toArray, List.set_cons_zero, List.set_cons_succ]
      generalize hu1 : u0.alloc (.cells #[] 9) = u1 at *
      clear hu1
      refine wpAnyH_ready (rs := [5, 6, 12]) (by kernel_rfl) (by simp) ?_
      refine AllReadyH.cons (o := ⟨_, _, _, _, _, _⟩) rfl (fun K hK => ?_) (AllReadyH.cons (o := ⟨_, _, _, _, _, _⟩) rfl (fun K hK => ?_) (AllReadyH.cons (o := ⟨_, _, _, _, _, _⟩) rfl (fun K hK => ?_) AllReadyH.nil))
      · refine step_append_new9 rfl (.tmp 38) (.tmp 42) 31 rfl 9 i1 (.string ⟨#[]⟩) 16 Try.underlying31 hi1 hz1 hs1 hby1 rfl (some ⟨u0.heap.size, 0, none⟩) (by simp [Act.eval]) b1 6 c1 (gT fun i => sec (d.sf i)) (by simp [Act.eval]) (ROWS.out _ F1.out).1 (fun i hi => rfl) ⟨by omega, by omega⟩ (by omega) ?_
        intro gg2 cc2 u2 hrow hb
        have F2 := Lib.hid (F1.out.below hb)
        have K2 := Lib.hid (K1.out.trans (hb.mono F1.out.sz))
        have RA2 := Lib.hid hrow
        clear hrow hb
        refine hK.out _ _ (ROWS.out _ F2.out).2.2.2 (fun hHeld => ?_)
        clear hK K
        try simp only [Act.put, List.setIfInBounds_toArray, List.set_cons_zero, List.set_cons_succ]
        refine wpAnyH_ready (rs := [6, 12]) (by kernel_rfl) (by simp) ?_
        refine AllReadyH.cons (o := ⟨_, _, _, _, _, _⟩) rfl (fun K hK => ?_) (AllReadyH.cons (o := ⟨_, _, _, _, _, _⟩) rfl (fun K hK => ?_) AllReadyH.nil)
        · have B3 := Lib.hid (balloc u2 (.cells #[] 9))
          have F3 := Lib.hid (F2.out.below B3.out)
          have K3 := Lib.hid (K2.out.trans (B3.out.mono F2.out.sz))
          have RA3 := Lib.hid (RA2.out.kept (B3.out.block _ RA2.out.lt))
          go_simp
          refine hK.out _ _ (ROWS.out _ F3.out).2.2.2 (fun hHeld => ?_)
          clear hK K
          try simp only [Act.put, List.setIfInBounds_toArray, List.set_cons_zero, List.set_cons_succ]
          generalize hu3 : u2.alloc (.cells #[] 9) = u3 at *
          clear hu3
          refine wpAnyH_ready (rs := [11, 12]) (by kernel_rfl) (by simp) ?_
          refine AllReadyH.cons (o := ⟨_, _, _, _, _, _⟩) rfl (fun K hK => ?_) (AllReadyH.cons (o := ⟨_, _, _, _, _, _⟩) rfl (fun K hK => ?_) AllReadyH.nil)
          · obtain ⟨tt4, rt4, ht4⟩ := (ROWS.out _ F3.out).2.1
            have HT4 := Lib.hid ht4
            have RT4 := Lib.hid rt4
            clear rt4 ht4
            refine step_append_new9 rfl (.tmp 44) (.tmp 48) 31 rfl 9 i1 (.string ⟨#[]⟩) 16 Try.underlying31 hi1 hz1 hs1 hby1 rfl (some ⟨u2.heap.size, 0, none⟩) (by simp [Act.eval]) b2 6 c2 (gT tt4) (by simp [Act.eval]) RT4.out (fun i hi => rfl) ⟨by omega, by omega⟩ (by omega) ?_
            intro gg4 cc4 u4 hrow hb
            have F4 := Lib.hid (F3.out.below hb)
            have K4 := Lib.hid (K3.out.trans (hb.mono F3.out.sz))
            have RA4 := Lib.hid (RA3.out.kept (hb.block _ RA3.out.lt))
            have RB4 := Lib.hid hrow
            clear hrow hb
            refine hK.out _ _ (ROWS.out _ F4.out).2.2.2 (fun hHeld => ?_)
            clear hK K
            try simp only [Act.put, List.setIfInBounds_toArray, List.set_cons_zero, List.set_cons_succ]
            refine wpAnyH_ready (rs := [12]) (by kernel_rfl) (by simp) ?_
            refine AllReadyH.cons (o := ⟨_, _, _, _, _, _⟩) rfl (fun K hK => ?_) AllReadyH.nil
            · have B5 := Lib.hid (balloc u4 (.cells #[] 4))
              have F5 := Lib.hid (F4.out.below B5.out)
              have K5 := Lib.hid (K4.out.trans (B5.out.mono F4.out.sz))
              have RA5 := Lib.hid (RA4.out.kept (B5.out.block _ RA4.out.lt))
              have RB5 := Lib.hid (RB4.out.kept (B5.out.block _ RB4.out.lt))
              go_simp
              refine hK.out _ _ (ROWS.out _ F5.out).2.2.2 (fun hHeld => ?_)
              clear hK K
              try simp only [Act.put, List.setIfInBounds_toArray, List.set_cons_zero, List.set_cons_succ]
              generalize hu5 : u4.alloc (.cells #[] 4) = u5 at *
              clear hu5
              refine wpAnyH_ready (rs := [17]) (by kernel_rfl) (by simp) ?_
              refine AllReadyH.cons (o := ⟨_, _, _, _, _, _⟩) rfl (fun K hK => ?_) AllReadyH.nil
              · refine step_append_new9 rfl (.tmp 50) (.tmp 54) 32 rfl 4 i3 (.bool false) 1 Try.underlying32 hi3 hz3 hs3 hby3 rfl (some ⟨u4.heap.size, 0, none⟩) (by simp [Act.eval]) b3 6 c3 (gO d.is) (by simp [Act.eval]) (ROWS.out _ F5.out).2.2.1 (fun i hi => rfl) ⟨by omega, by omega⟩ (by omega) ?_
                intro gg6 cc6 u6 hrow hb
                have F6 := Lib.hid (F5.out.below hb)
                have K6 := Lib.hid (K5.out.trans (hb.mono F5.out.sz))
                have RA6 := Lib.hid (RA5.out.kept (hb.block _ RA5.out.lt))
                have RB6 := Lib.hid (RB5.out.kept (hb.block _ RB5.out.lt))
                have RC6 := Lib.hid hrow
                clear hrow hb
                refine hK.out _ _ (ROWS.out _ F6.out).2.2.2 (fun hHeld => ?_)
                clear hK K
                try simp only [Act.put, List.setIfInBounds_toArray, List.set_cons_zero, List.set_cons_succ]
                first | refine tq0 18 rfl ?_ | refine tq1 18 rfl ?_
                try go_frame
                first | refine tq0 19 rfl ?_ | refine tq1 19 rfl ?_
                try go_frame
                first | refine tq0 20 rfl ?_ | refine tq1 20 rfl ?_
                try go_frame
                refine wpAnyH_done (by kernel_rfl) ?_ _
                clear hHeld
                try go_wp2_with fail
                go_meet
                exact ⟨tt4, _, _, _, _, _, _, rfl, rfl, rfl, ⟨F6.out.p, RA6.out, RB6.out, RC6.out, HT4.out⟩, K6.out⟩
          · have B4 := Lib.hid (balloc u3 (.cells #[] 4))
            have F4 := Lib.hid (F3.out.below B4.out)
            have K4 := Lib.hid (K3.out.trans (B4.out.mono F3.out.sz))
            have RA4 := Lib.hid (RA3.out.kept (B4.out.block _ RA3.out.lt))
            go_simp
            refine hK.out _ _ (ROWS.out _ F4.out).2.2.2 (fun hHeld => ?_)
            clear hK K
            try simp only [Act.put, List.setIfInBounds_toArray, List.set_cons_zero, List.set_cons_succ]
            generalize hu4 : u3.alloc (.cells #[] 4) = u4 at *
            clear hu4
            refine wpAnyH_ready (rs := [11]) (by kernel_rfl) (by simp) ?_
            refine AllReadyH.cons (o := ⟨_, _, _, _, _, _⟩) rfl (fun K hK => ?_) AllReadyH.nil
            · obtain ⟨tt5, rt5, ht5⟩ := (ROWS.out _ F4.out).2.1
              have HT5 := Lib.hid ht5
              have RT5 := Lib.hid rt5
              clear rt5 ht5
              refine step_append_new9 rfl (.tmp 44) (.tmp 48) 31 rfl 9 i1 (.string ⟨#[]⟩) 16 Try.underlying31 hi1 hz1 hs1 hby1 rfl (some ⟨u2.heap.size, 0, none⟩) (by simp [Act.eval]) b2 6 c2 (gT tt5) (by simp [Act.eval]) RT5.out (fun i hi => rfl) ⟨by omega, by omega⟩ (by omega) ?_
              intro gg5 cc5 u5 hrow hb
              have F5 := Lib.hid (F4.out.below hb)
              have K5 := Lib.hid (K4.out.trans (hb.mono F4.out.sz))
              have RA5 := Lib.hid (RA4.out.kept (hb.block _ RA4.out.lt))
              have RB5 := Lib.hid hrow
              clear hrow hb
              refine hK.out _ _ (ROWS.out _ F5.out).2.2.2 (fun hHeld => ?_)
              clear hK K
              try simp only [Act.put, List.setIfInBounds_toArray, List.set_cons_zero, List.set_cons_succ]
              refine wpAnyH_ready (rs := [17]) (by kernel_rfl) (by simp) ?_
              refine AllReadyH.cons (o := ⟨_, _, _, _, _, _⟩) rfl (fun K hK => ?_) AllReadyH.nil
              · refine step_append_new9 rfl (.tmp 50) (.tmp 54) 32 rfl 4 i3 (.bool false) 1 Try.underlying32 hi3 hz3 hs3 hby3 rfl (some ⟨u3.heap.size, 0, none⟩) (by simp [Act.eval]) b3 6 c3 (gO d.is) (by simp [Act.eval]) (ROWS.out _ F5.out).2.2.1 (fun i hi => rfl) ⟨by omega, by omega⟩ (by omega) ?_
                intro gg6 cc6 u6 hrow hb
                have F6 := Lib.hid (F5.out.below hb)
                have K6 := Lib.hid (K5.out.trans (hb.mono F5.out.sz))
                have RA6 := Lib.hid (RA5.out.kept (hb.block _ RA5.out.lt))
                have RB6 := Lib.hid (RB5.out.kept (hb.block _ RB5.out.lt))
                have RC6 := Lib.hid hrow
                clear hrow hb
                refine hK.out _ _ (ROWS.out _ F6.out).2.2.2 (fun hHeld => ?_)
                clear hK K
                try simp only [Act.put, List.setIfInBounds_toArray, List.set_cons_zero, List.set_cons_succ]
                first | refine tq0 18 rfl ?_ | refine tq1 18 rfl ?_
                try go_frame
                first | refine tq0 19 rfl ?_ | refine tq1 19 rfl ?_
                try go_frame
                first | refine tq0 20 rfl ?_ | refine tq1 20 rfl ?_
                try go_frame
                refine wpAnyH_done (by kernel_rfl) ?_ _
                clear hHeld
                try go_wp2_with fail
                go_meet
                exact ⟨tt5, _, _, _, _, _, _, rfl, rfl, rfl, ⟨F6.out.p, RA6.out, RB6.out, RC6.out, HT5.out⟩, K6.out⟩
        · have B3 := Lib.hid (balloc u2 (.cells #[] 4))
          have F3 := Lib.hid (F2.out.below B3.out)
          have K3 := Lib.hid (K2.out.trans (B3.out.mono F2.out.sz))
          have RA3 := Lib.hid (RA2.out.kept (B3.out.block _ RA2.out.lt))
          go_simp
          refine hK.out _ _ (ROWS.out _ F3.out).2.2.2 (fun hHeld => ?_)
          clear hK K
          try simp only [Act.put, List.setIfInBounds_toArray, List.set_cons_zero, List.set_cons_succ]
          generalize hu3 : u2.alloc (.cells #[] 4) = u3 at *
          clear hu3
          refine wpAnyH_ready (rs := [6]) (by kernel_rfl) (by simp) ?_
          refine AllReadyH.cons (o := ⟨_, _, _, _, _, _⟩) rfl (fun K hK => ?_) AllReadyH.nil
          · have B4 := Lib.hid (balloc u3 (.cells #[] 9))
            have F4 := Lib.hid (F3.out.below B4.out)
            have K4 := Lib.hid (K3.out.trans (B4.out.mono F3.out.sz))
            have RA4 := Lib.hid (RA3.out.kept (B4.out.block _ RA3.out.lt))
            go_simp
            refine hK.out _ _ (ROWS.out _ F4.out).2.2.2 (fun hHeld => ?_)
            clear hK K
            try simp only [Act.put, List.setIfInBounds_toArray, List.set_cons_zero, List.set_cons_succ]
            generalize hu4 : u3.alloc (.cells #[] 9) = u4 at *
            clear hu4
            refine wpAnyH_ready (rs := [11]) (by kernel_rfl) (by simp) ?_
            refine AllReadyH.cons (o := ⟨_, _, _, _, _, _⟩) rfl (fun K hK => ?_) AllReadyH.nil
            · obtain ⟨tt5, rt5, ht5⟩ := (ROWS.out _ F4.out).2.1
              have HT5 := Lib.hid ht5
              have RT5 := Lib.hid rt5
              clear rt5 ht5
              refine step_append_new9 rfl (.tmp 44) (.tmp 48) 31 rfl 9 i1 (.string ⟨#[]⟩) 16 Try.underlying31 hi1 hz1 hs1 hby1 rfl (some ⟨u3.heap.size, 0, none⟩) (by simp [Act.eval]) b2 6 c2 (gT tt5) (by simp [Act.eval]) RT5.out (fun i hi => rfl) ⟨by omega, by omega⟩ (by omega) ?_
              intro gg5 cc5 u5 hrow hb
              have F5 := Lib.hid (F4.out.below hb)
              have K5 := Lib.hid (K4.out.trans (hb.mono F4.out.sz))
              have RA5 := Lib.hid (RA4.out.kept (hb.block _ RA4.out.lt))
              have RB5 := Lib.hid hrow
              clear hrow hb
              refine hK.out _ _ (ROWS.out _ F5.out).2.2.2 (fun hHeld => ?_)
              clear hK K
              try simp only [Act.put, List.setIfInBounds_toArray, List.set_cons_zero, List.set_cons_succ]
              refine wpAnyH_ready (rs := [17]) (by kernel_rfl) (by simp) ?_
              refine AllReadyH.cons (o := ⟨_, _, _, _, _, _⟩) rfl (fun K hK => ?_) AllReadyH.nil
              · refine step_append_new9 rfl (.tmp 50) (.tmp 54) 32 rfl 4 i3 (.bool false) 1 Try.underlying32 hi3 hz3 hs3 hby3 rfl (some ⟨u2.heap.size, 0, none⟩) (by simp [Act.eval]) b3 6 c3 (gO d.is) (by simp [Act.eval]) (ROWS.out _ F5.out).2.2.1 (fun i hi => rfl) ⟨by omega, by omega⟩ (by omega) ?_
                intro gg6 cc6 u6 hrow hb
                have F6 := Lib.hid (F5.out.below hb)
                have K6 := Lib.hid (K5.out.trans (hb.mono F5.out.sz))
                have RA6 := Lib.hid (RA5.out.kept (hb.block _ RA5.out.lt))
                have RB6 := Lib.hid (RB5.out.kept (hb.block _ RB5.out.lt))
                have RC6 := Lib.hid hrow
                clear hrow hb
                refine hK.out _ _ (ROWS.out _ F6.out).2.2.2 (fun hHeld => ?_)
                clear hK K
                try simp only [Act.put, List.setIfInBounds_toArray, List.set_cons_zero, List.set_cons_succ]
                first | refine tq0 18 rfl ?_ | refine tq1 18 rfl ?_
                try go_frame
                first | refine tq0 19 rfl ?_ | refine tq1 19 rfl ?_
                try go_frame
                first | refine tq0 20 rfl ?_ | refine tq1 20 rfl ?_
                try go_frame
                refine wpAnyH_done (by kernel_rfl) ?_ _
                clear hHeld
                try go_wp2_with fail
                go_meet
                exact ⟨tt5, _, _, _, _, _, _, rfl, rfl, rfl, ⟨F6.out.p, RA6.out, RB6.out, RC6.out, HT5.out⟩, K6.out⟩
      · have B2 := Lib.hid (balloc u1 (.cells #[] 9))
        have F2 := Lib.hid (F1.out.below B2.out)
        have K2 := Lib.hid (K1.out.trans (B2.out.mono F1.out.sz))
        go_simp
        refine hK.out _ _ (ROWS.out _ F2.out).2.2.2 (fun hHeld => ?_)
        clear hK K
        try simp only [Act.put, List.setIfInBounds_toArray, List.set_cons_zero, List.set_cons_succ]
        generalize hu2 : u1.alloc (.cells #[] 9) = u2 at *
        clear hu2
        refine wpAnyH_ready (rs := [5, 12]) (by kernel_rfl) (by simp) ?_
        refine AllReadyH.cons (o := ⟨_, _, _, _, _, _⟩) rfl (fun K hK => ?_) (AllReadyH.cons (o := ⟨_, _, _, _, _, _⟩) rfl (fun K hK => ?_) AllReadyH.nil)
        · refine step_append_new9 rfl (.tmp 38) (.tmp 42) 31 rfl 9 i1 (.string ⟨#[]⟩) 16 Try.underlying31 hi1 hz1 hs1 hby1 rfl (some ⟨u0.heap.size, 0, none⟩) (by simp [Act.eval]) b1 6 c1 (gT fun i => sec (d.sf i)) (by simp [Act.eval]) (ROWS.out _ F2.out).1 (fun i hi => rfl) ⟨by omega, by omega⟩ (by omega) ?_
          intro gg3 cc3 u3 hrow hb
          have F3 := Lib.hid (F2.out.below hb)
          have K3 := Lib.hid (K2.out.trans (hb.mono F2.out.sz))
          have RA3 := Lib.hid hrow
          clear hrow hb
          refine hK.out _ _ (ROWS.out _ F3.out).2.2.2 (fun hHeld => ?_)
          clear hK K
          try simp only [Act.put, List.setIfInBounds_toArray, List.set_cons_zero, List.set_cons_succ]
          refine wpAnyH_ready (rs := [11, 12]) (by kernel_rfl) (by simp) ?_
          refine AllReadyH.cons (o := ⟨_, _, _, _, _, _⟩) rfl (fun K hK => ?_) (AllReadyH.cons (o := ⟨_, _, _, _, _, _⟩) rfl (fun K hK => ?_) AllReadyH.nil)
          · obtain ⟨tt4, rt4, ht4⟩ := (ROWS.out _ F3.out).2.1
            have HT4 := Lib.hid ht4
            have RT4 := Lib.hid rt4
            clear rt4 ht4
            refine step_append_new9 rfl (.tmp 44) (.tmp 48) 31 rfl 9 i1 (.string ⟨#[]⟩) 16 Try.underlying31 hi1 hz1 hs1 hby1 rfl (some ⟨u1.heap.size, 0, none⟩) (by simp [Act.eval]) b2 6 c2 (gT tt4) (by simp [Act.eval]) RT4.out (fun i hi => rfl) ⟨by omega, by omega⟩ (by omega) ?_
            intro gg4 cc4 u4 hrow hb
            have F4 := Lib.hid (F3.out.below hb)
            have K4 := Lib.hid (K3.out.trans (hb.mono F3.out.sz))
            have RA4 := Lib.hid (RA3.out.kept (hb.block _ RA3.out.lt))
            have RB4 := Lib.hid hrow
            clear hrow hb
            refine hK.out _ _ (ROWS.out _ F4.out).2.2.2 (fun hHeld => ?_)
            clear hK K
            try simp only [Act.put, List.setIfInBounds_toArray, List.set_cons_zero, List.set_cons_succ]
            refine wpAnyH_ready (rs := [12]) (by kernel_rfl) (by simp) ?_
            refine AllReadyH.cons (o := ⟨_, _, _, _, _, _⟩) rfl (fun K hK => ?_) AllReadyH.nil
            · have B5 := Lib.hid (balloc u4 (.cells #[] 4))
              have F5 := Lib.hid (F4.out.below B5.out)
              have K5 := Lib.hid (K4.out.trans (B5.out.mono F4.out.sz))
              have RA5 := Lib.hid (RA4.out.kept (B5.out.block _ RA4.out.lt))
              have RB5 := Lib.hid (RB4.out.kept (B5.out.block _ RB4.out.lt))
              go_simp
              refine hK.out _ _ (ROWS.out _ F5.out).2.2.2 (fun hHeld => ?_)
              clear hK K
              try simp only [Act.put, List.setIfInBounds_toArray, List.set_cons_zero, List.set_cons_succ]
              generalize hu5 : u4.alloc (.cells #[] 4) = u5 at *
              clear hu5
              refine wpAnyH_ready (rs := [17]) (by kernel_rfl) (by simp) ?_
              refine AllReadyH.cons (o := ⟨_, _, _, _, _, _⟩) rfl (fun K hK => ?_) AllReadyH.nil
              · refine step_append_new9 rfl (.tmp 50) (.tmp 54) 32 rfl 4 i3 (.bool false) 1 Try.underlying32 hi3 hz3 hs3 hby3 rfl (some ⟨u4.heap.size, 0, none⟩) (by simp [Act.eval]) b3 6 c3 (gO d.is) (by simp [Act.eval]) (ROWS.out _ F5.out).2.2.1 (fun i hi => rfl) ⟨by omega, by omega⟩ (by omega) ?_
                intro gg6 cc6 u6 hrow hb
                have F6 := Lib.hid (F5.out.below hb)
                have K6 := Lib.hid (K5.out.trans (hb.mono F5.out.sz))
                have RA6 := Lib.hid (RA5.out.kept (hb.block _ RA5.out.lt))
                have RB6 := Lib.hid (RB5.out.kept (hb.block _ RB5.out.lt))
                have RC6 := Lib.hid hrow
                clear hrow hb
                refine hK.out _ _ (ROWS.out _ F6.out).2.2.2 (fun hHeld => ?_)
                clear hK K
                try simp only [Act.put, List.setIfInBounds_toArray, List.set_cons_zero, List.set_cons_succ]
                first | refine tq0 18 rfl ?_ | refine tq1 18 rfl ?_
                try go_frame
                first | refine tq0 19 rfl ?_ | refine tq1 19 rfl ?_
                try go_frame
                first | refine tq0 20 rfl ?_ | refine tq1 20 rfl ?_
                try go_frame
                refine wpAnyH_done (by kernel_rfl) ?_ _
                clear hHeld
                try go_wp2_with fail
                go_meet
                exact ⟨tt4, _, _, _, _, _, _, rfl, rfl, rfl, ⟨F6.out.p, RA6.out, RB6.out, RC6.out, HT4.out⟩, K6.out⟩
          · have B4 := Lib.hid (balloc u3 (.cells #[] 4))
            have F4 := Lib.hid (F3.out.below B4.out)
            have K4 := Lib.hid (K3.out.trans (B4.out.mono F3.out.sz))
            have RA4 := Lib.hid (RA3.out.kept (B4.out.block _ RA3.out.lt))
            go_simp
            refine hK.out _ _ (ROWS.out _ F4.out).2.2.2 (fun hHeld => ?_)
            clear hK K
            try simp only [Act.put, List.setIfInBounds_toArray, List.set_cons_zero, List.set_cons_succ]
            generalize hu4 : u3.alloc (.cells #[] 4) = u4 at *
            clear hu4
            refine wpAnyH_ready (rs := [11]) (by kernel_rfl) (by simp) ?_
            refine AllReadyH.cons (o := ⟨_, _, _, _, _, _⟩) rfl (fun K hK => ?_) AllReadyH.nil
            · obtain ⟨tt5, rt5, ht5⟩ := (ROWS.out _ F4.out).2.1
              have HT5 := Lib.hid ht5
              have RT5 := Lib.hid rt5
              clear rt5 ht5
              refine step_append_new9 rfl (.tmp 44) (.tmp 48) 31 rfl 9 i1 (.string ⟨#[]⟩) 16 Try.underlying31 hi1 hz1 hs1 hby1 rfl (some ⟨u1.heap.size, 0, none⟩) (by simp [Act.eval]) b2 6 c2 (gT tt5) (by simp [Act.eval]) RT5.out (fun i hi => rfl) ⟨by omega, by omega⟩ (by omega) ?_
              intro gg5 cc5 u5 hrow hb
              have F5 := Lib.hid (F4.out.below hb)
              have K5 := Lib.hid (K4.out.trans (hb.mono F4.out.sz))
              have RA5 := Lib.hid (RA4.out.kept (hb.block _ RA4.out.lt))
              have RB5 := Lib.hid hrow
              clear hrow hb
              refine hK.out _ _ (ROWS.out _ F5.out).2.2.2 (fun hHeld => ?_)
              clear hK K
              try simp only [Act.put, List.setIfInBounds_toArray, List.set_cons_zero, List.set_cons_succ]
              refine wpAnyH_ready (rs := [17]) (by kernel_rfl) (by simp) ?_
              refine AllReadyH.cons (o := ⟨_, _, _, _, _, _⟩) rfl (fun K hK => ?_) AllReadyH.nil
              · refine step_append_new9 rfl (.tmp 50) (.tmp 54) 32 rfl 4 i3 (.bool false) 1 Try.underlying32 hi3 hz3 hs3 hby3 rfl (some ⟨u3.heap.size, 0, none⟩) (by simp [Act.eval]) b3 6 c3 (gO d.is) (by simp [Act.eval]) (ROWS.out _ F5.out).2.2.1 (fun i hi => rfl) ⟨by omega, by omega⟩ (by omega) ?_
                intro gg6 cc6 u6 hrow hb
                have F6 := Lib.hid (F5.out.below hb)
                have K6 := Lib.hid (K5.out.trans (hb.mono F5.out.sz))
                have RA6 := Lib.hid (RA5.out.kept (hb.block _ RA5.out.lt))
                have RB6 := Lib.hid (RB5.out.kept (hb.block _ RB5.out.lt))
                have RC6 := Lib.hid hrow
                clear hrow hb
                refine hK.out _ _ (ROWS.out _ F6.out).2.2.2 (fun hHeld => ?_)
                clear hK K
                try simp only [Act.put, List.setIfInBounds_toArray, List.set_cons_zero, List.set_cons_succ]
                first | refine tq0 18 rfl ?_ | refine tq1 18 rfl ?_
                try go_frame
                first | refine tq0 19 rfl ?_ | refine tq1 19 rfl ?_
                try go_frame
                first | refine tq0 20 rfl ?_ | refine tq1 20 rfl ?_
                try go_frame
                refine wpAnyH_done (by kernel_rfl) ?_ _
                clear hHeld
                try go_wp2_with fail
                go_meet
                exact ⟨tt5, _, _, _, _, _, _, rfl, rfl, rfl, ⟨F6.out.p, RA6.out, RB6.out, RC6.out, HT5.out⟩, K6.out⟩
        · have B3 := Lib.hid (balloc u2 (.cells #[] 4))
          have F3 := Lib.hid (F2.out.below B3.out)
          have K3 := Lib.hid (K2.out.trans (B3.out.mono F2.out.sz))
          go_simp
          refine hK.out _ _ (ROWS.out _ F3.out).2.2.2 (fun hHeld => ?_)
          clear hK K
          try simp only [Act.put, List.setIfInBounds_toArray, List.set_cons_zero, List.set_cons_succ]
          generalize hu3 : u2.alloc (.cells #[] 4) = u3 at *
          clear hu3
          refine wpAnyH_ready (rs := [5]) (by kernel_rfl) (by simp) ?_
          refine AllReadyH.cons (o := ⟨_, _, _, _, _, _⟩) rfl (fun K hK => ?_) AllReadyH.nil
          · refine step_append_new9 rfl (.tmp 38) (.tmp 42) 31 rfl 9 i1 (.string ⟨#[]⟩) 16 Try.underlying31 hi1 hz1 hs1 hby1 rfl (some ⟨u0.heap.size, 0, none⟩) (by simp [Act.eval]) b1 6 c1 (gT fun i => sec (d.sf i)) (by simp [Act.eval]) (ROWS.out _ F3.out).1 (fun i hi => rfl) ⟨by omega, by omega⟩ (by omega) ?_
            intro gg4 cc4 u4 hrow hb
            have F4 := Lib.hid (F3.out.below hb)
            have K4 := Lib.hid (K3.out.trans (hb.mono F3.out.sz))
            have RA4 := Lib.hid hrow
            clear hrow hb
            refine hK.out _ _ (ROWS.out _ F4.out).2.2.2 (fun hHeld => ?_)
            clear hK K
            try simp only [Act.put, List.setIfInBounds_toArray, List.set_cons_zero, List.set_cons_succ]
            refine wpAnyH_ready (rs := [11]) (by kernel_rfl) (by simp) ?_
            refine AllReadyH.cons (o := ⟨_, _, _, _, _, _⟩) rfl (fun K hK => ?_) AllReadyH.nil
            · obtain ⟨tt5, rt5, ht5⟩ := (ROWS.out _ F4.out).2.1
              have HT5 := Lib.hid ht5
              have RT5 := Lib.hid rt5
              clear rt5 ht5
              refine step_append_new9 rfl (.tmp 44) (.tmp 48) 31 rfl 9 i1 (.string ⟨#[]⟩) 16 Try.underlying31 hi1 hz1 hs1 hby1 rfl (some ⟨u1.heap.size, 0, none⟩) (by simp [Act.eval]) b2 6 c2 (gT tt5) (by simp [Act.eval]) RT5.out (fun i hi => rfl) ⟨by omega, by omega⟩ (by omega) ?_
              intro gg5 cc5 u5 hrow hb
              have F5 := Lib.hid (F4.out.below hb)
              have K5 := Lib.hid (K4.out.trans (hb.mono F4.out.sz))
              have RA5 := Lib.hid (RA4.out.kept (hb.block _ RA4.out.lt))
              have RB5 := Lib.hid hrow
              clear hrow hb
              refine hK.out _ _ (ROWS.out _ F5.out).2.2.2 (fun hHeld => ?_)
              clear hK K
              try simp only [Act.put, List.setIfInBounds_toArray, List.set_cons_zero, List.set_cons_succ]
              refine wpAnyH_ready (rs := [17]) (by kernel_rfl) (by simp) ?_
              refine AllReadyH.cons (o := ⟨_, _, _, _, _, _⟩) rfl (fun K hK => ?_) AllReadyH.nil
              · refine step_append_new9 rfl (.tmp 50) (.tmp 54) 32 rfl 4 i3 (.bool false) 1 Try.underlying32 hi3 hz3 hs3 hby3 rfl (some ⟨u2.heap.size, 0, none⟩) (by simp [Act.eval]) b3 6 c3 (gO d.is) (by simp [Act.eval]) (ROWS.out _ F5.out).2.2.1 (fun i hi => rfl) ⟨by omega, by omega⟩ (by omega) ?_
                intro gg6 cc6 u6 hrow hb
                have F6 := Lib.hid (F5.out.below hb)
                have K6 := Lib.hid (K5.out.trans (hb.mono F5.out.sz))
                have RA6 := Lib.hid (RA5.out.kept (hb.block _ RA5.out.lt))
                have RB6 := Lib.hid (RB5.out.kept (hb.block _ RB5.out.lt))
                have RC6 := Lib.hid hrow
                clear hrow hb
                refine hK.out _ _ (ROWS.out _ F6.out).2.2.2 (fun hHeld => ?_)
                clear hK K
                try simp only [Act.put, List.setIfInBounds_toArray, List.set_cons_zero, List.set_cons_succ]
                first | refine tq0 18 rfl ?_ | refine tq1 18 rfl ?_
                try go_frame
                first | refine tq0 19 rfl ?_ | refine tq1 19 rfl ?_
                try go_frame
                first | refine tq0 20 rfl ?_ | refine tq1 20 rfl ?_
                try go_frame
                refine wpAnyH_done (by kernel_rfl) ?_ _
                clear hHeld
                try go_wp2_with fail
                go_meet
                exact ⟨tt5, _, _, _, _, _, _, rfl, rfl, rfl, ⟨F6.out.p, RA6.out, RB6.out, RC6.out, HT5.out⟩, K6.out⟩
      · have B2 := Lib.hid (balloc u1 (.cells #[] 4))
        have F2 := Lib.hid (F1.out.below B2.out)
        have K2 := Lib.hid (K1.out.trans (B2.out.mono F1.out.sz))
        go_simp
        refine hK.out _ _ (ROWS.out _ F2.out).2.2.2 (fun hHeld => ?_)
        clear hK K
        try simp only [Act.put, List.setIfInBounds_toArray, List.set_cons_zero, List.set_cons_succ]
        generalize hu2 : u1.alloc (.cells #[] 4) = u2 at *
        clear hu2
        refine wpAnyH_ready (rs := [5, 6]) (by kernel_rfl) (by simp) ?_
        refine AllReadyH.cons (o := ⟨_, _, _, _, _, _⟩) rfl (fun K hK => ?_) (AllReadyH.cons (o := ⟨_, _, _, _, _, _⟩) rfl (fun K hK => ?_) AllReadyH.nil)
        · refine step_append_new9 rfl (.tmp 38) (.tmp 42) 31 rfl 9 i1 (.string ⟨#[]⟩) 16 Try.underlying31 hi1 hz1 hs1 hby1 rfl (some ⟨u0.heap.size, 0, none⟩) (by simp [Act.eval]) b1 6 c1 (gT fun i => sec (d.sf i)) (by simp [Act.eval]) (ROWS.out _ F2.out).1 (fun i hi => rfl) ⟨by omega, by omega⟩ (by omega) ?_
          intro gg3 cc3 u3 hrow hb
          have F3 := Lib.hid (F2.out.below hb)
          have K3 := Lib.hid (K2.out.trans (hb.mono F2.out.sz))
          have RA3 := Lib.hid hrow
          clear hrow hb
          refine hK.out _ _ (ROWS.out _ F3.out).2.2.2 (fun hHeld => ?_)
          clear hK K
          try simp only [Act.put, List.setIfInBounds_toArray, List.set_cons_zero, List.set_cons_succ]
          refine wpAnyH_ready (rs := [6]) (by kernel_rfl) (by simp) ?_
          refine AllReadyH.cons (o := ⟨_, _, _, _, _, _⟩) rfl (fun K hK => ?_) AllReadyH.nil
          · have B4 := Lib.hid (balloc u3 (.cells #[] 9))
            have F4 := Lib.hid (F3.out.below B4.out)
            have K4 := Lib.hid (K3.out.trans (B4.out.mono F3.out.sz))
            have RA4 := Lib.hid (RA3.out.kept (B4.out.block _ RA3.out.lt))
            go_simp
            refine hK.out _ _ (ROWS.out _ F4.out).2.2.2 (fun hHeld => ?_)
            clear hK K
            try simp only [Act.put, List.setIfInBounds_toArray, List.set_cons_zero, List.set_cons_succ]
            generalize hu4 : u3.alloc (.cells #[] 9) = u4 at *
            clear hu4
            refine wpAnyH_ready (rs := [11]) (by kernel_rfl) (by simp) ?_
            refine AllReadyH.cons (o := ⟨_, _, _, _, _, _⟩) rfl (fun K hK => ?_) AllReadyH.nil
            · obtain ⟨tt5, rt5, ht5⟩ := (ROWS.out _ F4.out).2.1
              have HT5 := Lib.hid ht5
              have RT5 := Lib.hid rt5
              clear rt5 ht5
              refine step_append_new9 rfl (.tmp 44) (.tmp 48) 31 rfl 9 i1 (.string ⟨#[]⟩) 16 Try.underlying31 hi1 hz1 hs1 hby1 rfl (some ⟨u3.heap.size, 0, none⟩) (by simp [Act.eval]) b2 6 c2 (gT tt5) (by simp [Act.eval]) RT5.out (fun i hi => rfl) ⟨by omega, by omega⟩ (by omega) ?_
              intro gg5 cc5 u5 hrow hb
              have F5 := Lib.hid (F4.out.below hb)
              have K5 := Lib.hid (K4.out.trans (hb.mono F4.out.sz))
              have RA5 := Lib.hid (RA4.out.kept (hb.block _ RA4.out.lt))
              have RB5 := Lib.hid hrow
              clear hrow hb
              refine hK.out _ _ (ROWS.out _ F5.out).2.2.2 (fun hHeld => ?_)
              clear hK K
              try simp only [Act.put, List.setIfInBounds_toArray, List.set_cons_zero, List.set_cons_succ]
              refine wpAnyH_ready (rs := [17]) (by kernel_rfl) (by simp) ?_
              refine AllReadyH.cons (o := ⟨_, _, _, _, _, _⟩) rfl (fun K hK => ?_) AllReadyH.nil
              · refine step_append_new9 rfl (.tmp 50) (.tmp 54) 32 rfl 4 i3 (.bool false) 1 Try.underlying32 hi3 hz3 hs3 hby3 rfl (some ⟨u1.heap.size, 0, none⟩) (by simp [Act.eval]) b3 6 c3 (gO d.is) (by simp [Act.eval]) (ROWS.out _ F5.out).2.2.1 (fun i hi => rfl) ⟨by omega, by omega⟩ (by omega) ?_
                intro gg6 cc6 u6 hrow hb
                have F6 := Lib.hid (F5.out.below hb)
                have K6 := Lib.hid (K5.out.trans (hb.mono F5.out.sz))
                have RA6 := Lib.hid (RA5.out.kept (hb.block _ RA5.out.lt))
                have RB6 := Lib.hid (RB5.out.kept (hb.block _ RB5.out.lt))
                have RC6 := Lib.hid hrow
                clear hrow hb
                refine hK.out _ _ (ROWS.out _ F6.out).2.2.2 (fun hHeld => ?_)
                clear hK K
                try simp only [Act.put, List.setIfInBounds_toArray, List.set_cons_zero, List.set_cons_succ]
                first | refine tq0 18 rfl ?_ | refine tq1 18 rfl ?_
                try go_frame
                first | refine tq0 19 rfl ?_ | refine tq1 19 rfl ?_
                try go_frame
                first | refine tq0 20 rfl ?_ | refine tq1 20 rfl ?_
                try go_frame
                refine wpAnyH_done (by kernel_rfl) ?_ _
                clear hHeld
                try go_wp2_with fail
                go_meet
                exact ⟨tt5, _, _, _, _, _, _, rfl, rfl, rfl, ⟨F6.out.p, RA6.out, RB6.out, RC6.out, HT5.out⟩, K6.out⟩
        · have B3 := Lib.hid (balloc u2 (.cells #[] 9))
          have F3 := Lib.hid (F2.out.below B3.out)
          have K3 := Lib.hid (K2.out.trans (B3.out.mono F2.out.sz))
          go_simp
          refine hK.out _ _ (ROWS.out _ F3.out).2.2.2 (fun hHeld => ?_)
          clear hK K
          try simp only [Act.put, List.setIfInBounds_toArray, List.set_cons_zero, List.set_cons_succ]
          generalize hu3 : u2.alloc (.cells #[] 9) = u3 at *
          clear hu3
          refine wpAnyH_ready (rs := [5]) (by kernel_rfl) (by simp) ?_
          refine AllReadyH.cons (o := ⟨_, _, _, _, _, _⟩) rfl (fun K hK => ?_) AllReadyH.nil
          · refine step_append_new9 rfl (.tmp 38) (.tmp 42) 31 rfl 9 i1 (.string ⟨#[]⟩) 16 Try.underlying31 hi1 hz1 hs1 hby1 rfl (some ⟨u0.heap.size, 0, none⟩) (by simp [Act.eval]) b1 6 c1 (gT fun i => sec (d.sf i)) (by simp [Act.eval]) (ROWS.out _ F3.out).1 (fun i hi => rfl) ⟨by omega, by omega⟩ (by omega) ?_
            intro gg4 cc4 u4 hrow hb
            have F4 := Lib.hid (F3.out.below hb)
            have K4 := Lib.hid (K3.out.trans (hb.mono F3.out.sz))
            have RA4 := Lib.hid hrow
            clear hrow hb
            refine hK.out _ _ (ROWS.out _ F4.out).2.2.2 (fun hHeld => ?_)
            clear hK K
            try simp only [Act.put, List.setIfInBounds_toArray, List.set_cons_zero, List.set_cons_succ]
            refine wpAnyH_ready (rs := [11]) (by kernel_rfl) (by simp) ?_
            refine AllReadyH.cons (o := ⟨_, _, _, _, _, _⟩) rfl (fun K hK => ?_) AllReadyH.nil
            · obtain ⟨tt5, rt5, ht5⟩ := (ROWS.out _ F4.out).2.1
              have HT5 := Lib.hid ht5
              have RT5 := Lib.hid rt5
              clear rt5 ht5
              refine step_append_new9 rfl (.tmp 44) (.tmp 48) 31 rfl 9 i1 (.string ⟨#[]⟩) 16 Try.underlying31 hi1 hz1 hs1 hby1 rfl (some ⟨u2.heap.size, 0, none⟩) (by simp [Act.eval]) b2 6 c2 (gT tt5) (by simp [Act.eval]) RT5.out (fun i hi => rfl) ⟨by omega, by omega⟩ (by omega) ?_
              intro gg5 cc5 u5 hrow hb
              have F5 := Lib.hid (F4.out.below hb)
              have K5 := Lib.hid (K4.out.trans (hb.mono F4.out.sz))
              have RA5 := Lib.hid (RA4.out.kept (hb.block _ RA4.out.lt))
              have RB5 := Lib.hid hrow
              clear hrow hb
              refine hK.out _ _ (ROWS.out _ F5.out).2.2.2 (fun hHeld => ?_)
              clear hK K
              try simp only [Act.put, List.setIfInBounds_toArray, List.set_cons_zero, List.set_cons_succ]
              refine wpAnyH_ready (rs := [17]) (by kernel_rfl) (by simp) ?_
              refine AllReadyH.cons (o := ⟨_, _, _, _, _, _⟩) rfl (fun K hK => ?_) AllReadyH.nil
              · refine step_append_new9 rfl (.tmp 50) (.tmp 54) 32 rfl 4 i3 (.bool false) 1 Try.underlying32 hi3 hz3 hs3 hby3 rfl (some ⟨u1.heap.size, 0, none⟩) (by simp [Act.eval]) b3 6 c3 (gO d.is) (by simp [Act.eval]) (ROWS.out _ F5.out).2.2.1 (fun i hi => rfl) ⟨by omega, by omega⟩ (by omega) ?_
                intro gg6 cc6 u6 hrow hb
                have F6 := Lib.hid (F5.out.below hb)
                have K6 := Lib.hid (K5.out.trans (hb.mono F5.out.sz))
                have RA6 := Lib.hid (RA5.out.kept (hb.block _ RA5.out.lt))
                have RB6 := Lib.hid (RB5.out.kept (hb.block _ RB5.out.lt))
                have RC6 := Lib.hid hrow
                clear hrow hb
                refine hK.out _ _ (ROWS.out _ F6.out).2.2.2 (fun hHeld => ?_)
                clear hK K
                try simp only [Act.put, List.setIfInBounds_toArray, List.set_cons_zero, List.set_cons_succ]
                first | refine tq0 18 rfl ?_ | refine tq1 18 rfl ?_
                try go_frame
                first | refine tq0 19 rfl ?_ | refine tq1 19 rfl ?_
                try go_frame
                first | refine tq0 20 rfl ?_ | refine tq1 20 rfl ?_
                try go_frame
                refine wpAnyH_done (by kernel_rfl) ?_ _
                clear hHeld
                try go_wp2_with fail
                go_meet
                exact ⟨tt5, _, _, _, _, _, _, rfl, rfl, rfl, ⟨F6.out.p, RA6.out, RB6.out, RC6.out, HT5.out⟩, K6.out⟩
    · have B1 := Lib.hid (balloc u0 (.cells #[] 9))
      have F1 := Lib.hid (F0.out.below B1.out)
      have K1 := Lib.hid (K0.out.trans (B1.out.mono F0.out.sz))
      go_simp
      refine hK.out _ _ (ROWS.out _ F1.out).2.2.2 (fun hHeld => ?_)
      clear hK K
      try simp only [Act.put, List.setIfInBounds_toArray, List.set_cons_zero, List.set_cons_succ]
      generalize hu1 : u0.alloc (.cells #[] 9) = u1 at *
      clear hu1
      refine wpAnyH_ready (rs := [0, 12]) (by kernel_rfl) (by simp) ?_
      refine AllReadyH.cons (o := ⟨_, _, _, _, _, _⟩) rfl (fun K hK => ?_) (AllReadyH.cons (o := ⟨_, _, _, _, _, _⟩) rfl (fun K hK => ?_) AllReadyH.nil)
      · have B2 := Lib.hid (balloc u1 (.cells #[] 9))
        have F2 := Lib.hid (F1.out.below B2.out)
        have K2 := Lib.hid (K1.out.trans (B2.out.mono F1.out.sz))
        go_simp
        refine hK.out _ _ (ROWS.out _ F2.out).2.2.2 (fun hHeld => ?_)
        clear hK K
        try simp only [Act.put, List.setIfInBounds_toArray, List.set_cons_zero, List.set_cons_succ]
        generalize hu2 : u1.alloc (.cells #[] 9) = u2 at *
        clear hu2
        refine wpAnyH_ready (rs := [5, 12]) (by kernel_rfl) (by simp) ?_
        refine AllReadyH.cons (o := ⟨_, _, _, _, _, _⟩) rfl (fun K hK => ?_) (AllReadyH.cons (o := ⟨_, _, _, _, _, _⟩) rfl (fun K hK => ?_) AllReadyH.nil)
        · refine step_append_new9 rfl (.tmp 38) (.tmp 42) 31 rfl 9 i1 (.string ⟨#[]⟩) 16 Try.underlying31 hi1 hz1 hs1 hby1 rfl (some ⟨u1.heap.size, 0, none⟩) (by simp [Act.eval]) b1 6 c1 (gT fun i => sec (d.sf i)) (by simp [Act.eval]) (ROWS.out _ F2.out).1 (fun i hi => rfl) ⟨by omega, by omega⟩ (by omega) ?_
          intro gg3 cc3 u3 hrow hb
          have F3 := Lib.hid (F2.out.below hb)
          have K3 := Lib.hid (K2.out.trans (hb.mono F2.out.sz))
          have RA3 := Lib.hid hrow
          clear hrow hb
          refine hK.out _ _ (ROWS.out _ F3.out).2.2.2 (fun hHeld => ?_)
          clear hK K
          try simp only [Act.put, List.setIfInBounds_toArray, List.set_cons_zero, List.set_cons_succ]
          refine wpAnyH_ready (rs := [11, 12]) (by kernel_rfl) (by simp) ?_
          refine AllReadyH.cons (o := ⟨_, _, _, _, _, _⟩) rfl (fun K hK => ?_) (AllReadyH.cons (o := ⟨_, _, _, _, _, _⟩) rfl (fun K hK => ?_) AllReadyH.nil)
          · obtain ⟨tt4, rt4, ht4⟩ := (ROWS.out _ F3.out).2.1
            have HT4 := Lib.hid ht4
            have RT4 := Lib.hid rt4
            clear rt4 ht4
            refine step_append_new9 rfl (.tmp 44) (.tmp 48) 31 rfl 9 i1 (.string ⟨#[]⟩) 16 Try.underlying31 hi1 hz1 hs1 hby1 rfl (some ⟨u0.heap.size, 0, none⟩) (by simp [Act.eval]) b2 6 c2 (gT tt4) (by simp [Act.eval]) RT4.out (fun i hi => rfl) ⟨by omega, by omega⟩ (by omega) ?_
            intro gg4 cc4 u4 hrow hb
            have F4 := Lib.hid (F3.out.below hb)
            have K4 := Lib.hid (K3.out.trans (hb.mono F3.out.sz))
            have RA4 := Lib.hid (RA3.out.kept (hb.block _ RA3.out.lt))
            have RB4 := Lib.hid hrow
            clear hrow hb
            refine hK.out _ _ (ROWS.out _ F4.out).2.2.2 (fun hHeld => ?_)
            clear hK K
            try simp only [Act.put, List.setIfInBounds_toArray, List.set_cons_zero, List.set_cons_succ]
            refine wpAnyH_ready (rs := [12]) (by kernel_rfl) (by simp) ?_
            refine AllReadyH.cons (o := ⟨_, _, _, _, _, _⟩) rfl (fun K hK => ?_) AllReadyH.nil
            · have B5 := Lib.hid (balloc u4 (.cells #[] 4))
              have F5 := Lib.hid (F4.out.below B5.out)
              have K5 := Lib.hid (K4.out.trans (B5.out.mono F4.out.sz))
              have RA5 := Lib.hid (RA4.out.kept (B5.out.block _ RA4.out.lt))
              have RB5 := Lib.hid (RB4.out.kept (B5.out.block _ RB4.out.lt))
              go_simp
              refine hK.out _ _ (ROWS.out _ F5.out).2.2.2 (fun hHeld => ?_)
              clear hK K
              try simp only [Act.put, List.setIfInBounds_toArray, List.set_cons_zero, List.set_cons_succ]
              generalize hu5 : u4.alloc (.cells #[] 4) = u5 at *
              clear hu5
              refine wpAnyH_ready (rs := [17]) (by kernel_rfl) (by simp) ?_
              refine AllReadyH.cons (o := ⟨_, _, _, _, _, _⟩) rfl (fun K hK => ?_) AllReadyH.nil
              · refine step_append_new9 rfl (.tmp 50) (.tmp 54) 32 rfl 4 i3 (.bool false) 1 Try.underlying32 hi3 hz3 hs3 hby3 rfl (some ⟨u4.heap.size, 0, none⟩) (by simp [Act.eval]) b3 6 c3 (gO d.is) (by simp [Act.eval]) (ROWS.out _ F5.out).2.2.1 (fun i hi => rfl) ⟨by omega, by omega⟩ (by omega) ?_
                intro gg6 cc6 u6 hrow hb
                have F6 := Lib.hid (F5.out.below hb)
                have K6 := Lib.hid (K5.out.trans (hb.mono F5.out.sz))
                have RA6 := Lib.hid (RA5.out.kept (hb.block _ RA5.out.lt))
                have RB6 := Lib.hid (RB5.out.kept (hb.block _ RB5.out.lt))
                have RC6 := Lib.hid hrow
                clear hrow hb
                refine hK.out _ _ (ROWS.out _ F6.out).2.2.2 (fun hHeld => ?_)
                clear hK K
                try simp only [Act.put, List.setIfInBounds_toArray, List.set_cons_zero, List.set_cons_succ]
                first | refine tq0 18 rfl ?_ | refine tq1 18 rfl ?_
                try go_frame
                first | refine tq0 19 rfl ?_ | refine tq1 19 rfl ?_
                try go_frame
                first | refine tq0 20 rfl ?_ | refine tq1 20 rfl ?_
                try go_frame
                refine wpAnyH_done (by kernel_rfl) ?_ _
                clear hHeld
                try go_wp2_with fail
                go_meet
                exact ⟨tt4, _, _, _, _, _, _, rfl, rfl, rfl, ⟨F6.out.p, RA6.out, RB6.out, RC6.out, HT4.out⟩, K6.out⟩
          · have B4 := Lib.hid (balloc u3 (.cells #[] 4))
            have F4 := Lib.hid (F3.out.below B4.out)
            have K4 := Lib.hid (K3.out.trans (B4.out.mono F3.out.sz))
            have RA4 := Lib.hid (RA3.out.kept (B4.out.block _ RA3.out.lt))
            go_simp
            refine hK.out _ _ (ROWS.out _ F4.out).2.2.2 (fun hHeld => ?_)
            clear hK K
            try simp only [Act.put, List.setIfInBounds_toArray, List.set_cons_zero, List.set_cons_succ]
            generalize hu4 : u3.alloc (.cells #[] 4) = u4 at *
            clear hu4
            refine wpAnyH_ready (rs := [11]) (by kernel_rfl) (by simp) ?_
            refine AllReadyH.cons (o := ⟨_, _, _, _, _, _⟩) rfl (fun K hK => ?_) AllReadyH.nil
            · obtain ⟨tt5, rt5, ht5⟩ := (ROWS.out _ F4.out).2.1
              have HT5 := Lib.hid ht5
              have RT5 := Lib.hid rt5
              clear rt5 ht5
              refine step_append_new9 rfl (.tmp 44) (.tmp 48) 31 rfl 9 i1 (.string ⟨#[]⟩) 16 Try.underlying31 hi1 hz1 hs1 hby1 rfl (some ⟨u0.heap.size, 0, none⟩) (by simp [Act.eval]) b2 6 c2 (gT tt5) (by simp [Act.eval]) RT5.out (fun i hi => rfl) ⟨by omega, by omega⟩ (by omega) ?_
              intro gg5 cc5 u5 hrow hb
              have F5 := Lib.hid (F4.out.below hb)
              have K5 := Lib.hid (K4.out.trans (hb.mono F4.out.sz))
              have RA5 := Lib.hid (RA4.out.kept (hb.block _ RA4.out.lt))
              have RB5 := Lib.hid hrow
              clear hrow hb
              refine hK.out _ _ (ROWS.out _ F5.out).2.2.2 (fun hHeld => ?_)
              clear hK K
              try simp only [Act.put, List.setIfInBounds_toArray, List.set_cons_zero, List.set_cons_succ]
              refine wpAnyH_ready (rs := [17]) (by kernel_rfl) (by simp) ?_
              refine AllReadyH.cons (o := ⟨_, _, _, _, _, _⟩) rfl (fun K hK => ?_) AllReadyH.nil
              · refine step_append_new9 rfl (.tmp 50) (.tmp 54) 32 rfl 4 i3 (.bool false) 1 Try.underlying32 hi3 hz3 hs3 hby3 rfl (some ⟨u3.heap.size, 0, none⟩) (by simp [Act.eval]) b3 6 c3 (gO d.is) (by simp [Act.eval]) (ROWS.out _ F5.out).2.2.1 (fun i hi => rfl) ⟨by omega, by omega⟩ (by omega) ?_
                intro gg6 cc6 u6 hrow hb
                have F6 := Lib.hid (F5.out.below hb)
                have K6 := Lib.hid (K5.out.trans (hb.mono F5.out.sz))
                have RA6 := Lib.hid (RA5.out.kept (hb.block _ RA5.out.lt))
                have RB6 := Lib.hid (RB5.out.kept (hb.block _ RB5.out.lt))
                have RC6 := Lib.hid hrow
                clear hrow hb
                refine hK.out _ _ (ROWS.out _ F6.out).2.2.2 (fun hHeld => ?_)
                clear hK K
                try simp only [Act.put, List.setIfInBounds_toArray, List.set_cons_zero, List.set_cons_succ]
                first | refine tq0 18 rfl ?_ | refine tq1 18 rfl ?_
                try go_frame
                first | refine tq0 19 rfl ?_ | refine tq1 19 rfl ?_
                try go_frame
                first | refine tq0 20 rfl ?_ | refine tq1 20 rfl ?_
                try go_frame
                refine wpAnyH_done (by kernel_rfl) ?_ _
                clear hHeld
                try go_wp2_with fail
                go_meet
                exact ⟨tt5, _, _, _, _, _, _, rfl, rfl, rfl, ⟨F6.out.p, RA6.out, RB6.out, RC6.out, HT5.out⟩, K6.out⟩
        · have B3 := Lib.hid (balloc u2 (.cells #[] 4))
          have F3 := Lib.hid (F2.out.below B3.out)
          have K3 := Lib.hid (K2.out.trans (B3.out.mono F2.out.sz))
          go_simp
          refine hK.out _ _ (ROWS.out _ F3.out).2.2.2 (fun hHeld => ?_)
          clear hK K
          try simp only [Act.put, List.setIfInBounds_toArray, List.set_cons_zero, List.set_cons_succ]
          generalize hu3 : u2.alloc (.cells #[] 4) = u3 at *
          clear hu3
          refine wpAnyH_ready (rs := [5]) (by kernel_rfl) (by simp) ?_
          refine AllReadyH.cons (o := ⟨_, _, _, _, _, _⟩) rfl (fun K hK => ?_) AllReadyH.nil
          · refine step_append_new9 rfl (.tmp 38) (.tmp 42) 31 rfl 9 i1 (.string ⟨#[]⟩) 16 Try.underlying31 hi1 hz1 hs1 hby1 rfl (some ⟨u1.heap.size, 0, none⟩) (by simp [Act.eval]) b1 6 c1 (gT fun i => sec (d.sf i)) (by simp [Act.eval]) (ROWS.out _ F3.out).1 (fun i hi => rfl) ⟨by omega, by omega⟩ (by omega) ?_
            intro gg4 cc4 u4 hrow hb
            have F4 := Lib.hid (F3.out.below hb)
            have K4 := Lib.hid (K3.out.trans (hb.mono F3.out.sz))
            have RA4 := Lib.hid hrow
            clear hrow hb
            refine hK.out _ _ (ROWS.out _ F4.out).2.2.2 (fun hHeld => ?_)
            clear hK K
            try simp only [Act.put, List.setIfInBounds_toArray, List.set_cons_zero, List.set_cons_succ]
            refine wpAnyH_ready (rs := [11]) (by kernel_rfl) (by simp) ?_
            refine AllReadyH.cons (o := ⟨_, _, _, _, _, _⟩) rfl (fun K hK => ?_) AllReadyH.nil
            · obtain ⟨tt5, rt5, ht5⟩ := (ROWS.out _ F4.out).2.1
              have HT5 := Lib.hid ht5
              have RT5 := Lib.hid rt5
              clear rt5 ht5
              refine step_append_new9 rfl (.tmp 44) (.tmp 48) 31 rfl 9 i1 (.string ⟨#[]⟩) 16 Try.underlying31 hi1 hz1 hs1 hby1 rfl (some ⟨u0.heap.size, 0, none⟩) (by simp [Act.eval]) b2 6 c2 (gT tt5) (by simp [Act.eval]) RT5.out (fun i hi => rfl) ⟨by omega, by omega⟩ (by omega) ?_
              intro gg5 cc5 u5 hrow hb
              have F5 := Lib.hid (F4.out.below hb)
              have K5 := Lib.hid (K4.out.trans (hb.mono F4.out.sz))
              have RA5 := Lib.hid (RA4.out.kept (hb.block _ RA4.out.lt))
              have RB5 := Lib.hid hrow
              clear hrow hb
              refine hK.out _ _ (ROWS.out _ F5.out).2.2.2 (fun hHeld => ?_)
              clear hK K
              try simp only [Act.put, List.setIfInBounds_toArray, List.set_cons_zero, List.set_cons_succ]
              refine wpAnyH_ready (rs := [17]) (by kernel_rfl) (by simp) ?_
              refine AllReadyH.cons (o := ⟨_, _, _, _, _, _⟩) rfl (fun K hK => ?_) AllReadyH.nil
              · refine step_append_new9 rfl (.tmp 50) (.tmp 54) 32 rfl 4 i3 (.bool false) 1 Try.underlying32 hi3 hz3 hs3 hby3 rfl (some ⟨u2.heap.size, 0, none⟩) (by simp [Act.eval]) b3 6 c3 (gO d.is) (by simp [Act.eval]) (ROWS.out _ F5.out).2.2.1 (fun i hi => rfl) ⟨by omega, by omega⟩ (by omega) ?_
                intro gg6 cc6 u6 hrow hb
                have F6 := Lib.hid (F5.out.below hb)
                have K6 := Lib.hid (K5.out.trans (hb.mono F5.out.sz))
                have RA6 := Lib.hid (RA5.out.kept (hb.block _ RA5.out.lt))
                have RB6 := Lib.hid (RB5.out.kept (hb.block _ RB5.out.lt))
                have RC6 := Lib.hid hrow
                clear hrow hb
                refine hK.out _ _ (ROWS.out _ F6.out).2.2.2 (fun hHeld => ?_)
                clear hK K
                try simp only [Act.put, List.setIfInBounds_toArray, List.set_cons_zero, List.set_cons_succ]
                first | refine tq0 18 rfl ?_ | refine tq1 18 rfl ?_
                try go_frame
                first | refine tq0 19 rfl ?_ | refine tq1 19 rfl ?_
                try go_frame
                first | refine tq0 20 rfl ?_ | refine tq1 20 rfl ?_
                try go_frame
                refine wpAnyH_done (by kernel_rfl) ?_ _
                clear hHeld
                try go_wp2_with fail
                go_meet
                exact ⟨tt5, _, _, _, _, _, _, rfl, rfl, rfl, ⟨F6.out.p, RA6.out, RB6.out, RC6.out, HT5.out⟩, K6.out⟩
      · have B2 := Lib.hid (balloc u1 (.cells #[] 4))
        have F2 := Lib.hid (F1.out.below B2.out)
        have K2 := Lib.hid (K1.out.trans (B2.out.mono F1.out.sz))
        go_simp
        refine hK.out _ _ (ROWS.out _ F2.out).2.2.2 (fun hHeld => ?_)
        clear hK K
        try simp only [Act.put, List.setIfInBounds_toArray, List.set_cons_zero, List.set_cons_succ]
        generalize hu2 : u1.alloc (.cells #[] 4) = u2 at *
        clear hu2
        refine wpAnyH_ready (rs := [0]) (by kernel_rfl) (by simp) ?_
        refine AllReadyH.cons (o := ⟨_, _, _, _, _, _⟩) rfl (fun K hK => ?_) AllReadyH.nil
        · have B3 := Lib.hid (balloc u2 (.cells #[] 9))
          have F3 := Lib.hid (F2.out.below B3.out)
          have K3 := Lib.hid (K2.out.trans (B3.out.mono F2.out.sz))
          go_simp
          refine hK.out _ _ (ROWS.out _ F3.out).2.2.2 (fun hHeld => ?_)
          clear hK K
          try simp only [Act.put, List.setIfInBounds_toArray, List.set_cons_zero, List.set_cons_succ]
          generalize hu3 : u2.alloc (.cells #[] 9) = u3 at *
          clear hu3
          refine wpAnyH_ready (rs := [5]) (by kernel_rfl) (by simp) ?_
          refine AllReadyH.cons (o := ⟨_, _, _, _, _, _⟩) rfl (fun K hK => ?_) AllReadyH.nil
          · refine step_append_new9 rfl (.tmp 38) (.tmp 42) 31 rfl 9 i1 (.string ⟨#[]⟩) 16 Try.underlying31 hi1 hz1 hs1 hby1 rfl (some ⟨u2.heap.size, 0, none⟩) (by simp [Act.eval]) b1 6 c1 (gT fun i => sec (d.sf i)) (by simp [Act.eval]) (ROWS.out _ F3.out).1 (fun i hi => rfl) ⟨by omega, by omega⟩ (by omega) ?_
            intro gg4 cc4 u4 hrow hb
            have F4 := Lib.hid (F3.out.below hb)
            have K4 := Lib.hid (K3.out.trans (hb.mono F3.out.sz))
            have RA4 := Lib.hid hrow
            clear hrow hb
            refine hK.out _ _ (ROWS.out _ F4.out).2.2.2 (fun hHeld => ?_)
            clear hK K
            try simp only [Act.put, List.setIfInBounds_toArray, List.set_cons_zero, List.set_cons_succ]
            refine wpAnyH_ready (rs := [11]) (by kernel_rfl) (by simp) ?_
            refine AllReadyH.cons (o := ⟨_, _, _, _, _, _⟩) rfl (fun K hK => ?_) AllReadyH.nil
            · obtain ⟨tt5, rt5, ht5⟩ := (ROWS.out _ F4.out).2.1
              have HT5 := Lib.hid ht5
              have RT5 := Lib.hid rt5
              clear rt5 ht5
              refine step_append_new9 rfl (.tmp 44) (.tmp 48) 31 rfl 9 i1 (.string ⟨#[]⟩) 16 Try.underlying31 hi1 hz1 hs1 hby1 rfl (some ⟨u0.heap.size, 0, none⟩) (by simp [Act.eval]) b2 6 c2 (gT tt5) (by simp [Act.eval]) RT5.out (fun i hi => rfl) ⟨by omega, by omega⟩ (by omega) ?_
              intro gg5 cc5 u5 hrow hb
              have F5 := Lib.hid (F4.out.below hb)
              have K5 := Lib.hid (K4.out.trans (hb.mono F4.out.sz))
              have RA5 := Lib.hid (RA4.out.kept (hb.block _ RA4.out.lt))
              have RB5 := Lib.hid hrow
              clear hrow hb
              refine hK.out _ _ (ROWS.out _ F5.out).2.2.2 (fun hHeld => ?_)
              clear hK K
              try simp only [Act.put, List.setIfInBounds_toArray, List.set_cons_zero, List.set_cons_succ]
              refine wpAnyH_ready (rs := [17]) (by kernel_rfl) (by simp) ?_
              refine AllReadyH.cons (o := ⟨_, _, _, _, _, _⟩) rfl (fun K hK => ?_) AllReadyH.nil
              · refine step_append_new9 rfl (.tmp 50) (.tmp 54) 32 rfl 4 i3 (.bool false) 1 Try.underlying32 hi3 hz3 hs3 hby3 rfl (some ⟨u1.heap.size, 0, none⟩) (by simp [Act.eval]) b3 6 c3 (gO d.is) (by simp [Act.eval]) (ROWS.out _ F5.out).2.2.1 (fun i hi => rfl) ⟨by omega, by omega⟩ (by omega) ?_
                intro gg6 cc6 u6 hrow hb
                have F6 := Lib.hid (F5.out.below hb)
                have K6 := Lib.hid (K5.out.trans (hb.mono F5.out.sz))
                have RA6 := Lib.hid (RA5.out.kept (hb.block _ RA5.out.lt))
                have RB6 := Lib.hid (RB5.out.kept (hb.block _ RB5.out.lt))
                have RC6 := Lib.hid hrow
                clear hrow hb
                refine hK.out _ _ (ROWS.out _ F6.out).2.2.2 (fun hHeld => ?_)
                clear hK K
                try simp only [Act.put, List.setIfInBounds_toArray, List.set_cons_zero, List.set_cons_succ]
                first | refine tq0 18 rfl ?_ | refine tq1 18 rfl ?_
                try go_frame
                first | refine tq0 19 rfl ?_ | refine tq1 19 rfl ?_
                try go_frame
                first | refine tq0 20 rfl ?_ | refine tq1 20 rfl ?_
                try go_frame
                refine wpAnyH_done (by kernel_rfl) ?_ _
                clear hHeld
                try go_wp2_with fail
                go_meet
                exact ⟨tt5, _, _, _, _, _, _, rfl, rfl, rfl, ⟨F6.out.p, RA6.out, RB6.out, RC6.out, HT5.out⟩, K6.out⟩
    · have B1 := Lib.hid (balloc u0 (.cells #[] 4))
      have F1 := Lib.hid (F0.out.below B1.out)
      have K1 := Lib.hid (K0.out.trans (B1.out.mono F0.out.sz))
      go_simp
      refine hK.out _ _ (ROWS.out _ F1.out).2.2.2 (fun hHeld => ?_)
      clear hK K
      try simp only [Act.put, List.setIfInBounds_toArray, List.set_cons_zero, List.set_cons_succ]
      generalize hu1 : u0.alloc (.cells #[] 4) = u1 at *
      clear hu1
      refine wpAnyH_ready (rs := [0, 6]) (by kernel_rfl) (by simp) ?_
      refine AllReadyH.cons (o := ⟨_, _, _, _, _, _⟩) rfl (fun K hK => ?_) (AllReadyH.cons (o := ⟨_, _, _, _, _, _⟩) rfl (fun K hK => ?_) AllReadyH.nil)
      · have B2 := Lib.hid (balloc u1 (.cells #[] 9))
        have F2 := Lib.hid (F1.out.below B2.out)
        have K2 := Lib.hid (K1.out.trans (B2.out.mono F1.out.sz))
        go_simp
        refine hK.out _ _ (ROWS.out _ F2.out).2.2.2 (fun hHeld => ?_)
        clear hK K
        try simp only [Act.put, List.setIfInBounds_toArray, List.set_cons_zero, List.set_cons_succ]
        generalize hu2 : u1.alloc (.cells #[] 9) = u2 at *
        clear hu2
        refine wpAnyH_ready (rs := [5, 6]) (by kernel_rfl) (by simp) ?_
        refine AllReadyH.cons (o := ⟨_, _, _, _, _, _⟩) rfl (fun K hK => ?_) (AllReadyH.cons (o := ⟨_, _, _, _, _, _⟩) rfl (fun K hK => ?_) AllReadyH.nil)
        · refine step_append_new9 rfl (.tmp 38) (.tmp 42) 31 rfl 9 i1 (.string ⟨#[]⟩) 16 Try.underlying31 hi1 hz1 hs1 hby1 rfl (some ⟨u1.heap.size, 0, none⟩) (by simp [Act.eval]) b1 6 c1 (gT fun i => sec (d.sf i)) (by simp [Act.eval]) (ROWS.out _ F2.out).1 (fun i hi => rfl) ⟨by omega, by omega⟩ (by omega) ?_
          intro gg3 cc3 u3 hrow hb
          have F3 := Lib.hid (F2.out.below hb)
          have K3 := Lib.hid (K2.out.trans (hb.mono F2.out.sz))
          have RA3 := Lib.hid hrow
          clear hrow hb
          refine hK.out _ _ (ROWS.out _ F3.out).2.2.2 (fun hHeld => ?_)
          clear hK K
          try simp only [Act.put, List.setIfInBounds_toArray, List.set_cons_zero, List.set_cons_succ]
          refine wpAnyH_ready (rs := [6]) (by kernel_rfl) (by simp) ?_
          refine AllReadyH.cons (o := ⟨_, _, _, _, _, _⟩) rfl (fun K hK => ?_) AllReadyH.nil
          · have B4 := Lib.hid (balloc u3 (.cells #[] 9))
            have F4 := Lib.hid (F3.out.below B4.out)
            have K4 := Lib.hid (K3.out.trans (B4.out.mono F3.out.sz))
            have RA4 := Lib.hid (RA3.out.kept (B4.out.block _ RA3.out.lt))
            go_simp
            refine hK.out _ _ (ROWS.out _ F4.out).2.2.2 (fun hHeld => ?_)
            clear hK K
            try simp only [Act.put, List.setIfInBounds_toArray, List.set_cons_zero, List.set_cons_succ]
            generalize hu4 : u3.alloc (.cells #[] 9) = u4 at *
            clear hu4
            refine wpAnyH_ready (rs := [11]) (by kernel_rfl) (by simp) ?_
            refine AllReadyH.cons (o := ⟨_, _, _, _, _, _⟩) rfl (fun K hK => ?_) AllReadyH.nil
            · obtain ⟨tt5, rt5, ht5⟩ := (ROWS.out _ F4.out).2.1
              have HT5 := Lib.hid ht5
              have RT5 := Lib.hid rt5
              clear rt5 ht5
              refine step_append_new9 rfl (.tmp 44) (.tmp 48) 31 rfl 9 i1 (.string ⟨#[]⟩) 16 Try.underlying31 hi1 hz1 hs1 hby1 rfl (some ⟨u3.heap.size, 0, none⟩) (by simp [Act.eval]) b2 6 c2 (gT tt5) (by simp [Act.eval]) RT5.out (fun i hi => rfl) ⟨by omega, by omega⟩ (by omega) ?_
              intro gg5 cc5 u5 hrow hb
              have F5 := Lib.hid (F4.out.below hb)
              have K5 := Lib.hid (K4.out.trans (hb.mono F4.out.sz))
              have RA5 := Lib.hid (RA4.out.kept (hb.block _ RA4.out.lt))
              have RB5 := Lib.hid hrow
              clear hrow hb
              refine hK.out _ _ (ROWS.out _ F5.out).2.2.2 (fun hHeld => ?_)
              clear hK K
              try simp only [Act.put, List.setIfInBounds_toArray, List.set_cons_zero, List.set_cons_succ]
              refine wpAnyH_ready (rs := [17]) (by kernel_rfl) (by simp) ?_
              refine AllReadyH.cons (o := ⟨_, _, _, _, _, _⟩) rfl (fun K hK => ?_) AllReadyH.nil
              · refine step_append_new9 rfl (.tmp 50) (.tmp 54) 32 rfl 4 i3 (.bool false) 1 Try.underlying32 hi3 hz3 hs3 hby3 rfl (some ⟨u0.heap.size, 0, none⟩) (by simp [Act.eval]) b3 6 c3 (gO d.is) (by simp [Act.eval]) (ROWS.out _ F5.out).2.2.1 (fun i hi => rfl) ⟨by omega, by omega⟩ (by omega) ?_
                intro gg6 cc6 u6 hrow hb
                have F6 := Lib.hid (F5.out.below hb)
                have K6 := Lib.hid (K5.out.trans (hb.mono F5.out.sz))
                have RA6 := Lib.hid (RA5.out.kept (hb.block _ RA5.out.lt))
                have RB6 := Lib.hid (RB5.out.kept (hb.block _ RB5.out.lt))
                have RC6 := Lib.hid hrow
                clear hrow hb
                refine hK.out _ _ (ROWS.out _ F6.out).2.2.2 (fun hHeld => ?_)
                clear hK K
                try simp only [Act.put, List.setIfInBounds_toArray, List.set_cons_zero, List.set_cons_succ]
                first | refine tq0 18 rfl ?_ | refine tq1 18 rfl ?_
                try go_frame
                first | refine tq0 19 rfl ?_ | refine tq1 19 rfl ?_
                try go_frame
                first | refine tq0 20 rfl ?_ | refine tq1 20 rfl ?_
                try go_frame
                refine wpAnyH_done (by kernel_rfl) ?_ _
                clear hHeld
                try go_wp2_with fail
                go_meet
                exact ⟨tt5, _, _, _, _, _, _, rfl, rfl, rfl, ⟨F6.out.p, RA6.out, RB6.out, RC6.out, HT5.out⟩, K6.out⟩
        · have B3 := Lib.hid (balloc u2 (.cells #[] 9))
          have F3 := Lib.hid (F2.out.below B3.out)
          have K3 := Lib.hid (K2.out.trans (B3.out.mono F2.out.sz))
          go_simp
          refine hK.out _ _ (ROWS.out _ F3.out).2.2.2 (fun hHeld => ?_)
          clear hK K
          try simp only [Act.put, List.setIfInBounds_toArray, List.set_cons_zero, List.set_cons_succ]
          generalize hu3 : u2.alloc (.cells #[] 9) = u3 at *
          clear hu3
          refine wpAnyH_ready (rs := [5]) (by kernel_rfl) (by simp) ?_
          refine AllReadyH.cons (o := ⟨_, _, _, _, _, _⟩) rfl (fun K hK => ?_) AllReadyH.nil
          · refine step_append_new9 rfl (.tmp 38) (.tmp 42) 31 rfl 9 i1 (.string ⟨#[]⟩) 16 Try.underlying31 hi1 hz1 hs1 hby1 rfl (some ⟨u1.heap.size, 0, none⟩) (by simp [Act.eval]) b1 6 c1 (gT fun i => sec (d.sf i)) (by simp [Act.eval]) (ROWS.out _ F3.out).1 (fun i hi => rfl) ⟨by omega, by omega⟩ (by omega) ?_
            intro gg4 cc4 u4 hrow hb
            have F4 := Lib.hid (F3.out.below hb)
            have K4 := Lib.hid (K3.out.trans (hb.mono F3.out.sz))
            have RA4 := Lib.hid hrow
            clear hrow hb
            refine hK.out _ _ (ROWS.out _ F4.out).2.2.2 (fun hHeld => ?_)
            clear hK K
            try simp only [Act.put, List.setIfInBounds_toArray, List.set_cons_zero, List.set_cons_succ]
            refine wpAnyH_ready (rs := [11]) (by kernel_rfl) (by simp) ?_
            refine AllReadyH.cons (o := ⟨_, _, _, _, _, _⟩) rfl (fun K hK => ?_) AllReadyH.nil
            · obtain ⟨tt5, rt5, ht5⟩ := (ROWS.out _ F4.out).2.1
              have HT5 := Lib.hid ht5
              have RT5 := Lib.hid rt5
              clear rt5 ht5
              refine step_append_new9 rfl (.tmp 44) (.tmp 48) 31 rfl 9 i1 (.string ⟨#[]⟩) 16 Try.underlying31 hi1 hz1 hs1 hby1 rfl (some ⟨u2.heap.size, 0, none⟩) (by simp [Act.eval]) b2 6 c2 (gT tt5) (by simp [Act.eval]) RT5.out (fun i hi => rfl) ⟨by omega, by omega⟩ (by omega) ?_
              intro gg5 cc5 u5 hrow hb
              have F5 := Lib.hid (F4.out.below hb)
              have K5 := Lib.hid (K4.out.trans (hb.mono F4.out.sz))
              have RA5 := Lib.hid (RA4.out.kept (hb.block _ RA4.out.lt))
              have RB5 := Lib.hid hrow
              clear hrow hb
              refine hK.out _ _ (ROWS.out _ F5.out).2.2.2 (fun hHeld => ?_)
              clear hK K
              try simp only [Act.put, List.setIfInBounds_toArray, List.set_cons_zero, List.set_cons_succ]
              refine wpAnyH_ready (rs := [17]) (by kernel_rfl) (by simp) ?_
              refine AllReadyH.cons (o := ⟨_, _, _, _, _, _⟩) rfl (fun K hK => ?_) AllReadyH.nil
              · refine step_append_new9 rfl (.tmp 50) (.tmp 54) 32 rfl 4 i3 (.bool false) 1 Try.underlying32 hi3 hz3 hs3 hby3 rfl (some ⟨u0.heap.size, 0, none⟩) (by simp [Act.eval]) b3 6 c3 (gO d.is) (by simp [Act.eval]) (ROWS.out _ F5.out).2.2.1 (fun i hi => rfl) ⟨by omega, by omega⟩ (by omega) ?_
                intro gg6 cc6 u6 hrow hb
                have F6 := Lib.hid (F5.out.below hb)
                have K6 := Lib.hid (K5.out.trans (hb.mono F5.out.sz))
                have RA6 := Lib.hid (RA5.out.kept (hb.block _ RA5.out.lt))
                have RB6 := Lib.hid (RB5.out.kept (hb.block _ RB5.out.lt))
                have RC6 := Lib.hid hrow
                clear hrow hb
                refine hK.out _ _ (ROWS.out _ F6.out).2.2.2 (fun hHeld => ?_)
                clear hK K
                try simp only [Act.put, List.setIfInBounds_toArray, List.set_cons_zero, List.set_cons_succ]
                first | refine tq0 18 rfl ?_ | refine tq1 18 rfl ?_
                try go_frame
                first | refine tq0 19 rfl ?_ | refine tq1 19 rfl ?_
                try go_frame
                first | refine tq0 20 rfl ?_ | refine tq1 20 rfl ?_
                try go_frame
                refine wpAnyH_done (by kernel_rfl) ?_ _
                clear hHeld
                try go_wp2_with fail
                go_meet
                exact ⟨tt5, _, _, _, _, _, _, rfl, rfl, rfl, ⟨F6.out.p, RA6.out, RB6.out, RC6.out, HT5.out⟩, K6.out⟩
      · have B2 := Lib.hid (balloc u1 (.cells #[] 9))
        have F2 := Lib.hid (F1.out.below B2.out)
        have K2 := Lib.hid (K1.out.trans (B2.out.mono F1.out.sz))
        go_simp
        refine hK.out _ _ (ROWS.out _ F2.out).2.2.2 (fun hHeld => ?_)
        clear hK K
        try simp only [Act.put, List.setIfInBounds_toArray, List.set_cons_zero, List.set_cons_succ]
        generalize hu2 : u1.alloc (.cells #[] 9) = u2 at *
        clear hu2
        refine wpAnyH_ready (rs := [0]) (by kernel_rfl) (by simp) ?_
        refine AllReadyH.cons (o := ⟨_, _, _, _, _, _⟩) rfl (fun K hK => ?_) AllReadyH.nil
        · have B3 := Lib.hid (balloc u2 (.cells #[] 9))
          have F3 := Lib.hid (F2.out.below B3.out)
          have K3 := Lib.hid (K2.out.trans (B3.out.mono F2.out.sz))
          go_simp
          refine hK.out _ _ (ROWS.out _ F3.out).2.2.2 (fun hHeld => ?_)
          clear hK K
          try simp only [Act.put, List.setIfInBounds_toArray, List.set_cons_zero, List.set_cons_succ]
          generalize hu3 : u2.alloc (.cells #[] 9) = u3 at *
          clear hu3
          refine wpAnyH_ready (rs := [5]) (by kernel_rfl) (by simp) ?_
          refine AllReadyH.cons (o := ⟨_, _, _, _, _, _⟩) rfl (fun K hK => ?_) AllReadyH.nil
          · refine step_append_new9 rfl (.tmp 38) (.tmp 42) 31 rfl 9 i1 (.string ⟨#[]⟩) 16 Try.underlying31 hi1 hz1 hs1 hby1 rfl (some ⟨u2.heap.size, 0, none⟩) (by simp [Act.eval]) b1 6 c1 (gT fun i => sec (d.sf i)) (by simp [Act.eval]) (ROWS.out _ F3.out).1 (fun i hi => rfl) ⟨by omega, by omega⟩ (by omega) ?_
            intro gg4 cc4 u4 hrow hb
            have F4 := Lib.hid (F3.out.below hb)
            have K4 := Lib.hid (K3.out.trans (hb.mono F3.out.sz))
            have RA4 := Lib.hid hrow
            clear hrow hb
            refine hK.out _ _ (ROWS.out _ F4.out).2.2.2 (fun hHeld => ?_)
            clear hK K
            try simp only [Act.put, List.setIfInBounds_toArray, List.set_cons_zero, List.set_cons_succ]
            refine wpAnyH_ready (rs := [11]) (by kernel_rfl) (by simp) ?_
            refine AllReadyH.cons (o := ⟨_, _, _, _, _, _⟩) rfl (fun K hK => ?_) AllReadyH.nil
            · obtain ⟨tt5, rt5, ht5⟩ := (ROWS.out _ F4.out).2.1
              have HT5 := Lib.hid ht5
              have RT5 := Lib.hid rt5
              clear rt5 ht5
              refine step_append_new9 rfl (.tmp 44) (.tmp 48) 31 rfl 9 i1 (.string ⟨#[]⟩) 16 Try.underlying31 hi1 hz1 hs1 hby1 rfl (some ⟨u1.heap.size, 0, none⟩) (by simp [Act.eval]) b2 6 c2 (gT tt5) (by simp [Act.eval]) RT5.out (fun i hi => rfl) ⟨by omega, by omega⟩ (by omega) ?_
              intro gg5 cc5 u5 hrow hb
              have F5 := Lib.hid (F4.out.below hb)
              have K5 := Lib.hid (K4.out.trans (hb.mono F4.out.sz))
              have RA5 := Lib.hid (RA4.out.kept (hb.block _ RA4.out.lt))
              have RB5 := Lib.hid hrow
              clear hrow hb
              refine hK.out _ _ (ROWS.out _ F5.out).2.2.2 (fun hHeld => ?_)
              clear hK K
              try simp only [Act.put, List.setIfInBounds_toArray, List.set_cons_zero, List.set_cons_succ]
              refine wpAnyH_ready (rs := [17]) (by kernel_rfl) (by simp) ?_
              refine AllReadyH.cons (o := ⟨_, _, _, _, _, _⟩) rfl (fun K hK => ?_) AllReadyH.nil
              · refine step_append_new9 rfl (.tmp 50) (.tmp 54) 32 rfl 4 i3 (.bool false) 1 Try.underlying32 hi3 hz3 hs3 hby3 rfl (some ⟨u0.heap.size, 0, none⟩) (by simp [Act.eval]) b3 6 c3 (gO d.is) (by simp [Act.eval]) (ROWS.out _ F5.out).2.2.1 (fun i hi => rfl) ⟨by omega, by omega⟩ (by omega) ?_
                intro gg6 cc6 u6 hrow hb
                have F6 := Lib.hid (F5.out.below hb)
                have K6 := Lib.hid (K5.out.trans (hb.mono F5.out.sz))
                have RA6 := Lib.hid (RA5.out.kept (hb.block _ RA5.out.lt))
                have RB6 := Lib.hid (RB5.out.kept (hb.block _ RB5.out.lt))
                have RC6 := Lib.hid hrow
                clear hrow hb
                refine hK.out _ _ (ROWS.out _ F6.out).2.2.2 (fun hHeld => ?_)
                clear hK K
                try simp only [Act.put, List.setIfInBounds_toArray, List.set_cons_zero, List.set_cons_succ]
                first | refine tq0 18 rfl ?_ | refine tq1 18 rfl ?_
                try go_frame
                first | refine tq0 19 rfl ?_ | refine tq1 19 rfl ?_
                try go_frame
                first | refine tq0 20 rfl ?_ | refine tq1 20 rfl ?_
                try go_frame
                refine wpAnyH_done (by kernel_rfl) ?_ _
                clear hHeld
                try go_wp2_with fail
                go_meet
                exact ⟨tt5, _, _, _, _, _, _, rfl, rfl, rfl, ⟨F6.out.p, RA6.out, RB6.out, RC6.out, HT5.out⟩, K6.out⟩
  case rest =>
  obtain ⟨tt, g1, d1, g2, d2, g3, d3, rfl, rfl, rfl, hsafe, kw⟩ := hcut
  have HN6 : d.n = 6 := HN.out
  have SA := Lib.hid hsafe
  have KW := Lib.hid kw
  have SB0 : Hid (SafeB base P bS bm cS d d tt g1 d1 g2 d2 g3 d3 wc) := Lib.hid ⟨hsafe.p, hsafe.r1, hsafe.r2, hsafe.r3⟩
  have HT := Lib.hid hsafe.t
  have OKD : Hid (OkD d) := Lib.hid HB3.out.ok
  have SZ := Lib.hid (show base ≤ wc.heap.size from by have := kw.size; have := HBS.out; omega)
  have Y1c := Lib.hid ((kw.block _ CL.out.1).trans Y1.out)
  have X2c := Lib.hid ((kw.block _ CL.out.2).trans X2.out)
  have CR := Lib.hid (((HC.out.below BB.out).mono (show W.heap.size ≤ base by rw [HBS.out]; exact BB.out.size)).below kw)
  have CR2 := Lib.hid (((HC2.out.below BB.out).mono (show W.heap.size ≤ base by rw [HBS.out]; exact BB.out.size)).below kw)
  have GC := Lib.hid (pcrash_any hsafe.p (by omega) SZ.out CR.out)
  have x0 : wc.cell? ⟨W.heap.size, 0, none⟩ = some v := by rw [Lib.cell_of_heap Y1c.out]; rfl
  have x1 : wc.cell? ⟨W.heap.size, 1, none⟩ = some (.int .i64 t) := by rw [Lib.cell_of_heap Y1c.out]; rfl
  have x2 : wc.cell? ⟨W.heap.size, 2, none⟩ = some (.int .i64 b) := by rw [Lib.cell_of_heap Y1c.out]; rfl
  clear hsafe kw HB3 K3 HTT
  go_wp2_with fail
  refine (GC.out).mono ?_
  rintro e w5 ⟨rfl, ⟨bm5, hlt5, p5⟩, k5⟩
  have SB5 := Lib.hid (SB0.out.crash k5 p5)
  have KK5 := Lib.hid (SB0.out.p.bot k5 SZ.out)
  have K5 := Lib.hid (KW.out.trans KK5.out)
  have SZ5 := Lib.hid (Nat.le_trans SZ.out k5.size)
  have CR5 := Lib.hid (CR2.out.below KK5.out)
  have X25 := Lib.hid ((KK5.out.block _ CL.out.2).trans X2c.out)
  clear hlt5 p5 k5 GC x0 x1 x2 SB0 SA KW Y1c X2c CR CR2 KK5 Y1 X2 SZ
  obtain ⟨D, hD⟩ : ∃ D, D = crashD d keep t b := ⟨_, rfl⟩
  rw [← hD] at SB5
  have DD : Hid (D.n = 6 ∧ D.down = false ∧ (∀ i, D.is i = false) ∧ ∀ i, nowD D i = crashF d keep t b i) := Lib.hid (by subst hD; exact ⟨HN.out, rfl, fun _ => rfl, fun _ => rfl⟩)
  have HDD := Lib.hid hD
  clear hD
  go_wp2_with fail
  go_loopw [13, 14] (fun cv iv wr => ∃ j : Nat, j ≤ 6 ∧ iv = .int .i64 j ∧ cv = .int .i64 (tornN (tornP d keep t b) j : Int) ∧ SafeB base P bS bm5 cS D d tt g1 d1 g2 d2 g3 d3 wr ∧ Below base w5 wr) (fun _ iv _ => 6 - (intOf iv).toNat)
  case atStart => exact ⟨0, by omega, rfl, rfl, SB5.out, Below.refl _ _⟩
  case round =>
    obtain ⟨j, hj, rfl, rfl, hb, hk⟩ := hrel
    have SJ := Lib.hid hb
    have KJ := Lib.hid hk
    have hj0 : (0 : Int) ≤ (j : Int) := by omega
    have htj := torn_one d keep t b j
    by_cases h6 : j < 6
    · have e1 : decide ((j : Int) < 6) = true := by simp; omega
      have hj6 : (j : Int) < 6 := by omega
      have GR := Lib.hid (pread_any hb.p (by rw [DD.out.1]; omega) (j : Int))
      have er : readE D (j : Int) = 0 := by unfold readE; rw [if_neg (by rw [DD.out.2.1]; decide), if_neg (by rw [DD.out.1]; omega)]
      have es : readS D (j : Int) = sec (crashF d keep t b j) := by unfold readS; rw [if_neg (by rw [DD.out.2.1]; decide), if_neg (by rw [DD.out.1]; omega), Int.toNat_natCast, DD.out.2.2.2]
      rw [er, es] at GR
      clear er es
      have q1 : wr.cell? ⟨g1, j, none⟩ = some (.string (sec (d.sf j))) := hb.r1.cell1 h6
      have q2 : wr.cell? ⟨g2, j, none⟩ = some (.string (tt j)) := hb.r2.cell1 h6
      have q3 : wr.cell? ⟨g3, j, none⟩ = some (.bool (d.is j)) := hb.r3.cell1 h6
      have z1 := sec_size (crashF d keep t b j)
      have z2 := sec_size (d.sf j)
      have H6 := Lib.hid h6
      clear hb hk h6
      cases hs : d.is j with
      | false =>
        rw [hs] at q3
        have ec : sec (crashF d keep t b j) = sec (d.sf j) := by rw [crash_safe hs]
        have EN : Hid (tornN (tornP d keep t b) (j + 1) = tornN (tornP d keep t b) j) := Lib.hid (by simp [tornN, tornP, hs])
        rw [ec] at GR z1
        generalize sec (d.sf j) = sS at *
        generalize tornN (tornP d keep t b) j = tc at *
        clear ec
        go_wp2_with fail
        refine (GR.out).mono ?_
        rintro e w6 ⟨rfl, hw6⟩
        rw [hw6]
        clear hw6
        go_wp2_with fail
        go_roundw
        case rel => exact ⟨j + 1, by have := H6.out; omega, by go_num, by rw [EN.out], SJ.out, KJ.out⟩
        case measure => have := H6.out; simp [intOf]; omega
      | true =>
        rw [hs] at q3
        have ht := HT.out j H6.out hs
        rw [ht] at q2
        have z3 := sec_size (d.nw j)
        obtain ⟨sC, hsC⟩ : ∃ s, s = sec (crashF d keep t b j) := ⟨_, rfl⟩
        obtain ⟨sS, hsS⟩ : ∃ s, s = sec (d.sf j) := ⟨_, rfl⟩
        obtain ⟨sN, hsN⟩ : ∃ s, s = sec (d.nw j) := ⟨_, rfl⟩
        rw [← hsC] at GR z1
        rw [← hsS] at q1 z2
        rw [← hsN] at q2 z3
        by_cases hcs : sC = sS
        · have EN : Hid (tornN (tornP d keep t b) (j + 1) = tornN (tornP d keep t b) j) := Lib.hid (by
            have : tornP d keep t b j = false := by
              unfold tornP
              rw [← hsC, ← hsS, hcs]
              simp
            simp [tornN, this])
          subst hcs
          generalize tornN (tornP d keep t b) j = tc at *
          clear hsC hsS hsN ht
          go_wp2_with fail
          refine (GR.out).mono ?_
          rintro e w6 ⟨rfl, hw6⟩
          rw [hw6]
          clear hw6
          go_wp2_with fail
          go_roundw
          case rel => exact ⟨j + 1, by have := H6.out; omega, by go_num, by rw [EN.out], SJ.out, KJ.out⟩
          case measure => have := H6.out; simp [intOf]; omega
        · by_cases hcn : sC = sN
          · have EN : Hid (tornN (tornP d keep t b) (j + 1) = tornN (tornP d keep t b) j) := Lib.hid (by
              have : tornP d keep t b j = false := by
                unfold tornP
                rw [← hsC, ← hsN, hcn]
                simp
              simp [tornN, this])
            subst hcn
            have n1 := toList_ne9 hcs
            generalize tornN (tornP d keep t b) j = tc at *
            clear hsC hsS hsN ht
            go_wp2_with fail
            refine (GR.out).mono ?_
            rintro e w6 ⟨rfl, hw6⟩
            rw [hw6]
            clear hw6
            go_wp2_with fail
            go_roundw
            case rel => exact ⟨j + 1, by have := H6.out; omega, by go_num, by rw [EN.out], SJ.out, KJ.out⟩
            case measure => have := H6.out; simp [intOf]; omega
          · have n1 := toList_ne9 hcs
            have n2 := toList_ne9 hcn
            have n3 : (sC.toList == sS.toList) = false := by rw [beq_eq_false_iff_ne]; exact n1
            have n4 : (sC.toList == sN.toList) = false := by rw [beq_eq_false_iff_ne]; exact n2
            have EN : Hid (tornN (tornP d keep t b) (j + 1) = tornN (tornP d keep t b) j + 1) := Lib.hid (by
              have : tornP d keep t b j = true := by
                unfold tornP
                rw [← hsC, ← hsN, ← hsS, hs]
                simp [hcs, hcn]
              simp [tornN, this])
            obtain ⟨kk, hkk, hcf⟩ := crash_some (d := d) (keep := keep) (t := t) (b := b) hs
            have TAIL : Hid (∀ m, m < 64 → byD sC m ≠ byD sN m → sC.extract m 64 = sS.extract m 64) := Lib.hid fun m hm hne => by
              rw [hsC, hsS, hcf]
              refine torn_tail (OKD.out.nw j) (OKD.out.sf j) hm ?_
              rw [hsC, hsN, hcf, byD_sec (torn_sec (OKD.out.nw j) (OKD.out.sf j)) hm, byD_sec (OKD.out.nw j) hm] at hne
              exact hne
            have T64 : Hid (sC.extract 64 64 = sS.extract 64 64) := Lib.hid (byD_ext (by rw [ByteArray.size_extract, ByteArray.size_extract]; omega) (fun q hq => by rw [ByteArray.size_extract] at hq; omega))
            have HTJ := Lib.hid ht
            have HSN := Lib.hid hsN
            have HSS := Lib.hid hsS
            have CELLS : Hid (∀ w, SafeB base P bS bm5 cS D d tt g1 d1 g2 d2 g3 d3 w → w.cell? ⟨g1, j, none⟩ = some (.string sS) ∧ w.cell? ⟨g2, j, none⟩ = some (.string sN)) := Lib.hid fun w h => by
              have a1 : w.cell? ⟨g1, j, none⟩ = some (.string (sec (d.sf j))) := h.r1.cell1 H6.out
              have a2 : w.cell? ⟨g2, j, none⟩ = some (.string (tt j)) := h.r2.cell1 H6.out
              rw [HTJ.out, ← HSN.out] at a2
              rw [← HSS.out] at a1
              exact ⟨a1, a2⟩
            have htc : tornN (tornP d keep t b) j ≤ 1 := htj
            generalize tornN (tornP d keep t b) j = tc at *
            clear hsC hsS hsN ht hcf
            go_wp2_with fail
            refine (GR.out).mono ?_
            rintro e w6 ⟨rfl, hw6⟩
            rw [hw6]
            clear hw6
            go_wp2_with fail
            clear n1 n2 n3 n4 q1 q2 q3 GR
            obtain ⟨wo, hwo⟩ : ∃ wo, wo = wr := ⟨_, rfl⟩
            rw [← hwo] at SJ KJ ⊢
            clear hwo
            go_loopw [17] (fun kv wr => ∃ m : Nat, m ≤ 64 ∧ kv = .int .i64 m ∧ SafeB base P bS bm5 cS D d tt g1 d1 g2 d2 g3 d3 wr ∧ Below base w5 wr) (fun kv _ => 64 - (intOf kv).toNat)
            case atStart => exact ⟨0, by omega, rfl, SJ.out, KJ.out⟩
            case round =>
              obtain ⟨m, hm, rfl, hb, hk⟩ := hrel
              have SM := Lib.hid hb
              have KM := Lib.hid hk
              have hm0 : (0 : Int) ≤ (m : Int) := by omega
              have SZM := Lib.hid (Nat.le_trans SZ5.out hk.size)
              clear hb hk SJ KJ
              by_cases hm64 : m < 64
              · have e4 : decide ((m : Int) < 64) = true := by simp; omega
                have hm1 : m < sC.size := by omega
                have hm2 : m < sN.size := by omega
                have hm3 : (m : Int) < 64 := by omega
                have hm4 : (m : Int) ≤ 64 := by omega
                by_cases heq : byD sC m = byD sN m
                · have e5 : ((sC[m].toNat : Int) == (sN[m].toNat : Int)) = true := by
                    rw [byD_get9 sC hm1, byD_get9 sN hm2] at heq
                    rw [beq_iff_eq]; exact heq
                  have HM := Lib.hid hm64
                  go_upto_region 16 with fail
                  refine wp_region_held_drew (S := (fun w' => w'.cell? ⟨g2, j, none⟩ = some (.string sN))) (by kernel_rfl) ?_ (fun hHeld => ?_)
                  · exact (CELLS.out _ (SM.out.below (bdrew wr))).2
                  have S9 := Lib.hid (SM.out.below (bdrew wr))
                  have K9 := Lib.hid (KM.out.trans ((bdrew wr).mono SZM.out))
                  change wpAnyH _ _ _ _ _ _ _ _ (World.drew wr)
                  generalize World.drew wr = w9 at *
                  first | refine tq0 0 rfl ?_ | refine tq1 0 rfl ?_
                  try go_frame
                  first | refine tq0 1 rfl ?_ | refine tq1 1 rfl ?_
                  try go_frame
                  first | refine tq0 2 rfl ?_ | refine tq1 2 rfl ?_
                  try go_frame
                  first | refine tq0 3 rfl ?_ | refine tq1 3 rfl ?_
                  try go_frame
                  first | refine tq0 4 rfl ?_ | refine tq1 4 rfl ?_
                  try go_frame
                  first | refine tq0 5 rfl ?_ | refine tq1 5 rfl ?_
                  try go_frame
                  first | refine tq0 6 rfl ?_ | refine tq1 6 rfl ?_
                  try go_frame
                  first | refine tq0 7 rfl ?_ | refine tq1 7 rfl ?_
                  try go_frame
                  first | refine tq0 8 rfl ?_ | refine tq1 8 rfl ?_
                  try go_frame
                  first | refine tq0 9 rfl ?_ | refine tq1 9 rfl ?_
                  try go_frame
                  first | refine tq0 10 rfl ?_ | refine tq1 10 rfl ?_
                  try go_frame
                  first | refine tq0 11 rfl ?_ | refine tq1 11 rfl ?_
                  try go_frame
                  first | refine tq0 12 rfl ?_ | refine tq1 12 rfl ?_
                  try go_frame
                  first | refine tq0 13 rfl ?_ | refine tq1 13 rfl ?_
                  try go_frame
                  refine wpAnyH_done (by kernel_rfl) ?_ _
                  clear hHeld e5
                  go_wp2_with fail
                  go_roundw
                  case rel => exact ⟨m + 1, HM.out, by go_num, S9.out, K9.out⟩
                  case measure => have := HM.out; simp [intOf]; omega
                · have e5 : ((sC[m].toNat : Int) == (sN[m].toNat : Int)) = false := by
                    rw [byD_get9 sC hm1, byD_get9 sN hm2] at heq
                    rw [beq_eq_false_iff_ne]; exact heq
                  have et := TAIL.out m hm64 heq
                  go_upto_region 16 with fail
                  refine wp_region_held_drew (S := (fun w' => w'.cell? ⟨g2, j, none⟩ = some (.string sN))) (by kernel_rfl) ?_ (fun hHeld => ?_)
                  · exact (CELLS.out _ (SM.out.below (bdrew wr))).2
                  have S9 := Lib.hid (SM.out.below (bdrew wr))
                  have K9 := Lib.hid (KM.out.trans ((bdrew wr).mono SZM.out))
                  change wpAnyH _ _ _ _ _ _ _ _ (World.drew wr)
                  generalize World.drew wr = w9 at *
                  first | refine tq0 0 rfl ?_ | refine tq1 0 rfl ?_
                  try go_frame
                  first | refine tq0 1 rfl ?_ | refine tq1 1 rfl ?_
                  try go_frame
                  first | refine tq0 2 rfl ?_ | refine tq1 2 rfl ?_
                  try go_frame
                  first | refine tq0 3 rfl ?_ | refine tq1 3 rfl ?_
                  try go_frame
                  first | refine tq0 4 rfl ?_ | refine tq1 4 rfl ?_
                  try go_frame
                  first | refine tq0 5 rfl ?_ | refine tq1 5 rfl ?_
                  try go_frame
                  first | refine tq0 6 rfl ?_ | refine tq1 6 rfl ?_
                  try go_frame
                  first | refine tq0 7 rfl ?_ | refine tq1 7 rfl ?_
                  try go_frame
                  first | refine tq0 8 rfl ?_ | refine tq1 8 rfl ?_
                  try go_frame
                  first | refine tq0 9 rfl ?_ | refine tq1 9 rfl ?_
                  try go_frame
                  first | refine tq0 10 rfl ?_ | refine tq1 10 rfl ?_
                  try go_frame
                  first | refine tq0 11 rfl ?_ | refine tq1 11 rfl ?_
                  try go_frame
                  first | refine tq0 12 rfl ?_ | refine tq1 12 rfl ?_
                  try go_frame
                  first | refine tq0 13 rfl ?_ | refine tq1 13 rfl ?_
                  try go_frame
                  refine wpAnyH_done (by kernel_rfl) ?_ _
                  clear hHeld e5 heq
                  have SZ9 := Lib.hid (Nat.le_trans SZ5.out K9.out.size)
                  go_upto_region 18 with fail
                  refine wp_region_held_drew (S := (fun w' => w'.cell? ⟨g1, j, none⟩ = some (.string sS))) (by kernel_rfl) ?_ (fun hHeld => ?_)
                  · exact (CELLS.out _ (S9.out.below (bdrew w9))).1
                  have S10 := Lib.hid (S9.out.below (bdrew w9))
                  have K10 := Lib.hid (K9.out.trans ((bdrew w9).mono SZ9.out))
                  change wpAnyH _ _ _ _ _ _ _ _ (World.drew w9)
                  generalize World.drew w9 = w10 at *
                  first | refine tq0 0 rfl ?_ | refine tq1 0 rfl ?_
                  try go_frame
                  first | refine tq0 1 rfl ?_ | refine tq1 1 rfl ?_
                  try go_frame
                  first | refine tq0 2 rfl ?_ | refine tq1 2 rfl ?_
                  try go_frame
                  first | refine tq0 3 rfl ?_ | refine tq1 3 rfl ?_
                  try go_frame
                  first | refine tq0 4 rfl ?_ | refine tq1 4 rfl ?_
                  try go_frame
                  first | refine tq0 5 rfl ?_ | refine tq1 5 rfl ?_
                  try go_frame
                  first | refine tq0 6 rfl ?_ | refine tq1 6 rfl ?_
                  try go_frame
                  first | refine tq0 7 rfl ?_ | refine tq1 7 rfl ?_
                  try go_frame
                  first | refine tq0 8 rfl ?_ | refine tq1 8 rfl ?_
                  try go_frame
                  first | refine tq0 9 rfl ?_ | refine tq1 9 rfl ?_
                  try go_frame
                  refine wpAnyH_done (by kernel_rfl) ?_ _
                  clear hHeld
                  go_wp2_with fail
                  go_roundw
                  case rel => exact ⟨j + 1, by have := H6.out; omega, by go_num, by rw [EN.out]; go_num, S10.out, K10.out⟩
                  case measure => have := H6.out; simp [intOf]; omega
              · obtain rfl : m = 64 := by omega
                have e4 : decide (((64 : Nat) : Int) < 64) = false := by decide
                have et := T64.out
                go_upto_region 16 with fail
                refine wp_region_held_drew (S := (fun w' => w'.cell? ⟨g2, j, none⟩ = some (.string sN))) (by kernel_rfl) ?_ (fun hHeld => ?_)
                · exact (CELLS.out _ (SM.out.below (bdrew wr))).2
                have S9 := Lib.hid (SM.out.below (bdrew wr))
                have K9 := Lib.hid (KM.out.trans ((bdrew wr).mono SZM.out))
                change wpAnyH _ _ _ _ _ _ _ _ (World.drew wr)
                generalize World.drew wr = w9 at *
                first | refine tq0 0 rfl ?_ | refine tq1 0 rfl ?_
                try go_frame
                first | refine tq0 1 rfl ?_ | refine tq1 1 rfl ?_
                try go_frame
                first | refine tq0 2 rfl ?_ | refine tq1 2 rfl ?_
                try go_frame
                first | refine tq0 3 rfl ?_ | refine tq1 3 rfl ?_
                try go_frame
                first | refine tq0 4 rfl ?_ | refine tq1 4 rfl ?_
                try go_frame
                first | refine tq0 5 rfl ?_ | refine tq1 5 rfl ?_
                try go_frame
                first | refine tq0 6 rfl ?_ | refine tq1 6 rfl ?_
                try go_frame
                first | refine tq0 7 rfl ?_ | refine tq1 7 rfl ?_
                try go_frame
                first | refine tq0 8 rfl ?_ | refine tq1 8 rfl ?_
                try go_frame
                first | refine tq0 9 rfl ?_ | refine tq1 9 rfl ?_
                try go_frame
                first | refine tq0 10 rfl ?_ | refine tq1 10 rfl ?_
                try go_frame
                first | refine tq0 11 rfl ?_ | refine tq1 11 rfl ?_
                try go_frame
                first | refine tq0 12 rfl ?_ | refine tq1 12 rfl ?_
                try go_frame
                first | refine tq0 13 rfl ?_ | refine tq1 13 rfl ?_
                try go_frame
                refine wpAnyH_done (by kernel_rfl) ?_ _
                clear hHeld
                have SZ9 := Lib.hid (Nat.le_trans SZ5.out K9.out.size)
                go_upto_region 18 with fail
                refine wp_region_held_drew (S := (fun w' => w'.cell? ⟨g1, j, none⟩ = some (.string sS))) (by kernel_rfl) ?_ (fun hHeld => ?_)
                · exact (CELLS.out _ (S9.out.below (bdrew w9))).1
                have S10 := Lib.hid (S9.out.below (bdrew w9))
                have K10 := Lib.hid (K9.out.trans ((bdrew w9).mono SZ9.out))
                change wpAnyH _ _ _ _ _ _ _ _ (World.drew w9)
                generalize World.drew w9 = w10 at *
                first | refine tq0 0 rfl ?_ | refine tq1 0 rfl ?_
                try go_frame
                first | refine tq0 1 rfl ?_ | refine tq1 1 rfl ?_
                try go_frame
                first | refine tq0 2 rfl ?_ | refine tq1 2 rfl ?_
                try go_frame
                first | refine tq0 3 rfl ?_ | refine tq1 3 rfl ?_
                try go_frame
                first | refine tq0 4 rfl ?_ | refine tq1 4 rfl ?_
                try go_frame
                first | refine tq0 5 rfl ?_ | refine tq1 5 rfl ?_
                try go_frame
                first | refine tq0 6 rfl ?_ | refine tq1 6 rfl ?_
                try go_frame
                first | refine tq0 7 rfl ?_ | refine tq1 7 rfl ?_
                try go_frame
                first | refine tq0 8 rfl ?_ | refine tq1 8 rfl ?_
                try go_frame
                first | refine tq0 9 rfl ?_ | refine tq1 9 rfl ?_
                try go_frame
                refine wpAnyH_done (by kernel_rfl) ?_ _
                clear hHeld
                go_wp2_with fail
                go_roundw
                case rel => exact ⟨j + 1, by have := H6.out; omega, by go_num, by rw [EN.out]; go_num, S10.out, K10.out⟩
                case measure => have := H6.out; simp [intOf]; omega
    · obtain rfl : j = 6 := by omega
      have e1 : decide (((6 : Nat) : Int) < 6) = false := by decide
      have S0 : Hid (readS D 2 = sec (crashF d keep t b 2) ∧ readE D 2 = 0) := Lib.hid (by
        constructor
        · unfold readS
          rw [if_neg (by rw [DD.out.2.1]; decide), if_neg (by rw [DD.out.1]; decide)]
          show sec (nowD D 2) = _
          rw [DD.out.2.2.2]
        · unfold readE
          rw [if_neg (by rw [DD.out.2.1]; decide), if_neg (by rw [DD.out.1]; decide)])
      have GR := Lib.hid (pread_any hb.p (by rw [DD.out.1]; omega) 2)
      rw [S0.out.1, S0.out.2] at GR
      have SZJ := Lib.hid (Nat.le_trans SZ5.out hk.size)
      have x0 : wr.cell? ⟨W.heap.size + 1, 0, none⟩ = some v2 := by rw [Lib.cell_of_heap ((hk.block _ CL.out.2).trans X25.out)]; rfl
      have x1 : wr.cell? ⟨W.heap.size + 1, 1, none⟩ = some (.int .i64 t2) := by rw [Lib.cell_of_heap ((hk.block _ CL.out.2).trans X25.out)]; rfl
      have x2 : wr.cell? ⟨W.heap.size + 1, 2, none⟩ = some (.int .i64 b2x) := by rw [Lib.cell_of_heap ((hk.block _ CL.out.2).trans X25.out)]; rfl
      have GC := Lib.hid (pcrash_any hb.p (by rw [DD.out.1]; omega) SZJ.out (CR5.out.below hk))
      have PJ := Lib.hid hb.p
      generalize sec (crashF d keep t b 2) = s2 at *
      have tc1 : tornN (tornP d keep t b) 6 ≤ 1 := htj
      generalize tornN (tornP d keep t b) 6 = tc at *
      have htc2 : decide ((tc : Int) ≤ 1) = true := by simp; omega
      clear hb hk htj
      go_wp2_with fail
      refine (GR.out).mono ?_
      rintro e w6 ⟨rfl, hw6⟩
      rw [hw6]
      clear hw6
      go_wp2_with fail
      refine (GC.out).mono ?_
      rintro e w7 ⟨rfl, ⟨bm7, hlt7, p7⟩, k7⟩
      have P7 := Lib.hid p7
      have K7 := Lib.hid (PJ.out.bot k7 SZJ.out)
      have D7 : Hid (readS (crashD D keep2 t2 b2x) 2 = s2 ∧ readE (crashD D keep2 t2 b2x) 2 = 0) := Lib.hid (by
        have hn : (crashD D keep2 t2 b2x).n = 6 := DD.out.1
        have hd : (crashD D keep2 t2 b2x).down = false := rfl
        constructor
        · rw [← S0.out.1]
          unfold readS
          rw [if_neg (by rw [hd]; decide), if_neg (by rw [hn]; decide), if_neg (by rw [DD.out.2.1]; decide), if_neg (by rw [DD.out.1]; decide)]
          show sec (crashF D keep2 t2 b2x 2) = sec (nowD D 2)
          rw [crash_safe (DD.out.2.2.1 2)]
          unfold nowD
          rw [DD.out.2.2.1 2]
          rfl
        · unfold readE
          rw [if_neg (by rw [hd]; decide), if_neg (by rw [hn]; decide)])
      have GR7 := Lib.hid (pread_any p7 (by show D.n ≤ 4096; rw [DD.out.1]; omega) 2)
      rw [D7.out.1, D7.out.2] at GR7
      have G8 := Lib.hid (ploose_any P7.out)
      rw [looseN_none (is := (crashD D keep2 t2 b2x).is) (fun _ => rfl)] at G8
      have G9 := Lib.hid (pdown_any P7.out)
      change Hid (Calls _ _ _ _ fun r u' => r = .returned (.bool false) ∧ u' = w7) at G9
      clear p7 k7 hlt7 x0 x1 x2 GR GC
      go_wp2_with fail
      refine (GR7.out).mono ?_
      rintro e w8 ⟨rfl, hw8⟩
      rw [hw8]
      clear hw8
      go_wp2_with fail
      refine (G8.out).mono ?_
      rintro e w9 ⟨rfl, hw9⟩
      rw [hw9]
      clear hw9
      go_wp2_with fail
      refine (G9.out).mono ?_
      rintro e w10 ⟨rfl, hw10⟩
      rw [hw10]
      clear hw10
      go_wp2_with fail
      go_ret
      exact ⟨rfl, BB.out.trans (((K5.out.trans (KJ.out.trans K7.out)).mono (by rw [HBS.out]; exact BB.out.size)))⟩

end Go.Proofs.Ytbohcfflkcaijaa
