/- The contract of the document's put. -/
import Derived.Test.YthkfaeplmmlnlaaGreatRZ12
import Derived.Test.YthkfaeplmmlnlaaGreatRZ0
import Derived.Test.YthkfaeplmmlnlaaGreatRZ3
namespace Go.Proofs.YthkfaeplmmlnlaaGreat
open Go.RowKit Go.Deep
set_option linter.unusedVariables false
set_option maxRecDepth 100000

def dropA (a : Option Addr) (c p C : Nat) : Option Addr := if c = p then a else a.map fun q => q.add (p * C)
def Fm (a : Option Addr) (n c : Nat) : Prop := (a = none ∧ n = 0 ∧ c = 0) ∨ ∃ b o, a = some ⟨b, o, none⟩
theorem alloc_ne (w : World) (o : Obj) : (w.alloc o).heap.size ≠ w.heap.size := by
  have := lt_of_block (heap_alloc_new w o)
  omega
theorem own_past {w w2 : World} {b C n : Nat} {E : TypeId} {v : Value} {xs : List Value} {row : Option Nat} (h : w.ownsRow b E C v n xs) (hg : w.grownBy w2 row) (hne : ∀ g, v.ownBlock = some g → some g ≠ row) : w2.ownsRow b E C v n xs :=
  own_kept h fun g e => hg.block g (own_lt h e).2 (hne g e)
theorem slice_h2 {P : Program} {t : TypeId} {e : TypeId} {i : TypeInfo} (ht : P.underlying t = some (.slice e)) (hi : P.info? e = some i) {a : Option Addr} {n c p : Nat} (hf : Fm a n c) (hp : p ≤ n) (hn : n ≤ c) (w : World) :
    (Instr.slice t (.slice a n c) none (some (.int .i64 (p : Int))) none).run P w = .ok (.slice a p c) w := by
  rcases hf with ⟨rfl, rfl, rfl⟩ | ⟨b, o, rfl⟩
  · obtain rfl : p = 0 := by omega
    simp [Instr.slice, run_underlying ht, Instr.sliceBounds, run_sliceBound, sizeOf, typeInfo, hi]
  · exact slice_h_run ht hi b o n c p (by omega) w
theorem slice_l2 {P : Program} {t : TypeId} {e : TypeId} {i : TypeInfo} (ht : P.underlying t = some (.slice e)) (hi : P.info? e = some i) {a : Option Addr} {n c p : Nat} (hf : Fm a n c) (hp : p ≤ n) (w : World) :
    (Instr.slice t (.slice a n c) (some (.int .i64 (p : Int))) none none).run P w = .ok (.slice (dropA a c p i.size) (n - p) (c - p)) w := by
  rcases hf with ⟨rfl, rfl, rfl⟩ | ⟨b, o, rfl⟩
  · obtain rfl : p = 0 := by omega
    simp [Instr.slice, run_underlying ht, Instr.sliceBounds, run_sliceBound, sizeOf, typeInfo, hi, dropA]
  · rw [slice_l_run ht hi b o n c p hp w]
    unfold dropA
    split <;> simp [add_plain]
theorem sl_take2 {C : Nat} {g : Nat → Nat → Value} {n c p : Nat} {a : Option Addr} {w : World} (h : Sl C g n (.slice a n c) w) (hf : Fm a n c) (hp : p ≤ n) : Sl C g p (.slice a p c) w := by
  rcases hf with ⟨rfl, rfl, rfl⟩ | ⟨b, o, rfl⟩
  · obtain rfl : p = 0 := by omega
    exact h
  · exact sl_take h hp
theorem sl_drop2 {C : Nat} {g : Nat → Nat → Value} {n c p : Nat} {a : Option Addr} {w : World} (h : Sl C g n (.slice a n c) w) (hf : Fm a n c) (hp : p ≤ n) : Sl C (fun i => g (i + p)) (n - p) (.slice (dropA a c p C) (n - p) (c - p)) w := by
  rcases hf with ⟨rfl, rfl, rfl⟩ | ⟨b, o, rfl⟩
  · obtain rfl : p = 0 := by omega
    exact h
  · have := sl_drop h hp
    unfold dropA
    split
    · rename_i e
      rwa [if_pos e] at this
    · rename_i e
      rw [if_neg e] at this
      simpa [add_plain] using this
theorem cells_ins2 {e : Evn} {W : List Evn} {p : Nat} (hp : p = plcE e W) : (rowCells 5 (gV8 (evF W)) p ++ rowCells 5 (gV8 fun _ => e) 1) ++ rowCells 5 (fun i => gV8 (evF W) (i + p)) (W.length - p) = rowCells 5 (gV8 (evF (insE e W))) (W.length + 1) := by
  subst hp
  exact cells_ins e W
theorem rput_fin {S : Nat → Bool} {P : Nat} {m : Mdl} {vd vp vl vi : Value} {x : Sm} {nd : Nat} {D : Nat → Dn} {vS vW vD : Value} {e : Evn} {w : World} {b c : Nat} {a : Option Addr} (h : RSim S P m vd vp vl vi x nd D vS vW vD w)
    (ho : w.ownsRow b 41 5 (.slice a (x.W.length + 1) c) (x.W.length + 1) (rowCells 5 (gV8 (evF (insE e x.W))) (x.W.length + 1))) (hb : ∀ k, S k = true → k < b) :
    RSim S P m vd vp vl vi ⟨x.S, insE e x.W⟩ nd D vS (.slice a (x.W.length + 1) c) vD (w.setCell ⟨P, 7, none⟩ (.slice a (x.W.length + 1) c)) := by
  refine h.put 7 _ rfl h.st ?_ h.dn ?_
  · show Sl 5 (gV8 (evF (insE e x.W))) (insE e x.W).length _ _
    rw [insE_length]
    exact own_sl (own_new hb ho (Nat.le_refl _))
  · show _ ∨ _
    rcases ho.2 with ⟨_, h0⟩ | ⟨g, cap, cur, e9, _⟩
    · omega
    · simp only [Value.slice.injEq, true_and] at e9
      obtain ⟨rfl, rfl⟩ := e9
      exact .inr ⟨g, 0, c, by rw [insE_length]⟩

set_option maxHeartbeats 12800000 in
theorem rput_any (S : Nat → Bool) (P : Nat) (m : Mdl) (vd vp vl vi : Value) (x : Sm) (nd : Nat) (D : Nat → Dn) (vS vW vD : Value) (e : Evn) (u : World) (hx : RSim S P m vd vp vl vi x nd D vS vW vD u) (hlen : x.W.length ≤ 1000) :
    Calls Tryz.prog 29 #[.pointer (some ⟨P, 0, none⟩), eval8 e] u fun r u' => r = .returned (.tuple #[]) ∧ (∃ vW', RSim S P m vd vp vl vi ⟨x.S, insE e x.W⟩ nd D vS vW' vD u') ∧ Kp P u u' := by
  obtain ⟨i0, hi0, hz0, hz1, hz2⟩ := info_parts info_event8
  obtain ⟨aW, c, rfl, hnc, hc63, hfm⟩ : ∃ aW c, vW = .slice aW x.W.length c ∧ x.W.length ≤ c ∧ c ≤ 9223372036854775807 ∧ Fm aW x.W.length c := by
    obtain ⟨a9, c9, e9, h1, h2, _⟩ := hx.wt
    refine ⟨a9, c9, e9, h1, by omega, ?_⟩
    rcases hx.wf with ⟨h3, h4⟩ | ⟨b, o, c, h3⟩
    · rw [h3] at e9
      simp only [Value.slice.injEq] at e9
      exact .inl ⟨e9.1.symm, e9.2.1.symm, e9.2.2.symm⟩
    · rw [h3] at e9
      simp only [Value.slice.injEq] at e9
      exact .inr ⟨b, o, e9.1.symm⟩
  have HS : Hid (∀ (p : Nat), p ≤ x.W.length → ∀ w, (Instr.slice 50 (.slice aW x.W.length c) none (some (.int .i64 (p : Int))) none).run Tryz.prog w = .ok (.slice aW p c) w) := fun p hp w => slice_h2 Tryz.underlying50 hi0 hfm hp hnc w
  have HL : Hid (∀ (p : Nat), p ≤ x.W.length → ∀ w, (Instr.slice 50 (.slice aW x.W.length c) (some (.int .i64 (p : Int))) none none).run Tryz.prog w = .ok (.slice (dropA aW c p 5) (x.W.length - p) (c - p)) w) := fun p hp w => by have := slice_l2 (P := Tryz.prog) (t := 50) Tryz.underlying50 hi0 hfm hp w; rwa [hz1] at this
  unfold eval8
  have X1 := Lib.hid (heap_alloc_new u (.cells #[.float .f64 e.t, .int .i64 e.src, .int .i64 e.n, .int .i64 e.dst, .int .i64 e.pay] 41))
  have RR := Lib.hid (hx.below (balloc u (.cells #[.float .f64 e.t, .int .i64 e.src, .int .i64 e.n, .int .i64 e.dst, .int .i64 e.pay] 41)))
  have B0 := Lib.hid (balloc u (.cells #[.float .f64 e.t, .int .i64 e.src, .int .i64 e.n, .int .i64 e.dst, .int .i64 e.pay] 41))
  have HCM := Lib.hid (fun (y : Evn) => refCompare8_ord y e)
  unfold eval8 at HCM
  have PL := Lib.hid hx.lt
  clear hx
  generalize hu : u.alloc (.cells #[.float .f64 e.t, .int .i64 e.src, .int .i64 e.n, .int .i64 e.dst, .int .i64 e.pay] 41) = u1 at *
  go_enter Tryz.func29, Tryz.ntmps29
  go_upto_region 1 with fail
  try rw [hu]
  clear hu
  have XQ := X1
  have R1 := RR
  have SS : Hid (∀ w', Below u1.heap.size u1 w' → (fun w' => w'.cell? ⟨P, 7, none⟩ = some (.slice aW x.W.length c) ∧ w'.cell? ⟨u.heap.size, 0, none⟩ = some (.float .f64 e.t) ∧ w'.cell? ⟨u.heap.size, 1, none⟩ = some (.int .i64 e.src) ∧ w'.cell? ⟨u.heap.size, 2, none⟩ = some (.int .i64 e.n) ∧ w'.cell? ⟨u.heap.size, 3, none⟩ = some (.int .i64 e.dst) ∧ w'.cell? ⟨u.heap.size, 4, none⟩ = some (.int .i64 e.pay)) w') := fun w' k => by
    obtain ⟨q0, q1, q2, q3, q4⟩ := five_cells8 ((k.block _ (lt_of_block XQ.out)).trans XQ.out)
    exact ⟨(R1.out.below k).cells.2.2.2.2.2.2.2.1, q0, q1, q2, q3, q4⟩
  have HT : Hid (∀ p, p ≤ x.W.length → ∀ w', Below u1.heap.size u1 w' → Sl 5 (gV8 (evF x.W)) p (.slice aW p c) w') := fun p hp w' k => sl_take2 ((R1.out.below k).wt.hds) hfm hp
  have HD : Hid (∀ p, p ≤ x.W.length → ∀ w', Below u1.heap.size u1 w' → Sl 5 (fun i => gV8 (evF x.W) (i + p)) (x.W.length - p) (.slice (dropA aW c p 5) (x.W.length - p) (c - p)) w') := fun p hp w' k => sl_drop2 ((R1.out.below k).wt.hds) hfm hp
  go_wp2_with fail
  go_loopw [4] (fun i wr => ∃ j : Nat, j ≤ x.W.length ∧ i = .int .i64 j ∧ (∀ i, i < j → ordE (evF x.W i) e ≤ 0) ∧ Below u1.heap.size u1 wr) (fun i _ => x.W.length - (intOf i).toNat)
  case atStart => exact ⟨0, Nat.zero_le _, rfl, fun i hi => absurd hi (Nat.not_lt_zero i), Below.refl _ _⟩
  case round =>
    obtain ⟨j, hj, rfl, hall, hl⟩ := hrel
    have HALL := Lib.hid hall
    have KR := Lib.hid hl
    clear hall hl
    have hj0 : (0 : Int) ≤ (j : Int) := by omega
    have hjt : ((j : Nat) : Int).toNat = j := by omega
    by_cases hlt : j < x.W.length
    · have hj2 : (j : Int) < (x.W.length : Int) := by omega
      have d2 : decide (j < x.W.length) = true := by simp [hlt]
      obtain ⟨b, o, rfl⟩ : ∃ b o, aW = some ⟨b, o, none⟩ := by
        rcases hfm with ⟨_, h0, _⟩ | h
        · omega
        · exact h
      obtain ⟨xe, hxe⟩ : ∃ y, y = evF x.W j := ⟨_, rfl⟩
      have HXE := Lib.hid hxe
      clear hxe
      have HC : Hid (∀ w', Below u1.heap.size u1 w' → (fun w' => w'.cell? ⟨P, 7, none⟩ = some (.slice (some ⟨b, o, none⟩) x.W.length c) ∧ w'.cell? ⟨u.heap.size, 0, none⟩ = some (.float .f64 e.t) ∧ w'.cell? ⟨u.heap.size, 1, none⟩ = some (.int .i64 e.src) ∧ w'.cell? ⟨u.heap.size, 2, none⟩ = some (.int .i64 e.n) ∧ w'.cell? ⟨u.heap.size, 3, none⟩ = some (.int .i64 e.dst) ∧ w'.cell? ⟨u.heap.size, 4, none⟩ = some (.int .i64 e.pay) ∧ w'.cell? ⟨b, o + j * 5, none⟩ = some (.float .f64 xe.t) ∧ w'.cell? ⟨b, o + j * 5 + 1, none⟩ = some (.int .i64 xe.src) ∧ w'.cell? ⟨b, o + j * 5 + 2, none⟩ = some (.int .i64 xe.n) ∧ w'.cell? ⟨b, o + j * 5 + 3, none⟩ = some (.int .i64 xe.dst) ∧ w'.cell? ⟨b, o + j * 5 + 4, none⟩ = some (.int .i64 xe.pay)) w') := fun w' k => by
        obtain ⟨p0, p1, p2, p3, p4, p5⟩ := SS.out _ k
        obtain ⟨a9, c9, e9, _, _, h3⟩ := (R1.out.below k).wt.hds
        simp only [Value.slice.injEq, true_and] at e9
        obtain ⟨rfl, rfl⟩ := e9
        obtain ⟨b9, o9, e8, hA⟩ := h3 (by omega)
        simp only [Option.some.injEq, Addr.mk.injEq, and_true] at e8
        obtain ⟨rfl, rfl⟩ := e8
        rw [HXE.out]
        exact ⟨p0, p1, p2, p3, p4, p5, hA.2 j hlt 0 (by omega), hA.2 j hlt 1 (by omega), hA.2 j hlt 2 (by omega), hA.2 j hlt 3 (by omega), hA.2 j hlt 4 (by omega)⟩
      have L0 := Lib.hid KR.out.drew
      go_upto_region 2 with fail
      refine wp_region_held_drew (S := (fun w' => w'.cell? ⟨P, 7, none⟩ = some (.slice (some ⟨b, o, none⟩) x.W.length c) ∧ w'.cell? ⟨u.heap.size, 0, none⟩ = some (.float .f64 e.t) ∧ w'.cell? ⟨u.heap.size, 1, none⟩ = some (.int .i64 e.src) ∧ w'.cell? ⟨u.heap.size, 2, none⟩ = some (.int .i64 e.n) ∧ w'.cell? ⟨u.heap.size, 3, none⟩ = some (.int .i64 e.dst) ∧ w'.cell? ⟨u.heap.size, 4, none⟩ = some (.int .i64 e.pay) ∧ w'.cell? ⟨b, o + j * 5, none⟩ = some (.float .f64 xe.t) ∧ w'.cell? ⟨b, o + j * 5 + 1, none⟩ = some (.int .i64 xe.src) ∧ w'.cell? ⟨b, o + j * 5 + 2, none⟩ = some (.int .i64 xe.n) ∧ w'.cell? ⟨b, o + j * 5 + 3, none⟩ = some (.int .i64 xe.dst) ∧ w'.cell? ⟨b, o + j * 5 + 4, none⟩ = some (.int .i64 xe.pay))) (by kernel_rfl) ?_ (fun hHeld => ?_)
      · exact HC.out _ L0.out
      change wpAnyH _ _ _ _ _ _ _ _ (World.drew wr)
      generalize wr.drew = u2 at *
      first | refine tq0 0 rfl ?_ | refine tq1 0 rfl ?_
      try go_frame
      first | refine tq0 1 rfl ?_ | refine tq1 1 rfl ?_
      try go_frame
      first | refine tq0 2 rfl ?_ | refine tq1 2 rfl ?_
      try go_frame
      first | refine tq0 3 rfl ?_ | refine tq1 3 rfl ?_
      try go_frame
      first | refine tq0 4 rfl ?_ | refine tq1 4 rfl ?_
      try go_frame
      first | refine tq0 5 rfl ?_ | refine tq1 5 rfl ?_
      try go_frame
      first | refine tq0 6 rfl ?_ | refine tq1 6 rfl ?_
      try go_frame
      first | refine tq0 7 rfl ?_ | refine tq1 7 rfl ?_
      try go_frame
      first | refine tq0 8 rfl ?_ | refine tq1 8 rfl ?_
      try go_frame
      first | refine tq0 9 rfl ?_ | refine tq1 9 rfl ?_
      try go_frame
      first | refine tq0 10 rfl ?_ | refine tq1 10 rfl ?_
      try go_frame
      first | refine tq0 11 rfl ?_ | refine tq1 11 rfl ?_
      try go_frame
      first | refine tq0 12 rfl ?_ | refine tq1 12 rfl ?_
      try go_frame
      first | refine tq0 13 rfl ?_ | refine tq1 13 rfl ?_
      try go_frame
      first | refine tq0 14 rfl ?_ | refine tq1 14 rfl ?_
      try go_frame
      first | refine tq0 15 rfl ?_ | refine tq1 15 rfl ?_
      try go_frame
      refine wpAnyH_ready (rs := [16]) (by kernel_rfl) (by simp) ?_
      refine AllReadyH.cons (o := ⟨_, _, _, _, _, _⟩) rfl (fun K hK => ?_) AllReadyH.nil
      go_simp
      go_at_call 60
      refine (HCM.out xe _).mono ?_
      rintro r w1 ⟨rfl, hb1⟩
      have LR := Lib.hid (L0.out.trans (hb1.mono L0.out.size))
      refine hK.out _ _ ?_ (fun hHeld => ?_)
      · exact HC.out _ LR.out
      clear hK K
      try go_frame
      clear hb1 L0
      by_cases hle : ordE xe e ≤ 0
      · have dl : decide (ordE xe e ≤ 0) = true := by simp [hle]
        have HLE : Hid (ordE (evF x.W j) e ≤ 0) := by rw [← HXE.out]; exact hle
        clear hle
        first | refine tq0 17 rfl ?_ | refine tq1 17 rfl ?_
        try go_frame
        first | refine tq0 18 rfl ?_ | refine tq1 18 rfl ?_
        try go_frame
        refine wpAnyH_done (by kernel_rfl) ?_ _
        clear hHeld
        go_wp2_with fail
        go_roundw
        case rel =>
          refine ⟨j + 1, by omega, by go_num, fun i hi => ?_, LR.out⟩
          rcases Nat.lt_succ_iff_lt_or_eq.1 hi with h | h
          · exact HALL.out i h
          · rw [h]; exact HLE.out
        case measure => simp [intOf]; omega
      · have dl : decide (ordE xe e ≤ 0) = false := by simp [hle]
        have HPL : Hid (j = plcE e x.W) := plcE_at e x.W j hj HALL.out (fun _ => by rw [← HXE.out]; exact hle)
        clear hle
        first | refine tq0 17 rfl ?_ | refine tq1 17 rfl ?_
        try go_frame
        first | refine tq0 18 rfl ?_ | refine tq1 18 rfl ?_
        try go_frame
        refine wpAnyH_done (by kernel_rfl) ?_ _
        clear hHeld HC KR
        have hpn := hj
        go_upto_region 4 with fail
        have L0 := Lib.hid (LR.out.drew)
        refine wp_region_x_drew 21 (S := (fun w' => w'.cell? ⟨P, 7, none⟩ = some (.slice (some ⟨b, o, none⟩) x.W.length c) ∧ w'.cell? ⟨u.heap.size, 0, none⟩ = some (.float .f64 e.t) ∧ w'.cell? ⟨u.heap.size, 1, none⟩ = some (.int .i64 e.src) ∧ w'.cell? ⟨u.heap.size, 2, none⟩ = some (.int .i64 e.n) ∧ w'.cell? ⟨u.heap.size, 3, none⟩ = some (.int .i64 e.dst) ∧ w'.cell? ⟨u.heap.size, 4, none⟩ = some (.int .i64 e.pay))) (by kernel_rfl) ?_ (fun hHeld => ?_)
        · exact SS.out _ L0.out
        change wpAnyX _ _ _ _ _ _ _ _ _ (World.drew _)
        generalize World.drew _ = u2 at *
        first
          | refine tx0 0 (oi := ⟨_, _, _, _, _, _⟩) rfl ?_
          | refine tx1 0 (oi := ⟨_, _, _, _, _, _⟩) (v := ?_) rfl ?_ ?_; rotate_left; · (intro w5 hSw; (try dsimp only at hSw); go_simp; (try with_reducible rfl))
        try go_frame
        first
          | refine tx0 2 (oi := ⟨_, _, _, _, _, _⟩) rfl ?_
          | refine tx1 2 (oi := ⟨_, _, _, _, _, _⟩) (v := ?_) rfl ?_ ?_; rotate_left; · (intro w5 hSw; (try dsimp only at hSw); go_simp; (try with_reducible rfl))
        try go_frame
        first
          | refine tx0 3 (oi := ⟨_, _, _, _, _, _⟩) rfl ?_
          | refine tx1 3 (oi := ⟨_, _, _, _, _, _⟩) (v := ?_) rfl ?_ ?_; rotate_left; · (intro w5 hSw; (try dsimp only at hSw); go_simp; (try with_reducible rfl))
        try go_frame
        first
          | refine tx0 4 (oi := ⟨_, _, _, _, _, _⟩) rfl ?_
          | refine tx1 4 (oi := ⟨_, _, _, _, _, _⟩) (v := ?_) rfl ?_ ?_; rotate_left; · (intro w5 hSw; (try dsimp only at hSw); go_simp; (try with_reducible rfl))
        try go_frame
        first
          | refine tx0 5 (oi := ⟨_, _, _, _, _, _⟩) rfl ?_
          | refine tx1 5 (oi := ⟨_, _, _, _, _, _⟩) (v := ?_) rfl ?_ ?_; rotate_left; · (intro w5 hSw; (try dsimp only at hSw); go_simp; (try with_reducible rfl))
        try go_frame
        first
          | refine tx0 6 (oi := ⟨_, _, _, _, _, _⟩) rfl ?_
          | refine tx1 6 (oi := ⟨_, _, _, _, _, _⟩) (v := ?_) rfl ?_ ?_; rotate_left; · (intro w5 hSw; (try dsimp only at hSw); go_simp; (try with_reducible rfl))
        try go_frame
        refine tx1 7 (oi := ⟨_, _, _, _, _, _⟩) (v := ?_) rfl ?_ ?_; rotate_left; · (intro w5 hSw; have h7 := HS.out j hpn w5; (try dsimp only at hSw); go_simp; (try with_reducible rfl))
        try go_frame
        first
          | refine tx0 9 (oi := ⟨_, _, _, _, _, _⟩) rfl ?_
          | refine tx1 9 (oi := ⟨_, _, _, _, _, _⟩) (v := ?_) rfl ?_ ?_; rotate_left; · (intro w5 hSw; (try dsimp only at hSw); go_simp; (try with_reducible rfl))
        try go_frame
        first
          | refine tx0 12 (oi := ⟨_, _, _, _, _, _⟩) rfl ?_
          | refine tx1 12 (oi := ⟨_, _, _, _, _, _⟩) (v := ?_) rfl ?_ ?_; rotate_left; · (intro w5 hSw; (try dsimp only at hSw); go_simp; (try with_reducible rfl))
        try go_frame
        first
          | refine tx0 13 (oi := ⟨_, _, _, _, _, _⟩) rfl ?_
          | refine tx1 13 (oi := ⟨_, _, _, _, _, _⟩) (v := ?_) rfl ?_ ?_; rotate_left; · (intro w5 hSw; (try dsimp only at hSw); go_simp; (try with_reducible rfl))
        try go_frame
        first
          | refine tx0 14 (oi := ⟨_, _, _, _, _, _⟩) rfl ?_
          | refine tx1 14 (oi := ⟨_, _, _, _, _, _⟩) (v := ?_) rfl ?_ ?_; rotate_left; · (intro w5 hSw; (try dsimp only at hSw); go_simp; (try with_reducible rfl))
        try go_frame
        first
          | refine tx0 15 (oi := ⟨_, _, _, _, _, _⟩) rfl ?_
          | refine tx1 15 (oi := ⟨_, _, _, _, _, _⟩) (v := ?_) rfl ?_ ?_; rotate_left; · (intro w5 hSw; (try dsimp only at hSw); go_simp; (try with_reducible rfl))
        try go_frame
        first
          | refine tx0 16 (oi := ⟨_, _, _, _, _, _⟩) rfl ?_
          | refine tx1 16 (oi := ⟨_, _, _, _, _, _⟩) (v := ?_) rfl ?_ ?_; rotate_left; · (intro w5 hSw; (try dsimp only at hSw); go_simp; (try with_reducible rfl))
        try go_frame
        refine tx1 17 (oi := ⟨_, _, _, _, _, _⟩) (v := ?_) rfl ?_ ?_; rotate_left; · (intro w5 hSw; have h7 := HL.out j hpn w5; (try dsimp only at hSw); go_simp; (try with_reducible rfl))
        try go_frame
        refine wpAnyX_ready (rs := [1, 10]) (by kernel_rfl) (by simp) ?_
        refine AllReadyX.cons (o := ⟨_, _, _, _, _, _⟩) rfl (fun K hK => ?_) (AllReadyX.cons (o := ⟨_, _, _, _, _, _⟩) rfl (fun K hK => ?_) AllReadyX.nil)
        · have L3 := Lib.hid (L0.out.trans ((balloc u2 (.cells #[] 41)).mono L0.out.size))
          have B1 : Hid ((u2.alloc (.cells #[] 41)).ownsRow u1.heap.size 41 5 (.slice (some ⟨u2.heap.size, 0, none⟩) 0 0) (0) ([])) := World.ownsRow_lit (base := u1.heap.size) (e := 41) (size := 5) u2 #[] 0 L0.out.size (by decide) rfl
          go_simp
          refine hK.out _ _ ?_ (fun hHeld => ?_)
          · exact SS.out _ L3.out
          clear hK K
          try go_frame
          generalize hw1 : u2.alloc (.cells #[] 41) = u3 at *
          refine wpAnyX_ready (rs := [8, 10]) (by kernel_rfl) (by simp) ?_
          refine AllReadyX.cons (o := ⟨_, _, _, _, _, _⟩) rfl (fun K hK => ?_) (AllReadyX.cons (o := ⟨_, _, _, _, _, _⟩) rfl (fun K hK => ?_) AllReadyX.nil)
          · refine step_append_any rfl (.tmp 27) (.tmp 33) 50 rfl u1.heap.size 41 i0 (.agg #[.float .f64 0, .int .i64 0, .int .i64 0, .int .i64 0, .int .i64 0]) 5 40 Tryz.underlying50 hi0 hz0 hz1 hz2 rfl (by decide) (.slice (some ⟨u2.heap.size, 0, none⟩) 0 0) 0 _ (by simp [Act.eval]) B1.out (gV8 (evF x.W)) (j) (.slice (some ⟨b, o, none⟩) (j) c) (by simp [Act.eval]) (HT.out j hpn _ L3.out) (fun _ _ _ _ => gV8_one _ _ _) (by unfold maxLen; omega) (by omega) L3.out.size (j) (Nat.zero_add _) ?_
            intro a8 c8 u4 hown8 hgr8
            have L4 := Lib.hid (L3.out.trans (below_grown B1.out L3.out.size hgr8))
            have O8 : Hid (u4.ownsRow u1.heap.size 41 5 (.slice a8 (j) c8) (j) (rowCells 5 (gV8 (evF x.W)) (j))) := hown8
            refine hK.out _ _ ?_ (fun hHeld => ?_)
            · exact SS.out _ L4.out
            clear hK K
            try go_frame
            refine wpAnyX_ready (rs := [10]) (by kernel_rfl) (by simp) ?_
            refine AllReadyX.cons (o := ⟨_, _, _, _, _, _⟩) rfl (fun K hK => ?_) AllReadyX.nil
            have L5 := Lib.hid (L4.out.trans ((balloc u4 (.cells #[.float .f64 e.t, .int .i64 e.src, .int .i64 e.n, .int .i64 e.dst, .int .i64 e.pay] 41)).mono L4.out.size))
            have B10 : Hid ((u4.alloc (.cells #[.float .f64 e.t, .int .i64 e.src, .int .i64 e.n, .int .i64 e.dst, .int .i64 e.pay] 41)).ownsRow u1.heap.size 41 5 (.slice (some ⟨u4.heap.size, 0, none⟩) 1 1) (1) (rowCells 5 (gV8 fun _ => e) 1)) := World.ownsRow_lit (base := u1.heap.size) (e := 41) (size := 5) u4 #[.float .f64 e.t, .int .i64 e.src, .int .i64 e.n, .int .i64 e.dst, .int .i64 e.pay] 1 L4.out.size (by decide) rfl
            go_simp
            refine hK.out _ _ ?_ (fun hHeld => ?_)
            · exact SS.out _ L5.out
            clear hK K
            try go_frame
            generalize hw10 : u4.alloc (.cells #[.float .f64 e.t, .int .i64 e.src, .int .i64 e.n, .int .i64 e.dst, .int .i64 e.pay] 41) = u5 at *
            have hbk : Below u4.heap.size u4 u5 := by rw [← hw10]; exact balloc u4 (.cells #[.float .f64 e.t, .int .i64 e.src, .int .i64 e.n, .int .i64 e.dst, .int .i64 e.pay] 41)
            have O8n := own_below O8.out hbk
            clear O8
            have O8 := Lib.hid O8n
            refine wpAnyX_ready (rs := [11]) (by kernel_rfl) (by simp) ?_
            refine AllReadyX.cons (o := ⟨_, _, _, _, _, _⟩) rfl (fun K hK => ?_) AllReadyX.nil
            refine step_append_any rfl (.tmp 34) (.tmp 36) 50 rfl u1.heap.size 41 i0 (.agg #[.float .f64 0, .int .i64 0, .int .i64 0, .int .i64 0, .int .i64 0]) 5 40 Tryz.underlying50 hi0 hz0 hz1 hz2 rfl (by decide) (.slice a8 (j) c8) (j) _ (by simp [Act.eval]) O8.out (gV8 fun _ => e) 1 (.slice (some ⟨u4.heap.size, 0, none⟩) 1 1) (by simp [Act.eval]) (own_sl B10.out) (fun _ _ _ _ => gV8_one _ _ _) (by unfold maxLen; omega) (by omega) L5.out.size (j + 1) rfl ?_
            intro a9 c9 w9 hown9 hgr9
            have L9 := Lib.hid (L5.out.trans (below_grown O8.out L5.out.size hgr9))
            have O9 : Hid (w9.ownsRow u1.heap.size 41 5 (.slice a9 (j + 1) c9) (j + 1) (rowCells 5 (gV8 (evF x.W)) (j) ++ rowCells 5 (gV8 fun _ => e) 1)) := hown9
            refine hK.out _ _ ?_ (fun hHeld => ?_)
            · exact SS.out _ L9.out
            clear hK K
            try go_frame
            clear hown9 hgr9
            refine wpAnyX_ready (rs := [18]) (by kernel_rfl) (by simp) ?_
            refine AllReadyX.cons (o := ⟨_, _, _, _, _, _⟩) rfl (fun K hK => ?_) AllReadyX.nil
            refine step_append_any rfl (.tmp 37) (.tmp 43) 50 rfl u1.heap.size 41 i0 (.agg #[.float .f64 0, .int .i64 0, .int .i64 0, .int .i64 0, .int .i64 0]) 5 40 Tryz.underlying50 hi0 hz0 hz1 hz2 rfl (by decide) (.slice a9 (j + 1) c9) (j + 1) _ (by simp [Act.eval]) O9.out (fun i => gV8 (evF x.W) (i + j)) (x.W.length - j) (.slice (dropA (some ⟨b, o, none⟩) c (j) 5) (x.W.length - j) (c - j)) (by simp [Act.eval]) (HD.out j hpn _ L9.out) (fun _ _ _ _ => gV8_one _ _ _) (by unfold maxLen; omega) (by omega) L9.out.size (x.W.length + 1) (by omega) ?_
            intro aN cN wN hownN hgrN
            have LN := Lib.hid (L9.out.trans (below_grown O9.out L9.out.size hgrN))
            have ON : Hid (wN.ownsRow u1.heap.size 41 5 (.slice aN (x.W.length + 1) cN) (x.W.length + 1) (rowCells 5 (gV8 (evF (insE e x.W))) (x.W.length + 1))) := by
              have h := hownN
              rw [cells_ins2 HPL.out] at h
              exact h
            refine hK.out _ _ ?_ (fun hHeld => ?_)
            · exact SS.out _ LN.out
            clear hK K
            try go_frame
            clear hownN hgrN
            refine wpAnyX_ready (rs := [19]) (by kernel_rfl) (by simp) ?_
            refine AllReadyX.cons (o := ⟨_, _, _, _, _, _⟩) rfl (fun K hK => ?_) AllReadyX.nil
            go_simp
            refine hK.out _ _ ?_ (fun hHeld => ?_)
            · exact SS.out _ LN.out
            clear hK K
            try go_frame
            refine wpAnyX_ready (rs := [20]) (by kernel_rfl) (by simp) ?_
            refine AllReadyX.cons (o := ⟨_, _, _, _, _, _⟩) rfl (fun K hK => ?_) AllReadyX.nil
            go_simp
            refine hK.out _ _ ?_ (fun hHeld => ?_)
            · exact SS.out _ LN.out
            clear hK K
            try go_frame
            refine wpAnyX_last (o := ⟨_, _, _, _, _, _⟩) (by kernel_rfl) rfl (fun K hK => ?_) (by kernel_rfl)
            have RN := Lib.hid (R1.out.below LN.out)
            have hfz := RN.out.cells.2.2.2.2.2.2.2.2.2 7
            have hcw := RN.out.cells.2.2.2.2.2.2.2.1
            have FIN := Lib.hid (rput_fin RN.out ON.out R1.out.lo)
            go_simp
            refine hK.out _ _ ?_
            clear hK K
            try go_frame
            go_wp2_with fail
            exact bodyPost_end (v := .tuple #[]) (by simp [results, Tryz.results29, go_sem]) rfl ⟨rfl, ⟨_, FIN.out⟩, ((Kp.of (tb := P) B0.out).trans (Kp.of (tb := P) LN.out)).trans (Kp.set P 7 _ wN)⟩
          · have L4 := Lib.hid (L3.out.trans ((balloc u3 (.cells #[.float .f64 e.t, .int .i64 e.src, .int .i64 e.n, .int .i64 e.dst, .int .i64 e.pay] 41)).mono L3.out.size))
            have B10 : Hid ((u3.alloc (.cells #[.float .f64 e.t, .int .i64 e.src, .int .i64 e.n, .int .i64 e.dst, .int .i64 e.pay] 41)).ownsRow u1.heap.size 41 5 (.slice (some ⟨u3.heap.size, 0, none⟩) 1 1) (1) (rowCells 5 (gV8 fun _ => e) 1)) := World.ownsRow_lit (base := u1.heap.size) (e := 41) (size := 5) u3 #[.float .f64 e.t, .int .i64 e.src, .int .i64 e.n, .int .i64 e.dst, .int .i64 e.pay] 1 L3.out.size (by decide) rfl
            go_simp
            refine hK.out _ _ ?_ (fun hHeld => ?_)
            · exact SS.out _ L4.out
            clear hK K
            try go_frame
            generalize hw10 : u3.alloc (.cells #[.float .f64 e.t, .int .i64 e.src, .int .i64 e.n, .int .i64 e.dst, .int .i64 e.pay] 41) = u4 at *
            have hne : u3.heap.size ≠ u2.heap.size := by rw [← hw1]; exact alloc_ne _ _
            have hbk : Below u3.heap.size u3 u4 := by rw [← hw10]; exact balloc u3 (.cells #[.float .f64 e.t, .int .i64 e.src, .int .i64 e.n, .int .i64 e.dst, .int .i64 e.pay] 41)
            have B1n := Lib.hid (own_below B1.out hbk)
            refine wpAnyX_ready (rs := [8]) (by kernel_rfl) (by simp) ?_
            refine AllReadyX.cons (o := ⟨_, _, _, _, _, _⟩) rfl (fun K hK => ?_) AllReadyX.nil
            refine step_append_any rfl (.tmp 27) (.tmp 33) 50 rfl u1.heap.size 41 i0 (.agg #[.float .f64 0, .int .i64 0, .int .i64 0, .int .i64 0, .int .i64 0]) 5 40 Tryz.underlying50 hi0 hz0 hz1 hz2 rfl (by decide) (.slice (some ⟨u2.heap.size, 0, none⟩) 0 0) 0 _ (by simp [Act.eval]) B1n.out (gV8 (evF x.W)) (j) (.slice (some ⟨b, o, none⟩) (j) c) (by simp [Act.eval]) (HT.out j hpn _ L4.out) (fun _ _ _ _ => gV8_one _ _ _) (by unfold maxLen; omega) (by omega) L4.out.size (j) (Nat.zero_add _) ?_
            intro a8 c8 u5 hown8 hgr8
            have L5 := Lib.hid (L4.out.trans (below_grown B1n.out L4.out.size hgr8))
            have O8 : Hid (u5.ownsRow u1.heap.size 41 5 (.slice a8 (j) c8) (j) (rowCells 5 (gV8 (evF x.W)) (j))) := hown8
            have B10n := Lib.hid (own_past B10.out hgr8 (fun g hg => by simp [Value.ownBlock] at hg ⊢; omega))
            refine hK.out _ _ ?_ (fun hHeld => ?_)
            · exact SS.out _ L5.out
            clear hK K
            try go_frame
            refine wpAnyX_ready (rs := [11]) (by kernel_rfl) (by simp) ?_
            refine AllReadyX.cons (o := ⟨_, _, _, _, _, _⟩) rfl (fun K hK => ?_) AllReadyX.nil
            refine step_append_any rfl (.tmp 34) (.tmp 36) 50 rfl u1.heap.size 41 i0 (.agg #[.float .f64 0, .int .i64 0, .int .i64 0, .int .i64 0, .int .i64 0]) 5 40 Tryz.underlying50 hi0 hz0 hz1 hz2 rfl (by decide) (.slice a8 (j) c8) (j) _ (by simp [Act.eval]) O8.out (gV8 fun _ => e) 1 (.slice (some ⟨u3.heap.size, 0, none⟩) 1 1) (by simp [Act.eval]) (own_sl B10n.out) (fun _ _ _ _ => gV8_one _ _ _) (by unfold maxLen; omega) (by omega) L5.out.size (j + 1) rfl ?_
            intro a9 c9 w9 hown9 hgr9
            have L9 := Lib.hid (L5.out.trans (below_grown O8.out L5.out.size hgr9))
            have O9 : Hid (w9.ownsRow u1.heap.size 41 5 (.slice a9 (j + 1) c9) (j + 1) (rowCells 5 (gV8 (evF x.W)) (j) ++ rowCells 5 (gV8 fun _ => e) 1)) := hown9
            refine hK.out _ _ ?_ (fun hHeld => ?_)
            · exact SS.out _ L9.out
            clear hK K
            try go_frame
            clear hown9 hgr9
            refine wpAnyX_ready (rs := [18]) (by kernel_rfl) (by simp) ?_
            refine AllReadyX.cons (o := ⟨_, _, _, _, _, _⟩) rfl (fun K hK => ?_) AllReadyX.nil
            refine step_append_any rfl (.tmp 37) (.tmp 43) 50 rfl u1.heap.size 41 i0 (.agg #[.float .f64 0, .int .i64 0, .int .i64 0, .int .i64 0, .int .i64 0]) 5 40 Tryz.underlying50 hi0 hz0 hz1 hz2 rfl (by decide) (.slice a9 (j + 1) c9) (j + 1) _ (by simp [Act.eval]) O9.out (fun i => gV8 (evF x.W) (i + j)) (x.W.length - j) (.slice (dropA (some ⟨b, o, none⟩) c (j) 5) (x.W.length - j) (c - j)) (by simp [Act.eval]) (HD.out j hpn _ L9.out) (fun _ _ _ _ => gV8_one _ _ _) (by unfold maxLen; omega) (by omega) L9.out.size (x.W.length + 1) (by omega) ?_
            intro aN cN wN hownN hgrN
            have LN := Lib.hid (L9.out.trans (below_grown O9.out L9.out.size hgrN))
            have ON : Hid (wN.ownsRow u1.heap.size 41 5 (.slice aN (x.W.length + 1) cN) (x.W.length + 1) (rowCells 5 (gV8 (evF (insE e x.W))) (x.W.length + 1))) := by
              have h := hownN
              rw [cells_ins2 HPL.out] at h
              exact h
            refine hK.out _ _ ?_ (fun hHeld => ?_)
            · exact SS.out _ LN.out
            clear hK K
            try go_frame
            clear hownN hgrN
            refine wpAnyX_ready (rs := [19]) (by kernel_rfl) (by simp) ?_
            refine AllReadyX.cons (o := ⟨_, _, _, _, _, _⟩) rfl (fun K hK => ?_) AllReadyX.nil
            go_simp
            refine hK.out _ _ ?_ (fun hHeld => ?_)
            · exact SS.out _ LN.out
            clear hK K
            try go_frame
            refine wpAnyX_ready (rs := [20]) (by kernel_rfl) (by simp) ?_
            refine AllReadyX.cons (o := ⟨_, _, _, _, _, _⟩) rfl (fun K hK => ?_) AllReadyX.nil
            go_simp
            refine hK.out _ _ ?_ (fun hHeld => ?_)
            · exact SS.out _ LN.out
            clear hK K
            try go_frame
            refine wpAnyX_last (o := ⟨_, _, _, _, _, _⟩) (by kernel_rfl) rfl (fun K hK => ?_) (by kernel_rfl)
            have RN := Lib.hid (R1.out.below LN.out)
            have hfz := RN.out.cells.2.2.2.2.2.2.2.2.2 7
            have hcw := RN.out.cells.2.2.2.2.2.2.2.1
            have FIN := Lib.hid (rput_fin RN.out ON.out R1.out.lo)
            go_simp
            refine hK.out _ _ ?_
            clear hK K
            try go_frame
            go_wp2_with fail
            exact bodyPost_end (v := .tuple #[]) (by simp [results, Tryz.results29, go_sem]) rfl ⟨rfl, ⟨_, FIN.out⟩, ((Kp.of (tb := P) B0.out).trans (Kp.of (tb := P) LN.out)).trans (Kp.set P 7 _ wN)⟩
        · have L3 := Lib.hid (L0.out.trans ((balloc u2 (.cells #[.float .f64 e.t, .int .i64 e.src, .int .i64 e.n, .int .i64 e.dst, .int .i64 e.pay] 41)).mono L0.out.size))
          have B10 : Hid ((u2.alloc (.cells #[.float .f64 e.t, .int .i64 e.src, .int .i64 e.n, .int .i64 e.dst, .int .i64 e.pay] 41)).ownsRow u1.heap.size 41 5 (.slice (some ⟨u2.heap.size, 0, none⟩) 1 1) (1) (rowCells 5 (gV8 fun _ => e) 1)) := World.ownsRow_lit (base := u1.heap.size) (e := 41) (size := 5) u2 #[.float .f64 e.t, .int .i64 e.src, .int .i64 e.n, .int .i64 e.dst, .int .i64 e.pay] 1 L0.out.size (by decide) rfl
          go_simp
          refine hK.out _ _ ?_ (fun hHeld => ?_)
          · exact SS.out _ L3.out
          clear hK K
          try go_frame
          generalize hw10 : u2.alloc (.cells #[.float .f64 e.t, .int .i64 e.src, .int .i64 e.n, .int .i64 e.dst, .int .i64 e.pay] 41) = u3 at *
          refine wpAnyX_ready (rs := [1]) (by kernel_rfl) (by simp) ?_
          refine AllReadyX.cons (o := ⟨_, _, _, _, _, _⟩) rfl (fun K hK => ?_) AllReadyX.nil
          have L4 := Lib.hid (L3.out.trans ((balloc u3 (.cells #[] 41)).mono L3.out.size))
          have B1 : Hid ((u3.alloc (.cells #[] 41)).ownsRow u1.heap.size 41 5 (.slice (some ⟨u3.heap.size, 0, none⟩) 0 0) (0) ([])) := World.ownsRow_lit (base := u1.heap.size) (e := 41) (size := 5) u3 #[] 0 L3.out.size (by decide) rfl
          go_simp
          refine hK.out _ _ ?_ (fun hHeld => ?_)
          · exact SS.out _ L4.out
          clear hK K
          try go_frame
          generalize hw1 : u3.alloc (.cells #[] 41) = u4 at *
          have hne : u3.heap.size ≠ u2.heap.size := by rw [← hw10]; exact alloc_ne _ _
          have hbk : Below u3.heap.size u3 u4 := by rw [← hw1]; exact balloc u3 (.cells #[] 41)
          have B10m := Lib.hid (own_below B10.out hbk)
          refine wpAnyX_ready (rs := [8]) (by kernel_rfl) (by simp) ?_
          refine AllReadyX.cons (o := ⟨_, _, _, _, _, _⟩) rfl (fun K hK => ?_) AllReadyX.nil
          refine step_append_any rfl (.tmp 27) (.tmp 33) 50 rfl u1.heap.size 41 i0 (.agg #[.float .f64 0, .int .i64 0, .int .i64 0, .int .i64 0, .int .i64 0]) 5 40 Tryz.underlying50 hi0 hz0 hz1 hz2 rfl (by decide) (.slice (some ⟨u3.heap.size, 0, none⟩) 0 0) 0 _ (by simp [Act.eval]) B1.out (gV8 (evF x.W)) (j) (.slice (some ⟨b, o, none⟩) (j) c) (by simp [Act.eval]) (HT.out j hpn _ L4.out) (fun _ _ _ _ => gV8_one _ _ _) (by unfold maxLen; omega) (by omega) L4.out.size (j) (Nat.zero_add _) ?_
          intro a8 c8 u5 hown8 hgr8
          have L5 := Lib.hid (L4.out.trans (below_grown B1.out L4.out.size hgr8))
          have O8 : Hid (u5.ownsRow u1.heap.size 41 5 (.slice a8 (j) c8) (j) (rowCells 5 (gV8 (evF x.W)) (j))) := hown8
          have B10n := Lib.hid (own_past B10m.out hgr8 (fun g hg => by simp [Value.ownBlock] at hg ⊢; omega))
          refine hK.out _ _ ?_ (fun hHeld => ?_)
          · exact SS.out _ L5.out
          clear hK K
          try go_frame
          refine wpAnyX_ready (rs := [11]) (by kernel_rfl) (by simp) ?_
          refine AllReadyX.cons (o := ⟨_, _, _, _, _, _⟩) rfl (fun K hK => ?_) AllReadyX.nil
          refine step_append_any rfl (.tmp 34) (.tmp 36) 50 rfl u1.heap.size 41 i0 (.agg #[.float .f64 0, .int .i64 0, .int .i64 0, .int .i64 0, .int .i64 0]) 5 40 Tryz.underlying50 hi0 hz0 hz1 hz2 rfl (by decide) (.slice a8 (j) c8) (j) _ (by simp [Act.eval]) O8.out (gV8 fun _ => e) 1 (.slice (some ⟨u2.heap.size, 0, none⟩) 1 1) (by simp [Act.eval]) (own_sl B10n.out) (fun _ _ _ _ => gV8_one _ _ _) (by unfold maxLen; omega) (by omega) L5.out.size (j + 1) rfl ?_
          intro a9 c9 w9 hown9 hgr9
          have L9 := Lib.hid (L5.out.trans (below_grown O8.out L5.out.size hgr9))
          have O9 : Hid (w9.ownsRow u1.heap.size 41 5 (.slice a9 (j + 1) c9) (j + 1) (rowCells 5 (gV8 (evF x.W)) (j) ++ rowCells 5 (gV8 fun _ => e) 1)) := hown9
          refine hK.out _ _ ?_ (fun hHeld => ?_)
          · exact SS.out _ L9.out
          clear hK K
          try go_frame
          clear hown9 hgr9
          refine wpAnyX_ready (rs := [18]) (by kernel_rfl) (by simp) ?_
          refine AllReadyX.cons (o := ⟨_, _, _, _, _, _⟩) rfl (fun K hK => ?_) AllReadyX.nil
          refine step_append_any rfl (.tmp 37) (.tmp 43) 50 rfl u1.heap.size 41 i0 (.agg #[.float .f64 0, .int .i64 0, .int .i64 0, .int .i64 0, .int .i64 0]) 5 40 Tryz.underlying50 hi0 hz0 hz1 hz2 rfl (by decide) (.slice a9 (j + 1) c9) (j + 1) _ (by simp [Act.eval]) O9.out (fun i => gV8 (evF x.W) (i + j)) (x.W.length - j) (.slice (dropA (some ⟨b, o, none⟩) c (j) 5) (x.W.length - j) (c - j)) (by simp [Act.eval]) (HD.out j hpn _ L9.out) (fun _ _ _ _ => gV8_one _ _ _) (by unfold maxLen; omega) (by omega) L9.out.size (x.W.length + 1) (by omega) ?_
          intro aN cN wN hownN hgrN
          have LN := Lib.hid (L9.out.trans (below_grown O9.out L9.out.size hgrN))
          have ON : Hid (wN.ownsRow u1.heap.size 41 5 (.slice aN (x.W.length + 1) cN) (x.W.length + 1) (rowCells 5 (gV8 (evF (insE e x.W))) (x.W.length + 1))) := by
            have h := hownN
            rw [cells_ins2 HPL.out] at h
            exact h
          refine hK.out _ _ ?_ (fun hHeld => ?_)
          · exact SS.out _ LN.out
          clear hK K
          try go_frame
          clear hownN hgrN
          refine wpAnyX_ready (rs := [19]) (by kernel_rfl) (by simp) ?_
          refine AllReadyX.cons (o := ⟨_, _, _, _, _, _⟩) rfl (fun K hK => ?_) AllReadyX.nil
          go_simp
          refine hK.out _ _ ?_ (fun hHeld => ?_)
          · exact SS.out _ LN.out
          clear hK K
          try go_frame
          refine wpAnyX_ready (rs := [20]) (by kernel_rfl) (by simp) ?_
          refine AllReadyX.cons (o := ⟨_, _, _, _, _, _⟩) rfl (fun K hK => ?_) AllReadyX.nil
          go_simp
          refine hK.out _ _ ?_ (fun hHeld => ?_)
          · exact SS.out _ LN.out
          clear hK K
          try go_frame
          refine wpAnyX_last (o := ⟨_, _, _, _, _, _⟩) (by kernel_rfl) rfl (fun K hK => ?_) (by kernel_rfl)
          have RN := Lib.hid (R1.out.below LN.out)
          have hfz := RN.out.cells.2.2.2.2.2.2.2.2.2 7
          have hcw := RN.out.cells.2.2.2.2.2.2.2.1
          have FIN := Lib.hid (rput_fin RN.out ON.out R1.out.lo)
          go_simp
          refine hK.out _ _ ?_
          clear hK K
          try go_frame
          go_wp2_with fail
          exact bodyPost_end (v := .tuple #[]) (by simp [results, Tryz.results29, go_sem]) rfl ⟨rfl, ⟨_, FIN.out⟩, ((Kp.of (tb := P) B0.out).trans (Kp.of (tb := P) LN.out)).trans (Kp.set P 7 _ wN)⟩
    · obtain rfl : j = x.W.length := by omega
      have HPL : Hid (x.W.length = plcE e x.W) := plcE_at e x.W _ (Nat.le_refl _) HALL.out (fun h => absurd h (Nat.lt_irrefl _))
      have d2 : decide (x.W.length < x.W.length) = false := by simp
      have LR := Lib.hid KR.out.drew
      go_upto_region 2 with fail
      refine wp_region_held_drew (S := (fun w' => w'.cell? ⟨P, 7, none⟩ = some (.slice aW x.W.length c) ∧ w'.cell? ⟨u.heap.size, 0, none⟩ = some (.float .f64 e.t) ∧ w'.cell? ⟨u.heap.size, 1, none⟩ = some (.int .i64 e.src) ∧ w'.cell? ⟨u.heap.size, 2, none⟩ = some (.int .i64 e.n) ∧ w'.cell? ⟨u.heap.size, 3, none⟩ = some (.int .i64 e.dst) ∧ w'.cell? ⟨u.heap.size, 4, none⟩ = some (.int .i64 e.pay))) (by kernel_rfl) ?_ (fun hHeld => ?_)
      · exact SS.out _ LR.out
      change wpAnyH _ _ _ _ _ _ _ _ (World.drew wr)
      generalize wr.drew = u9 at *
      first | refine tq0 0 rfl ?_ | refine tq1 0 rfl ?_
      try go_frame
      first | refine tq0 1 rfl ?_ | refine tq1 1 rfl ?_
      try go_frame
      first | refine tq0 2 rfl ?_ | refine tq1 2 rfl ?_
      try go_frame
      first | refine tq0 3 rfl ?_ | refine tq1 3 rfl ?_
      try go_frame
      first | refine tq0 4 rfl ?_ | refine tq1 4 rfl ?_
      try go_frame
      first | refine tq0 5 rfl ?_ | refine tq1 5 rfl ?_
      try go_frame
      first | refine tq0 6 rfl ?_ | refine tq1 6 rfl ?_
      try go_frame
      first | refine tq0 7 rfl ?_ | refine tq1 7 rfl ?_
      try go_frame
      first | refine tq0 8 rfl ?_ | refine tq1 8 rfl ?_
      try go_frame
      first | refine tq0 9 rfl ?_ | refine tq1 9 rfl ?_
      try go_frame
      first | refine tq0 10 rfl ?_ | refine tq1 10 rfl ?_
      try go_frame
      first | refine tq0 11 rfl ?_ | refine tq1 11 rfl ?_
      try go_frame
      first | refine tq0 12 rfl ?_ | refine tq1 12 rfl ?_
      try go_frame
      first | refine tq0 13 rfl ?_ | refine tq1 13 rfl ?_
      try go_frame
      first | refine tq0 14 rfl ?_ | refine tq1 14 rfl ?_
      try go_frame
      first | refine tq0 15 rfl ?_ | refine tq1 15 rfl ?_
      try go_frame
      first | refine tq0 16 rfl ?_ | refine tq1 16 rfl ?_
      try go_frame
      first | refine tq0 17 rfl ?_ | refine tq1 17 rfl ?_
      try go_frame
      first | refine tq0 18 rfl ?_ | refine tq1 18 rfl ?_
      try go_frame
      refine wpAnyH_done (by kernel_rfl) ?_ _
      clear hHeld KR
      have hpn : x.W.length ≤ x.W.length := Nat.le_refl _
      go_upto_region 4 with fail
      have L0 := Lib.hid (LR.out.drew)
      refine wp_region_x_drew 21 (S := (fun w' => w'.cell? ⟨P, 7, none⟩ = some (.slice aW x.W.length c) ∧ w'.cell? ⟨u.heap.size, 0, none⟩ = some (.float .f64 e.t) ∧ w'.cell? ⟨u.heap.size, 1, none⟩ = some (.int .i64 e.src) ∧ w'.cell? ⟨u.heap.size, 2, none⟩ = some (.int .i64 e.n) ∧ w'.cell? ⟨u.heap.size, 3, none⟩ = some (.int .i64 e.dst) ∧ w'.cell? ⟨u.heap.size, 4, none⟩ = some (.int .i64 e.pay))) (by kernel_rfl) ?_ (fun hHeld => ?_)
      · exact SS.out _ L0.out
      change wpAnyX _ _ _ _ _ _ _ _ _ (World.drew _)
      generalize World.drew _ = u2 at *
      first
        | refine tx0 0 (oi := ⟨_, _, _, _, _, _⟩) rfl ?_
        | refine tx1 0 (oi := ⟨_, _, _, _, _, _⟩) (v := ?_) rfl ?_ ?_; rotate_left; · (intro w5 hSw; (try dsimp only at hSw); go_simp; (try with_reducible rfl))
      try go_frame
      first
        | refine tx0 2 (oi := ⟨_, _, _, _, _, _⟩) rfl ?_
        | refine tx1 2 (oi := ⟨_, _, _, _, _, _⟩) (v := ?_) rfl ?_ ?_; rotate_left; · (intro w5 hSw; (try dsimp only at hSw); go_simp; (try with_reducible rfl))
      try go_frame
      first
        | refine tx0 3 (oi := ⟨_, _, _, _, _, _⟩) rfl ?_
        | refine tx1 3 (oi := ⟨_, _, _, _, _, _⟩) (v := ?_) rfl ?_ ?_; rotate_left; · (intro w5 hSw; (try dsimp only at hSw); go_simp; (try with_reducible rfl))
      try go_frame
      first
        | refine tx0 4 (oi := ⟨_, _, _, _, _, _⟩) rfl ?_
        | refine tx1 4 (oi := ⟨_, _, _, _, _, _⟩) (v := ?_) rfl ?_ ?_; rotate_left; · (intro w5 hSw; (try dsimp only at hSw); go_simp; (try with_reducible rfl))
      try go_frame
      first
        | refine tx0 5 (oi := ⟨_, _, _, _, _, _⟩) rfl ?_
        | refine tx1 5 (oi := ⟨_, _, _, _, _, _⟩) (v := ?_) rfl ?_ ?_; rotate_left; · (intro w5 hSw; (try dsimp only at hSw); go_simp; (try with_reducible rfl))
      try go_frame
      first
        | refine tx0 6 (oi := ⟨_, _, _, _, _, _⟩) rfl ?_
        | refine tx1 6 (oi := ⟨_, _, _, _, _, _⟩) (v := ?_) rfl ?_ ?_; rotate_left; · (intro w5 hSw; (try dsimp only at hSw); go_simp; (try with_reducible rfl))
      try go_frame
      refine tx1 7 (oi := ⟨_, _, _, _, _, _⟩) (v := ?_) rfl ?_ ?_; rotate_left; · (intro w5 hSw; have h7 := HS.out x.W.length hpn w5; (try dsimp only at hSw); go_simp; (try with_reducible rfl))
      try go_frame
      first
        | refine tx0 9 (oi := ⟨_, _, _, _, _, _⟩) rfl ?_
        | refine tx1 9 (oi := ⟨_, _, _, _, _, _⟩) (v := ?_) rfl ?_ ?_; rotate_left; · (intro w5 hSw; (try dsimp only at hSw); go_simp; (try with_reducible rfl))
      try go_frame
      first
        | refine tx0 12 (oi := ⟨_, _, _, _, _, _⟩) rfl ?_
        | refine tx1 12 (oi := ⟨_, _, _, _, _, _⟩) (v := ?_) rfl ?_ ?_; rotate_left; · (intro w5 hSw; (try dsimp only at hSw); go_simp; (try with_reducible rfl))
      try go_frame
      first
        | refine tx0 13 (oi := ⟨_, _, _, _, _, _⟩) rfl ?_
        | refine tx1 13 (oi := ⟨_, _, _, _, _, _⟩) (v := ?_) rfl ?_ ?_; rotate_left; · (intro w5 hSw; (try dsimp only at hSw); go_simp; (try with_reducible rfl))
      try go_frame
      first
        | refine tx0 14 (oi := ⟨_, _, _, _, _, _⟩) rfl ?_
        | refine tx1 14 (oi := ⟨_, _, _, _, _, _⟩) (v := ?_) rfl ?_ ?_; rotate_left; · (intro w5 hSw; (try dsimp only at hSw); go_simp; (try with_reducible rfl))
      try go_frame
      first
        | refine tx0 15 (oi := ⟨_, _, _, _, _, _⟩) rfl ?_
        | refine tx1 15 (oi := ⟨_, _, _, _, _, _⟩) (v := ?_) rfl ?_ ?_; rotate_left; · (intro w5 hSw; (try dsimp only at hSw); go_simp; (try with_reducible rfl))
      try go_frame
      first
        | refine tx0 16 (oi := ⟨_, _, _, _, _, _⟩) rfl ?_
        | refine tx1 16 (oi := ⟨_, _, _, _, _, _⟩) (v := ?_) rfl ?_ ?_; rotate_left; · (intro w5 hSw; (try dsimp only at hSw); go_simp; (try with_reducible rfl))
      try go_frame
      refine tx1 17 (oi := ⟨_, _, _, _, _, _⟩) (v := ?_) rfl ?_ ?_; rotate_left; · (intro w5 hSw; have h7 := HL.out x.W.length hpn w5; (try dsimp only at hSw); go_simp; (try with_reducible rfl))
      try go_frame
      refine wpAnyX_ready (rs := [1, 10]) (by kernel_rfl) (by simp) ?_
      refine AllReadyX.cons (o := ⟨_, _, _, _, _, _⟩) rfl (fun K hK => ?_) (AllReadyX.cons (o := ⟨_, _, _, _, _, _⟩) rfl (fun K hK => ?_) AllReadyX.nil)
      · have L3 := Lib.hid (L0.out.trans ((balloc u2 (.cells #[] 41)).mono L0.out.size))
        have B1 : Hid ((u2.alloc (.cells #[] 41)).ownsRow u1.heap.size 41 5 (.slice (some ⟨u2.heap.size, 0, none⟩) 0 0) (0) ([])) := World.ownsRow_lit (base := u1.heap.size) (e := 41) (size := 5) u2 #[] 0 L0.out.size (by decide) rfl
        go_simp
        refine hK.out _ _ ?_ (fun hHeld => ?_)
        · exact SS.out _ L3.out
        clear hK K
        try go_frame
        generalize hw1 : u2.alloc (.cells #[] 41) = u3 at *
        refine wpAnyX_ready (rs := [8, 10]) (by kernel_rfl) (by simp) ?_
        refine AllReadyX.cons (o := ⟨_, _, _, _, _, _⟩) rfl (fun K hK => ?_) (AllReadyX.cons (o := ⟨_, _, _, _, _, _⟩) rfl (fun K hK => ?_) AllReadyX.nil)
        · refine step_append_any rfl (.tmp 27) (.tmp 33) 50 rfl u1.heap.size 41 i0 (.agg #[.float .f64 0, .int .i64 0, .int .i64 0, .int .i64 0, .int .i64 0]) 5 40 Tryz.underlying50 hi0 hz0 hz1 hz2 rfl (by decide) (.slice (some ⟨u2.heap.size, 0, none⟩) 0 0) 0 _ (by simp [Act.eval]) B1.out (gV8 (evF x.W)) (x.W.length) (.slice aW (x.W.length) c) (by simp [Act.eval]) (HT.out x.W.length hpn _ L3.out) (fun _ _ _ _ => gV8_one _ _ _) (by unfold maxLen; omega) (by omega) L3.out.size (x.W.length) (Nat.zero_add _) ?_
          intro a8 c8 u4 hown8 hgr8
          have L4 := Lib.hid (L3.out.trans (below_grown B1.out L3.out.size hgr8))
          have O8 : Hid (u4.ownsRow u1.heap.size 41 5 (.slice a8 (x.W.length) c8) (x.W.length) (rowCells 5 (gV8 (evF x.W)) (x.W.length))) := hown8
          refine hK.out _ _ ?_ (fun hHeld => ?_)
          · exact SS.out _ L4.out
          clear hK K
          try go_frame
          refine wpAnyX_ready (rs := [10]) (by kernel_rfl) (by simp) ?_
          refine AllReadyX.cons (o := ⟨_, _, _, _, _, _⟩) rfl (fun K hK => ?_) AllReadyX.nil
          have L5 := Lib.hid (L4.out.trans ((balloc u4 (.cells #[.float .f64 e.t, .int .i64 e.src, .int .i64 e.n, .int .i64 e.dst, .int .i64 e.pay] 41)).mono L4.out.size))
          have B10 : Hid ((u4.alloc (.cells #[.float .f64 e.t, .int .i64 e.src, .int .i64 e.n, .int .i64 e.dst, .int .i64 e.pay] 41)).ownsRow u1.heap.size 41 5 (.slice (some ⟨u4.heap.size, 0, none⟩) 1 1) (1) (rowCells 5 (gV8 fun _ => e) 1)) := World.ownsRow_lit (base := u1.heap.size) (e := 41) (size := 5) u4 #[.float .f64 e.t, .int .i64 e.src, .int .i64 e.n, .int .i64 e.dst, .int .i64 e.pay] 1 L4.out.size (by decide) rfl
          go_simp
          refine hK.out _ _ ?_ (fun hHeld => ?_)
          · exact SS.out _ L5.out
          clear hK K
          try go_frame
          generalize hw10 : u4.alloc (.cells #[.float .f64 e.t, .int .i64 e.src, .int .i64 e.n, .int .i64 e.dst, .int .i64 e.pay] 41) = u5 at *
          have hbk : Below u4.heap.size u4 u5 := by rw [← hw10]; exact balloc u4 (.cells #[.float .f64 e.t, .int .i64 e.src, .int .i64 e.n, .int .i64 e.dst, .int .i64 e.pay] 41)
          have O8n := own_below O8.out hbk
          clear O8
          have O8 := Lib.hid O8n
          refine wpAnyX_ready (rs := [11]) (by kernel_rfl) (by simp) ?_
          refine AllReadyX.cons (o := ⟨_, _, _, _, _, _⟩) rfl (fun K hK => ?_) AllReadyX.nil
          refine step_append_any rfl (.tmp 34) (.tmp 36) 50 rfl u1.heap.size 41 i0 (.agg #[.float .f64 0, .int .i64 0, .int .i64 0, .int .i64 0, .int .i64 0]) 5 40 Tryz.underlying50 hi0 hz0 hz1 hz2 rfl (by decide) (.slice a8 (x.W.length) c8) (x.W.length) _ (by simp [Act.eval]) O8.out (gV8 fun _ => e) 1 (.slice (some ⟨u4.heap.size, 0, none⟩) 1 1) (by simp [Act.eval]) (own_sl B10.out) (fun _ _ _ _ => gV8_one _ _ _) (by unfold maxLen; omega) (by omega) L5.out.size (x.W.length + 1) rfl ?_
          intro a9 c9 w9 hown9 hgr9
          have L9 := Lib.hid (L5.out.trans (below_grown O8.out L5.out.size hgr9))
          have O9 : Hid (w9.ownsRow u1.heap.size 41 5 (.slice a9 (x.W.length + 1) c9) (x.W.length + 1) (rowCells 5 (gV8 (evF x.W)) (x.W.length) ++ rowCells 5 (gV8 fun _ => e) 1)) := hown9
          refine hK.out _ _ ?_ (fun hHeld => ?_)
          · exact SS.out _ L9.out
          clear hK K
          try go_frame
          clear hown9 hgr9
          refine wpAnyX_ready (rs := [18]) (by kernel_rfl) (by simp) ?_
          refine AllReadyX.cons (o := ⟨_, _, _, _, _, _⟩) rfl (fun K hK => ?_) AllReadyX.nil
          refine step_append_any rfl (.tmp 37) (.tmp 43) 50 rfl u1.heap.size 41 i0 (.agg #[.float .f64 0, .int .i64 0, .int .i64 0, .int .i64 0, .int .i64 0]) 5 40 Tryz.underlying50 hi0 hz0 hz1 hz2 rfl (by decide) (.slice a9 (x.W.length + 1) c9) (x.W.length + 1) _ (by simp [Act.eval]) O9.out (fun i => gV8 (evF x.W) (i + x.W.length)) (x.W.length - x.W.length) (.slice (dropA aW c (x.W.length) 5) (x.W.length - x.W.length) (c - x.W.length)) (by simp [Act.eval]) (HD.out x.W.length hpn _ L9.out) (fun _ _ _ _ => gV8_one _ _ _) (by unfold maxLen; omega) (by omega) L9.out.size (x.W.length + 1) (by omega) ?_
          intro aN cN wN hownN hgrN
          have LN := Lib.hid (L9.out.trans (below_grown O9.out L9.out.size hgrN))
          have ON : Hid (wN.ownsRow u1.heap.size 41 5 (.slice aN (x.W.length + 1) cN) (x.W.length + 1) (rowCells 5 (gV8 (evF (insE e x.W))) (x.W.length + 1))) := by
            have h := hownN
            rw [cells_ins2 HPL.out] at h
            exact h
          refine hK.out _ _ ?_ (fun hHeld => ?_)
          · exact SS.out _ LN.out
          clear hK K
          try go_frame
          clear hownN hgrN
          refine wpAnyX_ready (rs := [19]) (by kernel_rfl) (by simp) ?_
          refine AllReadyX.cons (o := ⟨_, _, _, _, _, _⟩) rfl (fun K hK => ?_) AllReadyX.nil
          go_simp
          refine hK.out _ _ ?_ (fun hHeld => ?_)
          · exact SS.out _ LN.out
          clear hK K
          try go_frame
          refine wpAnyX_ready (rs := [20]) (by kernel_rfl) (by simp) ?_
          refine AllReadyX.cons (o := ⟨_, _, _, _, _, _⟩) rfl (fun K hK => ?_) AllReadyX.nil
          go_simp
          refine hK.out _ _ ?_ (fun hHeld => ?_)
          · exact SS.out _ LN.out
          clear hK K
          try go_frame
          refine wpAnyX_last (o := ⟨_, _, _, _, _, _⟩) (by kernel_rfl) rfl (fun K hK => ?_) (by kernel_rfl)
          have RN := Lib.hid (R1.out.below LN.out)
          have hfz := RN.out.cells.2.2.2.2.2.2.2.2.2 7
          have hcw := RN.out.cells.2.2.2.2.2.2.2.1
          have FIN := Lib.hid (rput_fin RN.out ON.out R1.out.lo)
          go_simp
          refine hK.out _ _ ?_
          clear hK K
          try go_frame
          go_wp2_with fail
          exact bodyPost_end (v := .tuple #[]) (by simp [results, Tryz.results29, go_sem]) rfl ⟨rfl, ⟨_, FIN.out⟩, ((Kp.of (tb := P) B0.out).trans (Kp.of (tb := P) LN.out)).trans (Kp.set P 7 _ wN)⟩
        · have L4 := Lib.hid (L3.out.trans ((balloc u3 (.cells #[.float .f64 e.t, .int .i64 e.src, .int .i64 e.n, .int .i64 e.dst, .int .i64 e.pay] 41)).mono L3.out.size))
          have B10 : Hid ((u3.alloc (.cells #[.float .f64 e.t, .int .i64 e.src, .int .i64 e.n, .int .i64 e.dst, .int .i64 e.pay] 41)).ownsRow u1.heap.size 41 5 (.slice (some ⟨u3.heap.size, 0, none⟩) 1 1) (1) (rowCells 5 (gV8 fun _ => e) 1)) := World.ownsRow_lit (base := u1.heap.size) (e := 41) (size := 5) u3 #[.float .f64 e.t, .int .i64 e.src, .int .i64 e.n, .int .i64 e.dst, .int .i64 e.pay] 1 L3.out.size (by decide) rfl
          go_simp
          refine hK.out _ _ ?_ (fun hHeld => ?_)
          · exact SS.out _ L4.out
          clear hK K
          try go_frame
          generalize hw10 : u3.alloc (.cells #[.float .f64 e.t, .int .i64 e.src, .int .i64 e.n, .int .i64 e.dst, .int .i64 e.pay] 41) = u4 at *
          have hne : u3.heap.size ≠ u2.heap.size := by rw [← hw1]; exact alloc_ne _ _
          have hbk : Below u3.heap.size u3 u4 := by rw [← hw10]; exact balloc u3 (.cells #[.float .f64 e.t, .int .i64 e.src, .int .i64 e.n, .int .i64 e.dst, .int .i64 e.pay] 41)
          have B1n := Lib.hid (own_below B1.out hbk)
          refine wpAnyX_ready (rs := [8]) (by kernel_rfl) (by simp) ?_
          refine AllReadyX.cons (o := ⟨_, _, _, _, _, _⟩) rfl (fun K hK => ?_) AllReadyX.nil
          refine step_append_any rfl (.tmp 27) (.tmp 33) 50 rfl u1.heap.size 41 i0 (.agg #[.float .f64 0, .int .i64 0, .int .i64 0, .int .i64 0, .int .i64 0]) 5 40 Tryz.underlying50 hi0 hz0 hz1 hz2 rfl (by decide) (.slice (some ⟨u2.heap.size, 0, none⟩) 0 0) 0 _ (by simp [Act.eval]) B1n.out (gV8 (evF x.W)) (x.W.length) (.slice aW (x.W.length) c) (by simp [Act.eval]) (HT.out x.W.length hpn _ L4.out) (fun _ _ _ _ => gV8_one _ _ _) (by unfold maxLen; omega) (by omega) L4.out.size (x.W.length) (Nat.zero_add _) ?_
          intro a8 c8 u5 hown8 hgr8
          have L5 := Lib.hid (L4.out.trans (below_grown B1n.out L4.out.size hgr8))
          have O8 : Hid (u5.ownsRow u1.heap.size 41 5 (.slice a8 (x.W.length) c8) (x.W.length) (rowCells 5 (gV8 (evF x.W)) (x.W.length))) := hown8
          have B10n := Lib.hid (own_past B10.out hgr8 (fun g hg => by simp [Value.ownBlock] at hg ⊢; omega))
          refine hK.out _ _ ?_ (fun hHeld => ?_)
          · exact SS.out _ L5.out
          clear hK K
          try go_frame
          refine wpAnyX_ready (rs := [11]) (by kernel_rfl) (by simp) ?_
          refine AllReadyX.cons (o := ⟨_, _, _, _, _, _⟩) rfl (fun K hK => ?_) AllReadyX.nil
          refine step_append_any rfl (.tmp 34) (.tmp 36) 50 rfl u1.heap.size 41 i0 (.agg #[.float .f64 0, .int .i64 0, .int .i64 0, .int .i64 0, .int .i64 0]) 5 40 Tryz.underlying50 hi0 hz0 hz1 hz2 rfl (by decide) (.slice a8 (x.W.length) c8) (x.W.length) _ (by simp [Act.eval]) O8.out (gV8 fun _ => e) 1 (.slice (some ⟨u3.heap.size, 0, none⟩) 1 1) (by simp [Act.eval]) (own_sl B10n.out) (fun _ _ _ _ => gV8_one _ _ _) (by unfold maxLen; omega) (by omega) L5.out.size (x.W.length + 1) rfl ?_
          intro a9 c9 w9 hown9 hgr9
          have L9 := Lib.hid (L5.out.trans (below_grown O8.out L5.out.size hgr9))
          have O9 : Hid (w9.ownsRow u1.heap.size 41 5 (.slice a9 (x.W.length + 1) c9) (x.W.length + 1) (rowCells 5 (gV8 (evF x.W)) (x.W.length) ++ rowCells 5 (gV8 fun _ => e) 1)) := hown9
          refine hK.out _ _ ?_ (fun hHeld => ?_)
          · exact SS.out _ L9.out
          clear hK K
          try go_frame
          clear hown9 hgr9
          refine wpAnyX_ready (rs := [18]) (by kernel_rfl) (by simp) ?_
          refine AllReadyX.cons (o := ⟨_, _, _, _, _, _⟩) rfl (fun K hK => ?_) AllReadyX.nil
          refine step_append_any rfl (.tmp 37) (.tmp 43) 50 rfl u1.heap.size 41 i0 (.agg #[.float .f64 0, .int .i64 0, .int .i64 0, .int .i64 0, .int .i64 0]) 5 40 Tryz.underlying50 hi0 hz0 hz1 hz2 rfl (by decide) (.slice a9 (x.W.length + 1) c9) (x.W.length + 1) _ (by simp [Act.eval]) O9.out (fun i => gV8 (evF x.W) (i + x.W.length)) (x.W.length - x.W.length) (.slice (dropA aW c (x.W.length) 5) (x.W.length - x.W.length) (c - x.W.length)) (by simp [Act.eval]) (HD.out x.W.length hpn _ L9.out) (fun _ _ _ _ => gV8_one _ _ _) (by unfold maxLen; omega) (by omega) L9.out.size (x.W.length + 1) (by omega) ?_
          intro aN cN wN hownN hgrN
          have LN := Lib.hid (L9.out.trans (below_grown O9.out L9.out.size hgrN))
          have ON : Hid (wN.ownsRow u1.heap.size 41 5 (.slice aN (x.W.length + 1) cN) (x.W.length + 1) (rowCells 5 (gV8 (evF (insE e x.W))) (x.W.length + 1))) := by
            have h := hownN
            rw [cells_ins2 HPL.out] at h
            exact h
          refine hK.out _ _ ?_ (fun hHeld => ?_)
          · exact SS.out _ LN.out
          clear hK K
          try go_frame
          clear hownN hgrN
          refine wpAnyX_ready (rs := [19]) (by kernel_rfl) (by simp) ?_
          refine AllReadyX.cons (o := ⟨_, _, _, _, _, _⟩) rfl (fun K hK => ?_) AllReadyX.nil
          go_simp
          refine hK.out _ _ ?_ (fun hHeld => ?_)
          · exact SS.out _ LN.out
          clear hK K
          try go_frame
          refine wpAnyX_ready (rs := [20]) (by kernel_rfl) (by simp) ?_
          refine AllReadyX.cons (o := ⟨_, _, _, _, _, _⟩) rfl (fun K hK => ?_) AllReadyX.nil
          go_simp
          refine hK.out _ _ ?_ (fun hHeld => ?_)
          · exact SS.out _ LN.out
          clear hK K
          try go_frame
          refine wpAnyX_last (o := ⟨_, _, _, _, _, _⟩) (by kernel_rfl) rfl (fun K hK => ?_) (by kernel_rfl)
          have RN := Lib.hid (R1.out.below LN.out)
          have hfz := RN.out.cells.2.2.2.2.2.2.2.2.2 7
          have hcw := RN.out.cells.2.2.2.2.2.2.2.1
          have FIN := Lib.hid (rput_fin RN.out ON.out R1.out.lo)
          go_simp
          refine hK.out _ _ ?_
          clear hK K
          try go_frame
          go_wp2_with fail
          exact bodyPost_end (v := .tuple #[]) (by simp [results, Tryz.results29, go_sem]) rfl ⟨rfl, ⟨_, FIN.out⟩, ((Kp.of (tb := P) B0.out).trans (Kp.of (tb := P) LN.out)).trans (Kp.set P 7 _ wN)⟩
      · have L3 := Lib.hid (L0.out.trans ((balloc u2 (.cells #[.float .f64 e.t, .int .i64 e.src, .int .i64 e.n, .int .i64 e.dst, .int .i64 e.pay] 41)).mono L0.out.size))
        have B10 : Hid ((u2.alloc (.cells #[.float .f64 e.t, .int .i64 e.src, .int .i64 e.n, .int .i64 e.dst, .int .i64 e.pay] 41)).ownsRow u1.heap.size 41 5 (.slice (some ⟨u2.heap.size, 0, none⟩) 1 1) (1) (rowCells 5 (gV8 fun _ => e) 1)) := World.ownsRow_lit (base := u1.heap.size) (e := 41) (size := 5) u2 #[.float .f64 e.t, .int .i64 e.src, .int .i64 e.n, .int .i64 e.dst, .int .i64 e.pay] 1 L0.out.size (by decide) rfl
        go_simp
        refine hK.out _ _ ?_ (fun hHeld => ?_)
        · exact SS.out _ L3.out
        clear hK K
        try go_frame
        generalize hw10 : u2.alloc (.cells #[.float .f64 e.t, .int .i64 e.src, .int .i64 e.n, .int .i64 e.dst, .int .i64 e.pay] 41) = u3 at *
        refine wpAnyX_ready (rs := [1]) (by kernel_rfl) (by simp) ?_
        refine AllReadyX.cons (o := ⟨_, _, _, _, _, _⟩) rfl (fun K hK => ?_) AllReadyX.nil
        have L4 := Lib.hid (L3.out.trans ((balloc u3 (.cells #[] 41)).mono L3.out.size))
        have B1 : Hid ((u3.alloc (.cells #[] 41)).ownsRow u1.heap.size 41 5 (.slice (some ⟨u3.heap.size, 0, none⟩) 0 0) (0) ([])) := World.ownsRow_lit (base := u1.heap.size) (e := 41) (size := 5) u3 #[] 0 L3.out.size (by decide) rfl
        go_simp
        refine hK.out _ _ ?_ (fun hHeld => ?_)
        · exact SS.out _ L4.out
        clear hK K
        try go_frame
        generalize hw1 : u3.alloc (.cells #[] 41) = u4 at *
        have hne : u3.heap.size ≠ u2.heap.size := by rw [← hw10]; exact alloc_ne _ _
        have hbk : Below u3.heap.size u3 u4 := by rw [← hw1]; exact balloc u3 (.cells #[] 41)
        have B10m := Lib.hid (own_below B10.out hbk)
        refine wpAnyX_ready (rs := [8]) (by kernel_rfl) (by simp) ?_
        refine AllReadyX.cons (o := ⟨_, _, _, _, _, _⟩) rfl (fun K hK => ?_) AllReadyX.nil
        refine step_append_any rfl (.tmp 27) (.tmp 33) 50 rfl u1.heap.size 41 i0 (.agg #[.float .f64 0, .int .i64 0, .int .i64 0, .int .i64 0, .int .i64 0]) 5 40 Tryz.underlying50 hi0 hz0 hz1 hz2 rfl (by decide) (.slice (some ⟨u3.heap.size, 0, none⟩) 0 0) 0 _ (by simp [Act.eval]) B1.out (gV8 (evF x.W)) (x.W.length) (.slice aW (x.W.length) c) (by simp [Act.eval]) (HT.out x.W.length hpn _ L4.out) (fun _ _ _ _ => gV8_one _ _ _) (by unfold maxLen; omega) (by omega) L4.out.size (x.W.length) (Nat.zero_add _) ?_
        intro a8 c8 u5 hown8 hgr8
        have L5 := Lib.hid (L4.out.trans (below_grown B1.out L4.out.size hgr8))
        have O8 : Hid (u5.ownsRow u1.heap.size 41 5 (.slice a8 (x.W.length) c8) (x.W.length) (rowCells 5 (gV8 (evF x.W)) (x.W.length))) := hown8
        have B10n := Lib.hid (own_past B10m.out hgr8 (fun g hg => by simp [Value.ownBlock] at hg ⊢; omega))
        refine hK.out _ _ ?_ (fun hHeld => ?_)
        · exact SS.out _ L5.out
        clear hK K
        try go_frame
        refine wpAnyX_ready (rs := [11]) (by kernel_rfl) (by simp) ?_
        refine AllReadyX.cons (o := ⟨_, _, _, _, _, _⟩) rfl (fun K hK => ?_) AllReadyX.nil
        refine step_append_any rfl (.tmp 34) (.tmp 36) 50 rfl u1.heap.size 41 i0 (.agg #[.float .f64 0, .int .i64 0, .int .i64 0, .int .i64 0, .int .i64 0]) 5 40 Tryz.underlying50 hi0 hz0 hz1 hz2 rfl (by decide) (.slice a8 (x.W.length) c8) (x.W.length) _ (by simp [Act.eval]) O8.out (gV8 fun _ => e) 1 (.slice (some ⟨u2.heap.size, 0, none⟩) 1 1) (by simp [Act.eval]) (own_sl B10n.out) (fun _ _ _ _ => gV8_one _ _ _) (by unfold maxLen; omega) (by omega) L5.out.size (x.W.length + 1) rfl ?_
        intro a9 c9 w9 hown9 hgr9
        have L9 := Lib.hid (L5.out.trans (below_grown O8.out L5.out.size hgr9))
        have O9 : Hid (w9.ownsRow u1.heap.size 41 5 (.slice a9 (x.W.length + 1) c9) (x.W.length + 1) (rowCells 5 (gV8 (evF x.W)) (x.W.length) ++ rowCells 5 (gV8 fun _ => e) 1)) := hown9
        refine hK.out _ _ ?_ (fun hHeld => ?_)
        · exact SS.out _ L9.out
        clear hK K
        try go_frame
        clear hown9 hgr9
        refine wpAnyX_ready (rs := [18]) (by kernel_rfl) (by simp) ?_
        refine AllReadyX.cons (o := ⟨_, _, _, _, _, _⟩) rfl (fun K hK => ?_) AllReadyX.nil
        refine step_append_any rfl (.tmp 37) (.tmp 43) 50 rfl u1.heap.size 41 i0 (.agg #[.float .f64 0, .int .i64 0, .int .i64 0, .int .i64 0, .int .i64 0]) 5 40 Tryz.underlying50 hi0 hz0 hz1 hz2 rfl (by decide) (.slice a9 (x.W.length + 1) c9) (x.W.length + 1) _ (by simp [Act.eval]) O9.out (fun i => gV8 (evF x.W) (i + x.W.length)) (x.W.length - x.W.length) (.slice (dropA aW c (x.W.length) 5) (x.W.length - x.W.length) (c - x.W.length)) (by simp [Act.eval]) (HD.out x.W.length hpn _ L9.out) (fun _ _ _ _ => gV8_one _ _ _) (by unfold maxLen; omega) (by omega) L9.out.size (x.W.length + 1) (by omega) ?_
        intro aN cN wN hownN hgrN
        have LN := Lib.hid (L9.out.trans (below_grown O9.out L9.out.size hgrN))
        have ON : Hid (wN.ownsRow u1.heap.size 41 5 (.slice aN (x.W.length + 1) cN) (x.W.length + 1) (rowCells 5 (gV8 (evF (insE e x.W))) (x.W.length + 1))) := by
          have h := hownN
          rw [cells_ins2 HPL.out] at h
          exact h
        refine hK.out _ _ ?_ (fun hHeld => ?_)
        · exact SS.out _ LN.out
        clear hK K
        try go_frame
        clear hownN hgrN
        refine wpAnyX_ready (rs := [19]) (by kernel_rfl) (by simp) ?_
        refine AllReadyX.cons (o := ⟨_, _, _, _, _, _⟩) rfl (fun K hK => ?_) AllReadyX.nil
        go_simp
        refine hK.out _ _ ?_ (fun hHeld => ?_)
        · exact SS.out _ LN.out
        clear hK K
        try go_frame
        refine wpAnyX_ready (rs := [20]) (by kernel_rfl) (by simp) ?_
        refine AllReadyX.cons (o := ⟨_, _, _, _, _, _⟩) rfl (fun K hK => ?_) AllReadyX.nil
        go_simp
        refine hK.out _ _ ?_ (fun hHeld => ?_)
        · exact SS.out _ LN.out
        clear hK K
        try go_frame
        refine wpAnyX_last (o := ⟨_, _, _, _, _, _⟩) (by kernel_rfl) rfl (fun K hK => ?_) (by kernel_rfl)
        have RN := Lib.hid (R1.out.below LN.out)
        have hfz := RN.out.cells.2.2.2.2.2.2.2.2.2 7
        have hcw := RN.out.cells.2.2.2.2.2.2.2.1
        have FIN := Lib.hid (rput_fin RN.out ON.out R1.out.lo)
        go_simp
        refine hK.out _ _ ?_
        clear hK K
        try go_frame
        go_wp2_with fail
        exact bodyPost_end (v := .tuple #[]) (by simp [results, Tryz.results29, go_sem]) rfl ⟨rfl, ⟨_, FIN.out⟩, ((Kp.of (tb := P) B0.out).trans (Kp.of (tb := P) LN.out)).trans (Kp.set P 7 _ wN)⟩

end Go.Proofs.YthkfaeplmmlnlaaGreat
