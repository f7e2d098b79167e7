/- The contract of the document's New. The contracts of the program's Copy, isProcess, isCount, delayOf. The contracts of the small functions that Check asks. What mayBeIn makes. -/
import Derived.Test.YthkfaeplmmlnlaaGreatRPlainRPut
import Derived.Test.YthkfaeplmmlnlaaGreatRZ0
import Derived.Test.YthkfaeplmmlnlaaGreatRZ10
import Derived.Test.YthkfaeplmmlnlaaGreatRZ1
import Derived.Test.YthkfaeplmmlnlaaGreatRZ7
import Derived.Test.YthkfaeplmmlnlaaGreatRZ6
namespace Go.Proofs.YthkfaeplmmlnlaaGreat
open Go.RowKit Go.Deep
set_option linter.unusedVariables false
set_option maxRecDepth 100000

theorem info_state9 : (Tryz.prog.info? 55).map (fun i => (i.zero, i.size, i.bytes)) = some (some (.agg #[.slice none 0 0, .int .i64 0, .int .i64 0]), 3, 40) := by kernel_rfl
/-- states laid one by one -/
structure NwI (P : Nat) (m : Mdl) (vd vp vl vi : Value) (j : Nat) (vS : Value) (g : Nat → Value) (w2 u : World) : Prop where
  box : u.heap[P]? = some (.cells (rbox m vd vp vl vi vS (.slice none 0 0) (.slice none 0 0)).toArray 52 (0, 0))
  st : u.ownsRow w2.heap.size 55 3 vS j (rowCells 3 (gT (fun k => firstS m k) g) j)
  wd : ∀ k, k < j → u.ownsRow w2.heap.size 3 1 (g k) (m.wl k) (rowCells 1 (gW (m.wd k)) (m.wl k))
  kp : Kp P w2 u
section
variable {P : Nat} {m : Mdl} {vd vp vl vi : Value} {j : Nat} {vS : Value} {g : Nat → Value} {w2 u u3 u4 : World}
theorem own_set_other {w : World} {b C n : Nat} {E : TypeId} {v : Value} {xs : List Value} (h : w.ownsRow b E C v n xs) (hP : P < b) (o : Nat) (x : Value) : (w.setCell ⟨P, o, none⟩ x).ownsRow b E C v n xs :=
  own_kept h fun q hq => Below.heap_setCell w ⟨P, o, none⟩ x q (by have := (own_lt h hq).1; show q ≠ P; omega)
theorem NwI.next (h : NwI P m vd vp vl vi j vS g w2 u) (hP : P < w2.heap.size) {vI vS2 : Value} (k3 : Below u.heap.size u u3)
    (hw : u3.ownsRow w2.heap.size 3 1 vI (firstS m j).nw (rowCells 1 (gW (firstS m j).w) (firstS m j).nw)) (hg : u3.grownBy u4 vS.ownBlock)
    (ho : u4.ownsRow w2.heap.size 55 3 vS2 (j + 1) (rowCells 3 (gT (fun k => firstS m k) g) j ++ rowCells 3 (fun _ c => gT (fun k => firstS m k) (fun _ => vI) j c) 1)) :
    NwI P m vd vp vl vi (j + 1) vS2 (fun k => if k = j then vI else g k) w2 (u4.setCell ⟨P, 6, none⟩ vS2) := by
  have h3 := own_below h.st k3
  have hB : w2.heap.size ≤ u3.heap.size := by have := h.kp.size; have := k3.size; omega
  refine ⟨?_, ?_, fun k hk => ?_, ?_⟩
  · have b4 := grown_keep7 h3 hg ((k3.block _ (lt_of_block h.box)).trans h.box) (by decide)
    exact Joins.block_setCell (i := 6) b4 vS2
  · have : rowCells 3 (gT (fun k => firstS m k) fun k => if k = j then vI else g k) (j + 1) = rowCells 3 (gT (fun k => firstS m k) g) j ++ rowCells 3 (fun _ c => gT (fun k => firstS m k) (fun _ => vI) j c) 1 := by
      rw [rowCells_append 3 (by decide)]
      refine rowCells_congr (by decide) fun i hi c hc => ?_
      by_cases hij : i < j
      · rw [if_pos hij]
        have hne : i ≠ j := by omega
        rcases c with _ | _ | c
        · show (if i = j then vI else g i) = g i; rw [if_neg hne]
        · rfl
        · rfl
      · obtain rfl : i = j := by omega
        rw [if_neg hij]
        rcases c with _ | _ | c
        · show (if i = i then vI else g i) = vI; rw [if_pos rfl]
        · rfl
        · rfl
    rw [this]
    exact own_set_other ho hP 6 vS2
  · by_cases hkj : k = j
    · subst hkj
      rw [if_pos rfl]
      exact own_set_other (grown_own h3 hg hw (by decide)) hP 6 vS2
    · rw [if_neg hkj]
      exact own_set_other (grown_own h3 hg (own_below (h.wd k (by omega)) k3) (by decide)) hP 6 vS2
  · exact ((h.kp.on k3).low (below_grown h3 hB hg)).trans (Kp.set P 6 vS2 u4)
theorem NwI.sim {S : Nat → Bool} (h : NwI P m vd vp vl vi m.nl vS g w2 u) (hP : S P = true) (lo : ∀ k, S k = true → k < w2.heap.size) (hm : MdlAt m vd vp vl vi (HdS S w2)) (D : Nat → Dn) : RSim S P m vd vp vl vi ⟨fun k => firstS m k, []⟩ 0 D vS (.slice none 0 0) (.slice none 0 0) u := by
  exact ⟨h.box, hP, fun q hq => Nat.lt_of_lt_of_le (lo q hq) h.kp.size, hm.below (h.kp.hds hP), ⟨g, own_sl (own_new lo h.st (Nat.le_refl _)), fun k hk => own_sl (own_new lo (h.wd k hk) (Nat.le_refl _))⟩, sl_none8 _ _ _, sl_none8 _ _ _, .inl ⟨rfl, rfl⟩⟩
theorem insAll_snoc (e : Evn) : ∀ (l W : List Evn), insAll W (l ++ [e]) = insE e (insAll W l)
  | [], W => rfl
  | x :: l, W => insAll_snoc e l (insE x W)
theorem toL_snoc (f : Nat → Evn) (k : Nat) : (List.range (k + 1)).map f = (List.range k).map f ++ [f k] := by rw [List.range_succ, List.map_append]; rfl
end

set_option maxHeartbeats 12800000 in
theorem rnew_any (m : Mdl) (vd vp vl vi : Value) (D : Nat → Dn) (w : World) (S0 : Nat → Bool) (h0 : ∀ k, S0 k = true → k < w.heap.size) (hm : MdlAt m vd vp vl vi (HdS S0 w)) (hl16 : m.nl ≤ 1000) (hi16 : m.ni ≤ 16) (h8 : ∀ k, k < m.nl → m.wl k ≤ 100) :
    Calls Tryz.prog 9 #[mval m vd vp vl vi] w fun r w' => ∃ P vS vW, r = .returned (.pointer (some ⟨P, 0, none⟩)) ∧ w.heap.size ≤ P ∧ RSim (fun q => S0 q || q == P) P m vd vp vl vi (newP m) 0 D vS vW (.slice none 0 0) w' ∧ Below w.heap.size w w' := by
  obtain ⟨i0, hi0, hz0, hz1, hz2⟩ := info_parts info_state9
  have HM := Lib.hid hm
  have H0 := Lib.hid h0
  obtain ⟨_, ⟨al, cl, rfl, _, _, _⟩, _⟩ := id hm.l
  have H8 := Lib.hid h8
  have HRF : Hid (∀ L : Nat, L < m.nl → m.wl L ≤ 100 → ∀ u, MdlAt m vd vp (.slice al m.nl cl) vi u → Calls Tryz.prog 27 #[.agg #[.int .i64 m.seed, .float .f64 m.fin, vd, vp, .slice al m.nl cl, vi], .int .i64 (L : Int)] u fun x w' => ∃ v, x = .returned v ∧ StaAt u.heap.size (firstS m L) v w' ∧ Below u.heap.size u w') := fun L h1 h2 u k => refFirst8_any m _ _ _ _ L u k h1 h2
  have HRB : Hid (∀ u, MdlAt m vd vp (.slice al m.nl cl) vi u → Calls Tryz.prog 28 #[.agg #[.int .i64 m.seed, .float .f64 m.fin, vd, vp, .slice al m.nl cl, vi]] u fun x w' => ∃ v, x = .returned v ∧ EvsAt u.heap.size (beginE m m.ni) v w' ∧ Below u.heap.size u w') := fun u k => refBegin8_any m _ _ _ _ u k.i hi16
  have X1 := Lib.hid (heap_alloc_new w (.cells #[.int .i64 m.seed, .float .f64 m.fin, vd, vp, .slice al m.nl cl, vi] 28))
  have B1 := Lib.hid (balloc w (.cells #[.int .i64 m.seed, .float .f64 m.fin, vd, vp, .slice al m.nl cl, vi] 28))
  have Z1 : Hid ((w.alloc (.cells #[.int .i64 m.seed, .float .f64 m.fin, vd, vp, .slice al m.nl cl, vi] 28)).heap.size = w.heap.size + 1) := World.size_alloc _ _
  clear hm h8 h0
  unfold mval
  go_enter Tryz.func9, Tryz.ntmps9
  go_upto_region 1 with fail
  generalize w.alloc (.cells #[.int .i64 m.seed, .float .f64 m.fin, vd, vp, .slice al m.nl cl, vi] 28) = w1 at *
  obtain ⟨m0, m1, m2, m3, m4, m5⟩ := six_cells7 X1.out
  have X2 := Lib.hid (heap_alloc_new w1 (.cells #[.int .i64 m.seed, .float .f64 m.fin, vd, vp, .slice al m.nl cl, vi, .slice none 0 0, .slice none 0 0, .slice none 0 0] 52))
  have MW2 := Lib.hid ((Below.heap_alloc w1 (.cells #[.int .i64 m.seed, .float .f64 m.fin, vd, vp, .slice al m.nl cl, vi, .slice none 0 0, .slice none 0 0, .slice none 0 0] 52) _ (lt_of_block X1.out)).trans X1.out)
  have B2 := Lib.hid (bthen B1.out (balloc w1 (.cells #[.int .i64 m.seed, .float .f64 m.fin, vd, vp, .slice al m.nl cl, vi, .slice none 0 0, .slice none 0 0, .slice none 0 0] 52)))
  have Z2 : Hid ((w1.alloc (.cells #[.int .i64 m.seed, .float .f64 m.fin, vd, vp, .slice al m.nl cl, vi, .slice none 0 0, .slice none 0 0, .slice none 0 0] 52)).heap.size = w1.heap.size + 1) := World.size_alloc _ _
  go_upto_region 2 with fail
  generalize w1.alloc (.cells #[.int .i64 m.seed, .float .f64 m.fin, vd, vp, .slice al m.nl cl, vi, .slice none 0 0, .slice none 0 0, .slice none 0 0] 52) = w2 at *
  clear m0 m1 m2 m3 m4 m5
  obtain ⟨P, hPe⟩ : ∃ P, P = w1.heap.size := ⟨_, rfl⟩
  rw [← hPe] at X2 Z2 ⊢
  have hPw : w.heap.size < P := by have := Z1.out; omega
  have hP2 : P < w2.heap.size := by have := Z2.out; omega
  have HPE := Lib.hid hPe
  clear hPe
  obtain ⟨S, hSe⟩ : ∃ S, S = fun q => S0 q || q == P := ⟨_, rfl⟩
  have HSP : Hid (S P = true) := Lib.hid (by rw [hSe]; simp)
  have HLO : Hid (∀ k, S k = true → k < w2.heap.size) := fun k hk => by
    rw [hSe] at hk
    simp only [Bool.or_eq_true, beq_iff_eq] at hk
    rcases hk with hk | rfl
    · have := H0.out k hk; omega
    · exact hP2
  have MD2 : Hid (MdlAt m vd vp (.slice al m.nl cl) vi (HdS S w2)) := HM.out.below (by
    rw [HdS.size]
    refine HdS.below2 B2.out (fun k hk => ?_)
    have e1 : k ≠ P := by omega
    rw [hSe]
    show (S0 k || k == P) = S0 k
    rw [beq_eq_false_iff_ne.2 e1, Bool.or_false])
  have HSE := Lib.hid hSe
  clear hSe
  go_wp2_with fail
  go_loopw [4] (fun i wr => ∃ (j : Nat) (vS : Value) (g : Nat → Value), j ≤ m.nl ∧ i = .int .i64 j ∧ NwI P m vd vp (.slice al m.nl cl) vi j vS g w2 wr) (fun i _ => m.nl - (intOf i).toNat)
  case atStart => exact ⟨0, .slice none 0 0, fun _ => .slice none 0 0, Nat.zero_le _, rfl, X2.out, by rw [rowCells_zero]; exact World.ownsRow_nil _ _ _ _, fun k hk => absurd hk (Nat.not_lt_zero k), Kp.refl P w2⟩
  case round =>
    obtain ⟨j, vS, g, hj, rfl, hni⟩ := hrel
    have NI := Lib.hid hni
    clear hni
    have hj0 : (0 : Int) ≤ (j : Int) := by omega
    have MW : Hid (wr.heap[w.heap.size]? = some (.cells #[.int .i64 m.seed, .float .f64 m.fin, vd, vp, .slice al m.nl cl, vi] 28 (0, 0))) := (NI.out.kp.blk (lt_of_block MW2.out) (by omega)).trans MW2.out
    have SS : Hid (∀ w', Below wr.heap.size wr w' → (fun w' => w'.cell? ⟨P, 6, none⟩ = some (vS) ∧ w'.cell? ⟨w.heap.size, 0, none⟩ = some (.int .i64 m.seed) ∧ w'.cell? ⟨w.heap.size, 1, none⟩ = some (.float .f64 m.fin) ∧ w'.cell? ⟨w.heap.size, 2, none⟩ = some (vd) ∧ w'.cell? ⟨w.heap.size, 3, none⟩ = some (vp) ∧ w'.cell? ⟨w.heap.size, 4, none⟩ = some (.slice al m.nl cl) ∧ w'.cell? ⟨w.heap.size, 5, none⟩ = some (vi)) w') := fun w' k => by
      obtain ⟨q0, q1, q2, q3, q4, q5⟩ := six_cells7 ((k.block _ (lt_of_block MW.out)).trans MW.out)
      exact ⟨(by rw [Lib.cell_of_heap ((k.block _ (lt_of_block NI.out.box)).trans NI.out.box)]; rfl), q0, q1, q2, q3, q4, q5⟩
    by_cases hlt : j < m.nl
    · have hj2 : (j : Int) < (m.nl : Int) := by omega
      have d2 : decide (j < m.nl) = true := by simp [hlt]
      obtain ⟨m0, m1, m2, m3, m4, m5⟩ := six_cells7 MW.out
      go_upto_region 5 with fail
      clear m0 m1 m2 m3 m4 m5
      have L0 := Lib.hid (bdrew wr)
      have MD : Hid (MdlAt m vd vp (.slice al m.nl cl) vi (World.drew wr)) := (((MD2.out).below (NI.out.kp.hds HSP.out)).hds).below L0.out
      refine wp_region_x_drew 12 (S := (fun w' => w'.cell? ⟨P, 6, none⟩ = some (vS) ∧ w'.cell? ⟨w.heap.size, 0, none⟩ = some (.int .i64 m.seed) ∧ w'.cell? ⟨w.heap.size, 1, none⟩ = some (.float .f64 m.fin) ∧ w'.cell? ⟨w.heap.size, 2, none⟩ = some (vd) ∧ w'.cell? ⟨w.heap.size, 3, none⟩ = some (vp) ∧ w'.cell? ⟨w.heap.size, 4, none⟩ = some (.slice al m.nl cl) ∧ w'.cell? ⟨w.heap.size, 5, none⟩ = some (vi))) (by kernel_rfl) ?_ (fun hHeld => ?_)
      · exact SS.out _ L0.out
      change wpAnyX _ _ _ _ _ _ _ _ _ (World.drew wr)
      generalize World.drew wr = u0 at *
      first
        | refine tx0 0 (oi := ⟨_, _, _, _, _, _⟩) rfl ?_
        | refine tx1 0 (oi := ⟨_, _, _, _, _, _⟩) (v := ?_) rfl ?_ ?_; rotate_left; · (intro w5 hSw; (try dsimp only at hSw); go_simp; (try with_reducible rfl))
      try go_frame
      first
        | refine tx0 1 (oi := ⟨_, _, _, _, _, _⟩) rfl ?_
        | refine tx1 1 (oi := ⟨_, _, _, _, _, _⟩) (v := ?_) rfl ?_ ?_; rotate_left; · (intro w5 hSw; (try dsimp only at hSw); go_simp; (try with_reducible rfl))
      try go_frame
      first
        | refine tx0 2 (oi := ⟨_, _, _, _, _, _⟩) rfl ?_
        | refine tx1 2 (oi := ⟨_, _, _, _, _, _⟩) (v := ?_) rfl ?_ ?_; rotate_left; · (intro w5 hSw; (try dsimp only at hSw); go_simp; (try with_reducible rfl))
      try go_frame
      first
        | refine tx0 3 (oi := ⟨_, _, _, _, _, _⟩) rfl ?_
        | refine tx1 3 (oi := ⟨_, _, _, _, _, _⟩) (v := ?_) rfl ?_ ?_; rotate_left; · (intro w5 hSw; (try dsimp only at hSw); go_simp; (try with_reducible rfl))
      try go_frame
      first
        | refine tx0 4 (oi := ⟨_, _, _, _, _, _⟩) rfl ?_
        | refine tx1 4 (oi := ⟨_, _, _, _, _, _⟩) (v := ?_) rfl ?_ ?_; rotate_left; · (intro w5 hSw; (try dsimp only at hSw); go_simp; (try with_reducible rfl))
      try go_frame
      first
        | refine tx0 5 (oi := ⟨_, _, _, _, _, _⟩) rfl ?_
        | refine tx1 5 (oi := ⟨_, _, _, _, _, _⟩) (v := ?_) rfl ?_ ?_; rotate_left; · (intro w5 hSw; (try dsimp only at hSw); go_simp; (try with_reducible rfl))
      try go_frame
      first
        | refine tx0 6 (oi := ⟨_, _, _, _, _, _⟩) rfl ?_
        | refine tx1 6 (oi := ⟨_, _, _, _, _, _⟩) (v := ?_) rfl ?_ ?_; rotate_left; · (intro w5 hSw; (try dsimp only at hSw); go_simp; (try with_reducible rfl))
      try go_frame
      refine wpAnyX_ready (rs := [7]) (by kernel_rfl) (by simp) ?_
      refine AllReadyX.cons (o := ⟨_, _, _, _, _, _⟩) rfl (fun K hK => ?_) AllReadyX.nil
      go_simp
      go_at_call 27
      refine (HRF.out j hlt (H8.out j hlt) _ MD.out).mono ?_
      rintro r w1 ⟨v1, rfl, h1, hb1⟩
      obtain ⟨vI, rfl, h1⟩ := h1
      unfold sval
      have L1 := Lib.hid (L0.out.trans (hb1.mono L0.out.size))
      have W1 := Lib.hid (own_lower h1 (show w2.heap.size ≤ u0.heap.size by have := NI.out.kp.size; have := L0.out.size; omega))
      clear h1 hb1
      refine hK.out _ _ ?_ (fun hHeld => ?_)
      · exact SS.out _ L1.out
      clear hK K
      try go_frame
      refine wpAnyX_ready (rs := [8]) (by kernel_rfl) (by simp) ?_
      refine AllReadyX.cons (o := ⟨_, _, _, _, _, _⟩) rfl (fun K hK => ?_) AllReadyX.nil
      have L2 := Lib.hid (L1.out.trans ((balloc w1 (.cells #[vI, .int .i64 (firstS m j).sent, .int .i64 (firstS m j).dice] 55)).mono L1.out.size))
      have W2 := Lib.hid (own_below W1.out (balloc w1 (.cells #[vI, .int .i64 (firstS m j).sent, .int .i64 (firstS m j).dice] 55)))
      have E2 : Hid ((w1.alloc (.cells #[vI, .int .i64 (firstS m j).sent, .int .i64 (firstS m j).dice] 55)).ownsRow w2.heap.size 55 3 (.slice (some ⟨w1.heap.size, 0, none⟩) 1 1) 1 (rowCells 3 (fun _ c => gT (fun k => firstS m k) (fun _ => vI) j c) 1)) := World.ownsRow_lit (base := w2.heap.size) (e := 55) (size := 3) w1 #[vI, .int .i64 (firstS m j).sent, .int .i64 (firstS m j).dice] 1 (by have := NI.out.kp.size; have := L1.out.size; omega) (by decide) rfl
      go_simp
      refine hK.out _ _ ?_ (fun hHeld => ?_)
      · exact SS.out _ L2.out
      clear hK K
      try go_frame
      generalize w1.alloc (.cells #[vI, .int .i64 (firstS m j).sent, .int .i64 (firstS m j).dice] 55) = u3 at *
      have O2 := Lib.hid (own_below NI.out.st L2.out)
      have HB2 := Lib.hid (show w2.heap.size ≤ u3.heap.size by have := NI.out.kp.size; have := L2.out.size; omega)
      refine wpAnyX_ready (rs := [9]) (by kernel_rfl) (by simp) ?_
      refine AllReadyX.cons (o := ⟨_, _, _, _, _, _⟩) rfl (fun K hK => ?_) AllReadyX.nil
      refine step_append_any rfl (.tmp 21) (.tmp 25) 49 rfl w2.heap.size 55 i0 (.agg #[.slice none 0 0, .int .i64 0, .int .i64 0]) 3 40 Tryz.underlying49 hi0 hz0 hz1 hz2 rfl (by decide) vS j _ (by simp [Act.eval]) O2.out (fun _ c => gT (fun k => firstS m k) (fun _ => vI) j c) 1 (.slice (some ⟨w1.heap.size, 0, none⟩) 1 1) (by simp [Act.eval]) (own_sl E2.out) (fun _ _ c _ => ?_) (by unfold maxLen; omega) (by omega) HB2.out (j + 1) rfl ?_
      · obtain ⟨ax, cx, rfl, _⟩ := own_form W2.out
        unfold gT
        split <;> rfl
      intro aN cN u4 hown hgr
      have M4 := Lib.hid (grown_keep7 O2.out hgr ((L2.out.block _ (lt_of_block MW.out)).trans MW.out) (by decide))
      have P4 := Lib.hid (grown_keep7 O2.out hgr ((L2.out.block _ (lt_of_block NI.out.box)).trans NI.out.box) (by decide))
      have NN := Lib.hid (NI.out.next (by omega) L2.out W2.out hgr hown)
      have S4 : Hid ((fun w' => w'.cell? ⟨P, 6, none⟩ = some (vS) ∧ w'.cell? ⟨w.heap.size, 0, none⟩ = some (.int .i64 m.seed) ∧ w'.cell? ⟨w.heap.size, 1, none⟩ = some (.float .f64 m.fin) ∧ w'.cell? ⟨w.heap.size, 2, none⟩ = some (vd) ∧ w'.cell? ⟨w.heap.size, 3, none⟩ = some (vp) ∧ w'.cell? ⟨w.heap.size, 4, none⟩ = some (.slice al m.nl cl) ∧ w'.cell? ⟨w.heap.size, 5, none⟩ = some (vi)) u4) := (by
        obtain ⟨q0, q1, q2, q3, q4, q5⟩ := six_cells7 M4.out
        exact ⟨(by rw [Lib.cell_of_heap P4.out]; rfl), q0, q1, q2, q3, q4, q5⟩)
      refine hK.out _ _ ?_ (fun hHeld => ?_)
      · exact S4.out
      clear hK K
      try go_frame
      clear hown hgr
      refine wpAnyX_ready (rs := [10]) (by kernel_rfl) (by simp) ?_
      refine AllReadyX.cons (o := ⟨_, _, _, _, _, _⟩) rfl (fun K hK => ?_) AllReadyX.nil
      go_simp
      refine hK.out _ _ ?_ (fun hHeld => ?_)
      · exact S4.out
      clear hK K
      try go_frame
      refine wpAnyX_ready (rs := [11]) (by kernel_rfl) (by simp) ?_
      refine AllReadyX.cons (o := ⟨_, _, _, _, _, _⟩) rfl (fun K hK => ?_) AllReadyX.nil
      go_simp
      refine hK.out _ _ ?_ (fun hHeld => ?_)
      · exact S4.out
      clear hK K
      try go_frame
      refine wpAnyX_last (o := ⟨_, _, _, _, _, _⟩) (by kernel_rfl) rfl (fun K hK => ?_) (by kernel_rfl)
      have hfz : u4.frozen? ⟨P, 6, none⟩ = false := Lib.frozen_of_heap P4.out 6
      have hcw : u4.cell? ⟨P, 6, none⟩ = some vS := S4.out.1
      go_simp
      refine hK.out _ _ ?_
      clear hK K
      try go_frame
      clear hfz hcw hHeld
      generalize u4.setCell ⟨P, 6, none⟩ (.slice aN (j + 1) cN) = u5 at *
      go_wp2_with fail
      go_roundw
      case rel => exact ⟨j + 1, _, _, by omega, by go_num, NN.out⟩
      case measure => simp [intOf]; omega
    · obtain rfl : j = m.nl := by omega
      have d2 : decide (m.nl < m.nl) = false := by simp
      have RS := Lib.hid (NI.out.sim HSP.out HLO.out MD2.out D)
      have KP := Lib.hid NI.out.kp
      have MD : Hid (MdlAt m vd vp (.slice al m.nl cl) vi wr) := ((MD2.out).below (NI.out.kp.hds HSP.out)).hds
      obtain ⟨m0, m1, m2, m3, m4, m5⟩ := six_cells7 MW.out
      go_wp2_with (go_at_call 28; refine (HRB.out _ MD.out).mono ?_; rintro x u7 ⟨v7, rfl, h7, hb7⟩; obtain ⟨a7, c7, rfl, h7⟩ := h7)
      have R7 := Lib.hid (RS.out.below hb7)
      have K7 := Lib.hid (KP.out.on hb7)
      have E7 := Lib.hid h7
      have H7 : Hid (∀ k, S k = true → k < wr.heap.size) := fun k hk => Nat.lt_of_lt_of_le (HLO.out k hk) KP.out.size
      clear h7 hb7 m0 m1 m2 m3 m4 m5
      go_loopw [6] (fun i wq => ∃ (k : Nat) (vW : Value), k ≤ (beginE m m.ni).n ∧ i = .int .i64 k ∧ RSim S P m vd vp (.slice al m.nl cl) vi ⟨fun k => firstS m k, insAll [] ((List.range k).map (beginE m m.ni).f)⟩ 0 D vS vW (.slice none 0 0) wq ∧ Kp P u7 wq) (fun i _ => (beginE m m.ni).n - (intOf i).toNat)
      case atStart => exact ⟨0, _, Nat.zero_le _, rfl, R7.out, Kp.refl P u7⟩
      case round =>
        obtain ⟨k, vW, hk, rfl, hrs, hkp⟩ := hrel
        have RQ := Lib.hid hrs
        have KQ := Lib.hid hkp
        clear hrs hkp
        have hk0 : (0 : Int) ≤ (k : Int) := by omega
        have SLq := Lib.hid (((own_sl (own_new (S := S) H7.out E7.out (Nat.le_refl _))).below (KQ.out.hds HSP.out)).hds)
        by_cases hlt : k < (beginE m m.ni).n
        · have hj2 : (k : Int) < ((beginE m m.ni).n : Int) := by omega
          have d3 : decide (k < (beginE m m.ni).n) = true := by simp [hlt]
          obtain ⟨a9, c9, e9, g1, g2, h3⟩ := SLq.out
          simp only [Value.slice.injEq, true_and] at e9
          obtain ⟨rfl, rfl⟩ := e9
          obtain ⟨b, o, rfl, hA⟩ := h3 (by omega)
          have k0 : wr.cell? ⟨b, o + k * 5, none⟩ = some (.float .f64 ((beginE m m.ni).f k).t) := hA.2 k hlt 0 (by omega)
          have k1 : wr.cell? ⟨b, o + k * 5 + 1, none⟩ = some (.int .i64 ((beginE m m.ni).f k).src) := hA.2 k hlt 1 (by omega)
          have k2 : wr.cell? ⟨b, o + k * 5 + 2, none⟩ = some (.int .i64 ((beginE m m.ni).f k).n) := hA.2 k hlt 2 (by omega)
          have k3 : wr.cell? ⟨b, o + k * 5 + 3, none⟩ = some (.int .i64 ((beginE m m.ni).f k).dst) := hA.2 k hlt 3 (by omega)
          have k4 : wr.cell? ⟨b, o + k * 5 + 4, none⟩ = some (.int .i64 ((beginE m m.ni).f k).pay) := hA.2 k hlt 4 (by omega)
          have HPUT := Lib.hid (rput_any S P m vd vp (.slice al m.nl cl) vi _ 0 D vS vW (.slice none 0 0) ((beginE m m.ni).f k) wr RQ.out (by show (insAll [] _).length ≤ 1000; rw [insAll_length]; have := beginE_n m m.ni; simp; omega))
          unfold eval8 at HPUT
          clear h3 hA
          go_wp2_with (go_at_call 29; refine HPUT.out.mono ?_; rintro r w5 ⟨rfl, ⟨vW2, h5⟩, k5⟩; have R5 := Lib.hid h5; have K5 := Lib.hid k5; clear h5 k5 k0 k1 k2 k3 k4)
          go_roundw
          case rel => exact ⟨k + 1, vW2, by omega, by go_num, by rw [toL_snoc, insAll_snoc]; exact R5.out, KQ.out.trans K5.out⟩
          case measure => simp [intOf]; omega
        · obtain rfl : k = (beginE m m.ni).n := by omega
          have d3 : decide ((beginE m m.ni).n < (beginE m m.ni).n) = false := by simp
          have FB := Lib.hid (B2.out.trans ((K7.out.trans KQ.out).bot B2.out.size (show w.heap.size ≤ P by omega)))
          go_wp2_with fail
          go_ret
          exact ⟨P, vS, vW, rfl, by omega, by have h9 := RQ.out; rw [HSE.out] at h9; exact h9, FB.out⟩

end Go.Proofs.YthkfaeplmmlnlaaGreat
namespace Go.Proofs.YthkfaeplmmlnlaaGreat
open Go.RowKit Go.Deep
set_option linter.unusedVariables false
set_option maxRecDepth 100000

theorem delay8_any (m : Mdl) (vd vp vl vi : Value) (n : Int) (w : World) (hd : Sl 1 (gF m.d) m.nd vd w) (h0 : 0 < m.nd) (h8 : m.nd ≤ 8) :
    Calls Tryz.prog 88 #[mval m vd vp vl vi, .int .i64 n] w fun e w' => e = .returned (.float .f64 (m.d (dlyN m.nd n))) ∧ Below w.heap.size w w' := by
  obtain ⟨ad, cd, rfl, hcd, hcd2, hat⟩ := hd
  obtain ⟨b, o, rfl, hA⟩ := hat h0
  obtain ⟨k1, k2, k3⟩ := dly_mod h0 n
  unfold mval
  have X1 := Lib.hid (heap_alloc_new w (.cells #[.int .i64 m.seed, .float .f64 m.fin, .slice (some ⟨b, o, none⟩) m.nd cd, vp, vl, vi] 28))
  have B1 := Lib.hid (balloc w (.cells #[.int .i64 m.seed, .float .f64 m.fin, .slice (some ⟨b, o, none⟩) m.nd cd, vp, vl, vi] 28))
  have c0 := (hA.below B1.out).one (dlyN m.nd n) k3
  simp only [gF] at c0
  clear hA hat
  generalize hk : dlyN m.nd n = k at *
  clear hk
  obtain ⟨n0, n1, n2, n3, n4, n5⟩ := six_cells7 X1.out
  have e0 : ((m.nd : Int) == 0) = false := by simp; omega
  have bk : ((k : Nat) : Int) < (m.nd : Int) := by omega
  have lk : (0 : Int) ≤ ((k : Nat) : Int) := by omega
  have tk : ((k : Nat) : Int).toNat = k := by omega
  generalize hu : w.alloc (.cells #[.int .i64 m.seed, .float .f64 m.fin, .slice (some ⟨b, o, none⟩) m.nd cd, vp, vl, vi] 28) = u at *
  go_enter Tryz.func88, Tryz.ntmps88
  go_upto_region 1 with fail
  try rw [hu]
  clear hu
  by_cases hq : n.tmod m.nd < 0
  · have d0 : decide (n.tmod m.nd < 0) = true := by simp [hq]
    have k1 := k1 hq
    have l2 : -9223372036854775808 ≤ n.tmod m.nd + m.nd := by omega
    have l3 : n.tmod m.nd + m.nd ≤ 9223372036854775807 := by omega
    have l4 : wrap64 (n.tmod m.nd + m.nd) = (k : Int) := by rw [k1]; unfold wrap64; omega
    clear k2 hq
    go_upto_region 4 with fail
    clear k1 d0 l2 l3 l4
    go_wp2_with fail
    go_ret
    exact ⟨rfl, B1.out⟩
  · have d0 : decide (n.tmod m.nd < 0) = false := by simp [hq]
    have k2 := k2 hq
    clear k1 hq
    go_upto_region 4 with fail
    clear k2 d0
    go_wp2_with fail
    go_ret
    exact ⟨rfl, B1.out⟩

def cntB (n : Int) : Bool := decide (0 ≤ n) && decide (n ≤ 1099511627776)
theorem isCount8_any (n : Int) (w : World) : Calls Tryz.prog 83 #[.int .i64 n] w fun e w' => e = .returned (.bool (cntB n)) ∧ w' = w := by
  go_enter Tryz.func83, Tryz.ntmps83
  by_cases h : 0 ≤ n
  · have d0 : decide (0 ≤ n) = true := by simp [h]
    by_cases h2 : n ≤ 1099511627776
    · have d1 : decide (n ≤ 1099511627776) = true := by simp [h2]
      rw [show cntB n = true from by unfold cntB; rw [d0, d1]; rfl]
      clear h h2
      go_wp2_with fail
      go_ret
      exact ⟨rfl, rfl⟩
    · have d1 : decide (n ≤ 1099511627776) = false := by simp; omega
      rw [show cntB n = false from by unfold cntB; rw [d0, d1]; rfl]
      clear h h2
      go_wp2_with fail
      go_ret
      exact ⟨rfl, rfl⟩
  · have d0 : decide (0 ≤ n) = false := by simp; omega
    rw [show cntB n = false from by unfold cntB; rw [d0]; rfl]
    clear h
    go_wp2_with fail
    go_ret
    exact ⟨rfl, rfl⟩

def proB (nl : Nat) (lp : Int) : Bool := decide (0 ≤ lp) && decide (lp < (nl : Int))
theorem isProcess8_any (m : Mdl) (vd vp vi : Value) (al : Option Addr) (cl : Nat) (lp : Int) (w : World) :
    Calls Tryz.prog 56 #[.agg #[.int .i64 m.seed, .float .f64 m.fin, vd, vp, .slice al m.nl cl, vi], .int .i64 lp] w fun e w' => e = .returned (.bool (proB m.nl lp)) ∧ Below w.heap.size w w' := by
  have X1 := Lib.hid (heap_alloc_new w (.cells #[.int .i64 m.seed, .float .f64 m.fin, vd, vp, .slice al m.nl cl, vi] 28))
  have B1 := Lib.hid (balloc w (.cells #[.int .i64 m.seed, .float .f64 m.fin, vd, vp, .slice al m.nl cl, vi] 28))
  obtain ⟨m0, m1, m2, m3, m4, m5⟩ := six_cells7 X1.out
  obtain ⟨res, hr⟩ : ∃ r, r = proB m.nl lp := ⟨_, rfl⟩
  rw [← hr]
  have E := Lib.hid hr
  clear hr
  generalize hu : w.alloc (.cells #[.int .i64 m.seed, .float .f64 m.fin, vd, vp, .slice al m.nl cl, vi] 28) = u at *
  go_enter Tryz.func56, Tryz.ntmps56
  go_upto_region 1 with fail
  try rw [hu]
  clear hu
  by_cases h : 0 ≤ lp
  · have d0 : decide (0 ≤ lp) = true := by simp [h]
    by_cases h2 : lp < (m.nl : Int)
    · have d1 : decide (lp < (m.nl : Int)) = true := by simp [h2]
      obtain rfl : res = true := by rw [E.out]; unfold proB; rw [d0, d1]; rfl
      clear h h2 E
      go_wp2_with fail
      go_ret
      exact ⟨rfl, B1.out⟩
    · have d1 : decide (lp < (m.nl : Int)) = false := by simp; omega
      obtain rfl : res = false := by rw [E.out]; unfold proB; rw [d0, d1]; rfl
      clear h h2 E
      go_wp2_with fail
      go_ret
      exact ⟨rfl, B1.out⟩
  · have d0 : decide (0 ≤ lp) = false := by simp; omega
    obtain rfl : res = false := by rw [E.out]; unfold proB; rw [d0]; rfl
    clear h E
    go_wp2_with fail
    go_ret
    exact ⟨rfl, B1.out⟩

set_option maxHeartbeats 1600000 in
theorem copyAny8 : CopyAny8 := by
  intro s vI w h100 hw
  obtain ⟨i0, hi0, hz0, hz1, hz2⟩ := info_parts info_int7
  obtain ⟨ai, ci, rfl, lw1, lw2, _⟩ := id hw
  unfold sval
  have XW : Hid (((w.alloc (.cells #[.slice ai s.nw ci, .int .i64 s.sent, .int .i64 s.dice] 55)).alloc (.cells #[.slice none 0 0, .int .i64 0, .int .i64 0] 55)).heap[w.heap.size]? = some (.cells #[.slice ai s.nw ci, .int .i64 s.sent, .int .i64 s.dice] 55)) := (Below.heap_alloc _ _ _ (by rw [World.size_alloc]; omega)).trans (heap_alloc_new w _)
  have ZW : Hid (((w.alloc (.cells #[.slice ai s.nw ci, .int .i64 s.sent, .int .i64 s.dice] 55)).alloc (.cells #[.slice none 0 0, .int .i64 0, .int .i64 0] 55)).heap[w.heap.size + 1]? = some (.cells #[.slice none 0 0, .int .i64 0, .int .i64 0] 55)) := by
    have := heap_alloc_new (w.alloc (.cells #[.slice ai s.nw ci, .int .i64 s.sent, .int .i64 s.dice] 55)) (.cells #[.slice none 0 0, .int .i64 0, .int .i64 0] 55)
    rwa [World.size_alloc] at this
  have B1 := Lib.hid (bthen (balloc w (.cells #[.slice ai s.nw ci, .int .i64 s.sent, .int .i64 s.dice] 55)) (balloc _ (.cells #[.slice none 0 0, .int .i64 0, .int .i64 0] 55)))
  have WA := Lib.hid (hw.below B1.out)
  have H8 := Lib.hid h100
  clear hw h100
  generalize hu : ((w.alloc (.cells #[.slice ai s.nw ci, .int .i64 s.sent, .int .i64 s.dice] 55)).alloc (.cells #[.slice none 0 0, .int .i64 0, .int .i64 0] 55)) = u at *
  go_enter Tryz.func34, Tryz.ntmps34
  go_upto_region 1 with fail
  try rw [hu]
  clear hu
  have EA := Lib.hid (World.ownsRow_nil (u) w.heap.size 3 1)
  obtain ⟨_, _, ew, _, _, kw⟩ := id WA.out
  simp only [Value.slice.injEq, true_and] at ew
  obtain ⟨rfl, rfl⟩ := ew
  obtain ⟨s0, s1, s2⟩ := three_cells8 XW.out
  have sf : ∀ q, u.frozen? ⟨w.heap.size, q, none⟩ = false := fun q => Lib.frozen_of_heap XW.out q
  have zf : ∀ q, u.frozen? ⟨w.heap.size + 1, q, none⟩ = false := fun q => Lib.frozen_of_heap ZW.out q
  rcases Nat.eq_zero_or_pos s.nw with hz | hnz
  · have HZ := Lib.hid hz
    have hsrc : Src Tryz.prog i0.size 53 (.slice ai s.nw ci) 0 [] u := by
      rw [hz]
      cases ai with
      | none => exact Src.ofNil _ Tryz.underlying53 ci
      | some ad => exact Src.ofSlice _ Tryz.underlying53 ad 0 ci [] (by simp) (by simp) (by simp)
    have HS := Lib.hid hsrc
    have EO : Hid (u.ownsRow w.heap.size 3 1 (.slice none 0 0) s.nw (rowCells 1 (gW s.w) s.nw)) := by
      show World.ownsRow _ _ _ _ _ _ _
      rw [HZ.out, rowCells_zero]; exact EA.out
    clear hsrc hz kw
    go_upto_region 2 with (at_builtin; refine wpList_append_nothing7 rfl _ _ 53 rfl 3 i0 Tryz.underlying53 hi0 _ 0 0 rfl (Nat.le_refl _) _ rfl HS.out ?_)
    have hne : w.heap.size + 1 ≠ w.heap.size := by omega
    have XV : Hid ((World.setCell u ⟨w.heap.size, 0, none⟩ (.slice none 0 0)).heap[w.heap.size]? = some (.cells #[.slice none 0 0, .int .i64 s.sent, .int .i64 s.dice] 55 (0, 0))) := Joins.block_setCell (i := 0) XW.out (.slice none 0 0)
    have ZV : Hid ((World.setCell u ⟨w.heap.size, 0, none⟩ (.slice none 0 0)).heap[w.heap.size + 1]? = some (.cells #[.slice none 0 0, .int .i64 0, .int .i64 0] 55)) := (Below.heap_setCell u ⟨w.heap.size, 0, none⟩ (.slice none 0 0) _ hne).trans ZW.out
    have OV : Hid ((World.setCell u ⟨w.heap.size, 0, none⟩ (.slice none 0 0)).ownsRow w.heap.size 3 1 (.slice none 0 0) s.nw (rowCells 1 (gW s.w) s.nw)) := own_setCell EO.out (own_not EO.out XW.out (by decide))
    have BV : Hid (Below w.heap.size w (World.setCell u ⟨w.heap.size, 0, none⟩ (.slice none 0 0))) := B1.out.setCell (p := ⟨w.heap.size, 0, none⟩) (Nat.le_refl _) (.slice none 0 0)
    clear hne
    change Code.wp _ _ _ _ (World.setCell u ⟨w.heap.size, 0, none⟩ (.slice none 0 0))
    generalize (World.setCell u ⟨w.heap.size, 0, none⟩ (.slice none 0 0)) = w11 at *
    have zf : ∀ q, w11.frozen? ⟨w.heap.size + 1, q, none⟩ = false := fun q => Lib.frozen_of_heap ZV.out q
    obtain ⟨p0, p1, p2⟩ := three_cells8 XV.out
    obtain ⟨z0, z1, z2⟩ := three_cells8 ZV.out
    go_wp2_with fail
    change bodyPost _ _ _ _ _ (World.setCells w11 (w.heap.size + 1) 0 [.slice none 0 0, .int .i64 s.sent, .int .i64 s.dice])
    have h5 := put_three8 ZV.out (.slice none 0 0) (.int .i64 s.sent) (.int .i64 s.dice)
    have LZ := Lib.hid (BV.out.trans (put_low7 (show w.heap.size ≤ w.heap.size + 1 by omega) [.slice none 0 0, .int .i64 s.sent, .int .i64 s.dice] 0 w11))
    have SA : Hid (StaAt w.heap.size s (.agg #[.slice none 0 0, .int .i64 s.sent, .int .i64 s.dice]) (World.setCells w11 (w.heap.size + 1) 0 [.slice none 0 0, .int .i64 s.sent, .int .i64 s.dice])) := ⟨_, rfl, own_setCells (own_not OV.out ZV.out (by decide)) _ 0 _ OV.out⟩
    obtain ⟨t0, t1, t2⟩ := three_cells8 h5
    clear h5
    generalize World.setCells w11 (w.heap.size + 1) 0 [.slice none 0 0, .int .i64 s.sent, .int .i64 s.dice] = w9 at *
    exact bodyPost_ret (v := .agg #[.slice none 0 0, .int .i64 s.sent, .int .i64 s.dice]) (by simp [results, Tryz.results34, go_sem, t0, t1, t2]) rfl ⟨_, rfl, SA.out, LZ.out⟩
  · obtain ⟨bw, ow, rfl, hat⟩ := kw hnz
    have HN := Lib.hid (at_news hat)
    have HB := Lib.hid (B1.out.size)
    have h8 := H8.out
    clear hat kw
    go_wp2_with (at_builtin; refine wpList_append_own _ rfl _ _ 53 rfl w.heap.size 3 i0 (.int .i64 0) 1 8 Tryz.underlying53 hi0 hz0 hz1 hz2 rfl (by decide) _ 0 _ rfl EA.out ⟨bw, ow, none⟩ s.nw ci (rowCells 1 (gW s.w) s.nw) rfl (rowCells_len _ _ _) HN.out (row_one _ _) (by unfold maxLen; omega) (by omega) HB.out ?_)
    intro v1 w10 hown hgr hnn
    have W10 := Lib.hid hown
    have B10 := Lib.hid (B1.out.trans (below_grown EA.out HB.out hgr))
    have X10 := Lib.hid (grown_keep7 EA.out hgr XW.out (by decide))
    have Z10 := Lib.hid (grown_keep7 EA.out hgr ZW.out (by decide))
    obtain ⟨a1, c1, rfl⟩ : ∃ a c, v1 = .slice a s.nw c := by
      rcases hown.2 with ⟨rfl, h⟩ | ⟨g, cap, cur, rfl, _⟩
      · omega
      · exact ⟨_, _, rfl⟩
    clear hown hgr hnn s0 s1 s2 sf zf HB HN h8
    obtain ⟨s0, s1, s2⟩ := three_cells8 X10.out
    have sf : ∀ q, w10.frozen? ⟨w.heap.size, q, none⟩ = false := fun q => Lib.frozen_of_heap X10.out q
    go_upto_region 2 with fail
    have hne : w.heap.size + 1 ≠ w.heap.size := by omega
    have XV : Hid ((World.setCell w10 ⟨w.heap.size, 0, none⟩ (.slice a1 s.nw c1)).heap[w.heap.size]? = some (.cells #[.slice a1 s.nw c1, .int .i64 s.sent, .int .i64 s.dice] 55 (0, 0))) := Joins.block_setCell (i := 0) X10.out (.slice a1 s.nw c1)
    have ZV : Hid ((World.setCell w10 ⟨w.heap.size, 0, none⟩ (.slice a1 s.nw c1)).heap[w.heap.size + 1]? = some (.cells #[.slice none 0 0, .int .i64 0, .int .i64 0] 55)) := (Below.heap_setCell w10 ⟨w.heap.size, 0, none⟩ (.slice a1 s.nw c1) _ hne).trans Z10.out
    have OV : Hid ((World.setCell w10 ⟨w.heap.size, 0, none⟩ (.slice a1 s.nw c1)).ownsRow w.heap.size 3 1 (.slice a1 s.nw c1) s.nw (rowCells 1 (gW s.w) s.nw)) := own_setCell W10.out (own_not W10.out X10.out (by decide))
    have BV : Hid (Below w.heap.size w (World.setCell w10 ⟨w.heap.size, 0, none⟩ (.slice a1 s.nw c1))) := B10.out.setCell (p := ⟨w.heap.size, 0, none⟩) (Nat.le_refl _) (.slice a1 s.nw c1)
    clear hne
    change Code.wp _ _ _ _ (World.setCell w10 ⟨w.heap.size, 0, none⟩ (.slice a1 s.nw c1))
    generalize (World.setCell w10 ⟨w.heap.size, 0, none⟩ (.slice a1 s.nw c1)) = w11 at *
    have zf : ∀ q, w11.frozen? ⟨w.heap.size + 1, q, none⟩ = false := fun q => Lib.frozen_of_heap ZV.out q
    obtain ⟨p0, p1, p2⟩ := three_cells8 XV.out
    obtain ⟨z0, z1, z2⟩ := three_cells8 ZV.out
    go_wp2_with fail
    change bodyPost _ _ _ _ _ (World.setCells w11 (w.heap.size + 1) 0 [.slice a1 s.nw c1, .int .i64 s.sent, .int .i64 s.dice])
    have h5 := put_three8 ZV.out (.slice a1 s.nw c1) (.int .i64 s.sent) (.int .i64 s.dice)
    have LZ := Lib.hid (BV.out.trans (put_low7 (show w.heap.size ≤ w.heap.size + 1 by omega) [.slice a1 s.nw c1, .int .i64 s.sent, .int .i64 s.dice] 0 w11))
    have SA : Hid (StaAt w.heap.size s (.agg #[.slice a1 s.nw c1, .int .i64 s.sent, .int .i64 s.dice]) (World.setCells w11 (w.heap.size + 1) 0 [.slice a1 s.nw c1, .int .i64 s.sent, .int .i64 s.dice])) := ⟨_, rfl, own_setCells (own_not OV.out ZV.out (by decide)) _ 0 _ OV.out⟩
    obtain ⟨t0, t1, t2⟩ := three_cells8 h5
    clear h5
    generalize World.setCells w11 (w.heap.size + 1) 0 [.slice a1 s.nw c1, .int .i64 s.sent, .int .i64 s.dice] = w9 at *
    exact bodyPost_ret (v := .agg #[.slice a1 s.nw c1, .int .i64 s.sent, .int .i64 s.dice]) (by simp [results, Tryz.results34, go_sem, t0, t1, t2]) rfl ⟨_, rfl, SA.out, LZ.out⟩

end Go.Proofs.YthkfaeplmmlnlaaGreat
namespace Go.Proofs.YthkfaeplmmlnlaaGreat
open Go.RowKit
set_option linter.unusedVariables false

theorem isNaN_any (x : Nat) (w : World) :
    Calls Tryz.prog 39 #[.float .f64 x] w fun e w' => e = .returned (.bool (!numF x)) ∧ w = w' := by
  have E : Hid ((FloatKind.f64.format.order x x == some .eq) = numF x) := by have := ord_eq x x; simpa [Hid, numF] using this
  go_enter Tryz.func39, Tryz.ntmps39
  go_wp2_with fail
  go_ret
  exact ⟨by rw [← E.out]; rfl, rfl⟩

theorem delayMayBe_any (x : Nat) (w : World) :
    Calls Tryz.prog 41 #[.float .f64 x] w fun e w' => e = .returned (.bool (posF x)) ∧ w = w' := by
  have E : Hid ((FloatKind.f64.format.order x 0 == some .gt) = posF x) := by have := ord_gt x 0; simpa [Hid, posF, isNum_zero, ford_zero] using this
  go_enter Tryz.func41, Tryz.ntmps41
  go_wp2_with fail
  go_ret
  exact ⟨by rw [← E.out]; rfl, rfl⟩

theorem isFrom1To_any (most n : Nat) (w : World) :
    Calls Tryz.prog 70 #[.int .i64 most, .int .i64 n] w fun e w' => e = .returned (.bool (from1 most n)) ∧ w = w' := by
  have E : Hid (∀ b, (decide (1 ≤ n) && decide (n ≤ most)) = b → from1 most n = b) := fun b h => h
  generalize from1 most n = r at E ⊢
  go_enter Tryz.func70, Tryz.ntmps70
  go_wp2_with fail
  all_goals
    go_ret
    refine ⟨?_, rfl⟩
    rw [E.out _ rfl]
    simp [*]
    try omega

theorem isOneOf_any (count : Nat) (n : Int) (w : World) :
    Calls Tryz.prog 74 #[.int .i64 count, .int .i64 n] w fun e w' => e = .returned (.bool (oneOf count n)) ∧ w = w' := by
  have E : Hid (∀ b, (decide (0 ≤ n) && decide (n < count)) = b → oneOf count n = b) := fun b h => h
  generalize oneOf count n = r at E ⊢
  go_enter Tryz.func74, Tryz.ntmps74
  go_wp2_with fail
  all_goals
    go_ret
    refine ⟨?_, rfl⟩
    rw [E.out _ rfl]
    simp [*]
    try omega

theorem processMayBe_box (n : Nat) (w : World) :
    Calls Tryz.prog 45 #[.int .i64 n] w fun e w' => ∃ q, e = .returned (.func (.func 73) #[] #[.pointer (some ⟨q, 0, none⟩)]) ∧ BoxI n q w' ∧ Below w.heap.size w w' := by
  have hmf : ∀ (fn : Fn) (first cap : Array Value) (w : World), (Instr.makeFunc fn first cap).run Tryz.prog w = .ok (.func fn first cap) w := fun _ _ _ _ => rfl
  have hh := heap_alloc_new w (.cells #[.int .i64 n] 3)
  have HQ := Lib.hid (show BoxI n w.heap.size _ from ⟨by rw [Lib.cell_of_heap hh]; rfl, lt_of_block hh⟩)
  clear hh
  go_enter Tryz.func45, Tryz.ntmps45
  go_wp2_with fail
  go_ret
  exact ⟨_, rfl, HQ.out, balloc _ _⟩
theorem eventMayBe_box (n : Nat) (w : World) :
    Calls Tryz.prog 47 #[.int .i64 n] w fun e w' => ∃ q, e = .returned (.func (.func 75) #[] #[.pointer (some ⟨q, 0, none⟩)]) ∧ BoxI n q w' ∧ Below w.heap.size w w' := by
  have hmf : ∀ (fn : Fn) (first cap : Array Value) (w : World), (Instr.makeFunc fn first cap).run Tryz.prog w = .ok (.func fn first cap) w := fun _ _ _ _ => rfl
  have hh := heap_alloc_new w (.cells #[.int .i64 n] 3)
  have HQ := Lib.hid (show BoxI n w.heap.size _ from ⟨by rw [Lib.cell_of_heap hh]; rfl, lt_of_block hh⟩)
  clear hh
  go_enter Tryz.func47, Tryz.ntmps47
  go_wp2_with fail
  go_ret
  exact ⟨_, rfl, HQ.out, balloc _ _⟩

theorem processOne_any (np : Nat) (p : Int) (a : Option Addr) (n cap : Nat) (q : Nat) (w : World) (hq : BoxI np q w) :
    Calls Tryz.prog 73 #[.agg #[.int .i64 p, .slice a n cap], .pointer (some ⟨q, 0, none⟩)] w fun e w' => e = .returned (.bool (lpB np p n)) ∧ Below w.heap.size w w' := by
  have HO := Lib.hid (isOneOf_any np p)
  obtain ⟨c, hlt⟩ := hq
  have c2 : (w.alloc (.cells #[.int .i64 p, .slice a n cap] 63)).cell? ⟨q, 0, none⟩ = some (.int .i64 np) := by rw [World.cell?_alloc_lt _ _ _ hlt]; exact c
  have HB := Lib.hid (balloc w (.cells #[.int .i64 p, .slice a n cap] 63))
  have E : Hid (lpB np p n = (oneOf np p && decide (n ≤ 8))) := rfl
  generalize oneOf np p = r at *
  generalize lpB np p n = s at *
  clear c
  go_enter Tryz.func73, Tryz.ntmps73
  go_wp2_with (go_at_call 74; refine (HO.out _).mono ?_; rintro e w' ⟨rfl, rfl⟩)
  all_goals
    go_ret
    refine ⟨?_, HB.out⟩
    rw [E.out]
    simp_all
    try omega
theorem eventOne_any (nl : Nat) (x : Ev) (q : Nat) (w : World) (hq : BoxI nl q w) :
    Calls Tryz.prog 75 #[.agg #[.float .f64 x.t, .int .i64 x.dst, .int .i64 x.pay], .pointer (some ⟨q, 0, none⟩)] w fun e w' => e = .returned (.bool (evB nl x)) ∧ Below w.heap.size w w' := by
  have HO := Lib.hid (isOneOf_any nl x.dst)
  have HN := Lib.hid (isNaN_any x.t)
  obtain ⟨c, hlt⟩ := hq
  have c2 : (w.alloc (.cells #[.float .f64 x.t, .int .i64 x.dst, .int .i64 x.pay] 78)).cell? ⟨q, 0, none⟩ = some (.int .i64 nl) := by rw [World.cell?_alloc_lt _ _ _ hlt]; exact c
  have HB := Lib.hid (balloc w (.cells #[.float .f64 x.t, .int .i64 x.dst, .int .i64 x.pay] 78))
  have E : Hid (evB nl x = (numF x.t && oneOf nl x.dst)) := rfl
  generalize oneOf nl x.dst = r at *
  generalize numF x.t = k at *
  generalize evB nl x = s at *
  obtain ⟨t, dst, pay⟩ := x
  dsimp only at *
  clear c
  go_enter Tryz.func75, Tryz.ntmps75
  cases k
  all_goals
    go_wp2_with (first
      | (go_at_call 74; refine (HO.out _).mono ?_; rintro e w' ⟨rfl, rfl⟩)
      | (go_at_call 39; refine (HN.out _).mono ?_; rintro e w' ⟨rfl, rfl⟩))
    go_ret
    refine ⟨?_, HB.out⟩
    rw [E.out]
    simp

end Go.Proofs.YthkfaeplmmlnlaaGreat
namespace Go.Proofs.YthkfaeplmmlnlaaGreat
open Go.RowKit
set_option linter.unusedVariables false

theorem mayBeIn_box (len : Int) (w : World) :
    Calls Tryz.prog 72 #[.int .i64 len] w fun e w' => ∃ q, e = .returned (.func (.func 90) #[] #[.pointer (some ⟨q, 0, none⟩)]) ∧ BoxI len q w' ∧ Below w.heap.size w w' := by
  refine (mayBeIn_any len w).mono ?_
  rintro e w' ⟨rfl, rfl⟩
  have hh := heap_alloc_new w (.cells #[.int .i64 len] 3)
  exact ⟨_, rfl, ⟨by rw [Lib.cell_of_heap hh]; rfl, lt_of_block hh⟩, balloc _ _⟩

end Go.Proofs.YthkfaeplmmlnlaaGreat
