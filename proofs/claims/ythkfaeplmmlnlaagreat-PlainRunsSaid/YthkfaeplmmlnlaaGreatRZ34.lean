/- The contract of the program's New. awake answers true. A model's numbers, each within its 64 bits. The contract of the laws' Light: whatever it answers. -/
import Derived.Test.YthkfaeplmmlnlaaGreatRZ31
import Derived.Test.YthkfaeplmmlnlaaGreatRZ0
import Derived.Test.YthkfaeplmmlnlaaGreatRModelCopy3
import Derived.Test.YthkfaeplmmlnlaaGreatRZ12
import Derived.Test.YthkfaeplmmlnlaaGreatRZ10
namespace Go.Proofs.YthkfaeplmmlnlaaGreat
open Go.RowKit Go.Deep Go.Maps
set_option linter.unusedVariables false
set_option maxRecDepth 100000

theorem info_state9' : (Tryz.prog.info? 55).map (fun i => (i.zero, i.size, i.bytes)) = some (some (.agg #[.slice none 0 0, .int .i64 0, .int .i64 0]), 3, 40) := by kernel_rfl
theorem small_chk {m : Mdl} (h : chkN m = 0) : Small m := by
  obtain ⟨c1, c2, c3, c4, c5⟩ := chk_nl h
  obtain ⟨d1, d2, d3, d4⟩ := chk_more8 h
  have hm : countsB m = true := by
    unfold chkN at h
    have hm : mayB m = true := by
      cases hq : mayB m with
      | true => rfl
      | false => rw [hq] at h; exact absurd h (by decide)
    unfold mayB at hm
    simp only [Bool.and_eq_true] at hm
    exact hm.1
  unfold countsB from1 at hm
  simp only [Bool.and_eq_true, decide_eq_true_eq] at hm
  exact ⟨by omega, by omega, by omega, by omega, fun i hi => by have := (d4 i hi).1; omega, fun i hi => by have := d1 i hi; omega⟩
theorem Fresh.hds {S : Nat → Bool} {C : Nat} {E : TypeId} {g : Nat → Nat → Value} {n : Nat} {v : Value} {base : Nat} {W : World} (h : Fresh C E g n v base W) (hS : ∀ k, base ≤ k → S k = false) : Fresh C E g n v base (HdS S W) := by
  rcases h with h | ⟨h0, b, h1, h2, h3⟩
  · exact .inl h
  · exact .inr ⟨h0, b, h1, h2, by rw [HdS.other _ (hS b h1)]; exact h3⟩
theorem NewM.hds {S : Nat → Bool} {m : Mdl} {vd vp vl vi : Value} {base : Nat} {W : World} (h : NewM m vd vp vl vi base W) (hS : ∀ k, base ≤ k → S k = false) : NewM m vd vp vl vi base (HdS S W) := by
  obtain ⟨gp, p1, p2⟩ := h.p
  obtain ⟨gl, l1, l2⟩ := h.l
  exact ⟨h.d.hds hS, ⟨gp, p1.hds hS, fun i hi => (p2 i hi).hds hS⟩, ⟨gl, l1.hds hS, fun i hi => (l2 i hi).hds hS⟩, h.i.hds hS⟩
theorem seeker_any (bm : Nat) (u : World) : Calls Tryz.prog 22 #[.map (some bm)] u fun r u' => r = .returned (fvP u.heap.size) ∧ u'.heap[u.heap.size]? = some (.cells #[.map (some bm)] 66 (0, 0)) ∧ Below u.heap.size u u' := by
  have hmf : ∀ (fn : Fn) (first cap : Array Value) (w : World), (Instr.makeFunc fn first cap).run Tryz.prog w = .ok (.func fn first cap) w := fun _ _ _ _ => rfl
  have X1 := Lib.hid (heap_alloc_new u (.cells #[.map (some bm)] 66))
  have B1 := Lib.hid (balloc u (.cells #[.map (some bm)] 66))
  go_enter Tryz.func22, Tryz.ntmps22
  go_wp2_with fail
  go_ret
  exact ⟨rfl, X1.out, B1.out⟩

theorem own_set_o9 {w : World} {b C n P : Nat} {E : TypeId} {v : Value} {xs : List Value} (h : w.ownsRow b E C v n xs) (hP : P < b) (o : Nat) (x : Value) : (w.setCell ⟨P, o, none⟩ x).ownsRow b E C v n xs :=
  own_kept h fun q hq => Below.heap_setCell w ⟨P, o, none⟩ x q (by have := (own_lt h hq).1; show q ≠ P; omega)
def oneS (P : Nat) : Nat → Bool := fun k => k == P
/-- states laid one by one -/
structure NwP (P bm bc : Nat) (m : Mdl) (xd xp xl xi : Value) (j : Nat) (vS : Value) (g : Nat → Value) (w2 u : World) : Prop where
  box : u.heap[P]? = some (.cells (pbox m xd xp xl xi vS bm bc 0 0).toArray 70 (0, 0))
  st : u.ownsRow w2.heap.size 55 3 vS j (rowCells 3 (gT (fun k => firstS m k) g) j)
  wd : ∀ k, k < j → u.ownsRow w2.heap.size 3 1 (g k) (m.wl k) (rowCells 1 (gW (m.wd k)) (m.wl k))
  kp : KpS (oneS P) w2 u
section
variable {P bm bc : Nat} {m : Mdl} {xd xp xl xi : Value} {j : Nat} {vS : Value} {g : Nat → Value} {w2 u u3 u4 : World}
theorem NwP.next (h : NwP P bm bc m xd xp xl xi j vS g w2 u) (hP : P < w2.heap.size) {vI vS2 : Value} (k3 : Below u.heap.size u u3)
    (hw : u3.ownsRow w2.heap.size 3 1 vI (firstS m j).nw (rowCells 1 (gW (firstS m j).w) (firstS m j).nw)) (hg : u3.grownBy u4 vS.ownBlock)
    (ho : u4.ownsRow w2.heap.size 55 3 vS2 (j + 1) (rowCells 3 (gT (fun k => firstS m k) g) j ++ rowCells 3 (fun _ c => gT (fun k => firstS m k) (fun _ => vI) j c) 1)) :
    NwP P bm bc m xd xp xl xi (j + 1) vS2 (fun k => if k = j then vI else g k) w2 (u4.setCell ⟨P, 6, none⟩ vS2) := by
  have h3 := own_below h.st k3
  have hB : w2.heap.size ≤ u3.heap.size := by have := h.kp.size; have := k3.size; omega
  refine ⟨?_, ?_, fun k hk => ?_, ?_⟩
  · have b4 := grown_keep7 h3 hg ((k3.block _ (lt_of_block h.box)).trans h.box) (by decide)
    exact Joins.block_setCell (i := 6) b4 vS2
  · have : rowCells 3 (gT (fun k => firstS m k) fun k => if k = j then vI else g k) (j + 1) = rowCells 3 (gT (fun k => firstS m k) g) j ++ rowCells 3 (fun _ c => gT (fun k => firstS m k) (fun _ => vI) j c) 1 := by
      rw [rowCells_append 3 (by decide)]
      refine rowCells_congr (by decide) fun i hi c hc => ?_
      by_cases hij : i < j
      · rw [if_pos hij]
        have hne : i ≠ j := by omega
        rcases c with _ | _ | c
        · show (if i = j then vI else g i) = g i; rw [if_neg hne]
        · rfl
        · rfl
      · obtain rfl : i = j := by omega
        rw [if_neg hij]
        rcases c with _ | _ | c
        · show (if i = i then vI else g i) = vI; rw [if_pos rfl]
        · rfl
        · rfl
    rw [this]
    exact own_set_o9 ho hP 6 vS2
  · by_cases hkj : k = j
    · subst hkj
      rw [if_pos rfl]
      exact own_set_o9 (grown_own h3 hg hw (by decide)) hP 6 vS2
    · rw [if_neg hkj]
      exact own_set_o9 (grown_own h3 hg (own_below (h.wd k (by omega)) k3) (by decide)) hP 6 vS2
  · exact ((h.kp.on k3).low (below_grown h3 hB hg)).trans (KpS.set (by simp [oneS]) 6 vS2 u4)
end
def nwS (S0 : Nat → Bool) (P bm bs : Nat) : Nat → Bool := fun k => S0 k || k == P || k == bm || k == bs
/-- all states are laid: a simulation in which nothing waits -/
theorem NwP.sim {P bm bc : Nat} {m : Mdl} {xd xp xl xi : Value} {vS : Value} {g : Nat → Value} {w2 u : World} (h : NwP P bm bc m xd xp xl xi m.nl vS g w2 u) (hn : 0 < m.nl) (S0 : Nat → Bool) (base : Nat) (h0 : ∀ k, S0 k = true → k < base) (hP : P < w2.heap.size) (hbm : bm < w2.heap.size) (hbc : bc < w2.heap.size) (hb1 : base ≤ bc) (hcp : bc ≠ P) (hcm : bc ≠ bm) (hpm : P ≠ bm)
    (hcap : w2.heap[bc]? = some (.cells #[.map (some bm)] 66 (0, 0))) (hmap : w2.heap[bm]? = some (.map #[] 0)) (hm : MdlAt m xd xp xl xi (HdS (fun k => S0 k || k == P || k == bm) w2)) (hb2 : base ≤ w2.heap.size) :
    ∃ bs, w2.heap.size ≤ bs ∧ bs < u.heap.size ∧ PSim (nwS S0 P bm bs) P bm bc bs m xd xp xl xi vS ⟨fun k => firstS m k, []⟩ 0 0 u := by
  obtain ⟨bs, q1, q2, q3⟩ := StRow.of h.st hn
  have hlt := q3.lt
  have no : ∀ q, w2.heap.size ≤ q → q ≠ bs → nwS S0 P bm bs q = false := fun q hq hne => by
    have : S0 q = false := by
      cases c : S0 q with
      | false => rfl
      | true => have := h0 q c; omega
    unfold nwS
    rw [this]
    have e1 : q ≠ P := by omega
    have e2 : q ≠ bm := by omega
    simp [e1, e2, hne]
  have old : ∀ q, q < w2.heap.size → nwS S0 P bm bs q = (fun k => S0 k || k == P || k == bm) q := fun q hq => by
    have e1 : q ≠ bs := by omega
    simp [nwS, e1]
  have kk : Below (HdS (fun k => S0 k || k == P || k == bm) w2).heap.size (HdS (fun k => S0 k || k == P || k == bm) w2) (HdS (nwS S0 P bm bs) u) := by
    rw [HdS.size]
    have k9 : Below w2.heap.size (HdS (oneS P) w2) (HdS (oneS P) u) := h.kp
    refine ⟨k9.os, k9.tape, k9.output, by rw [HdS.size, HdS.size]; exact h.kp.size, fun q hq => ?_⟩
    have hq2 : q < u.heap.size := Nat.lt_of_lt_of_le hq h.kp.size
    by_cases e1 : q = P
    · subst e1
      rw [HdS.block, HdS.block, old q hq, Array.getElem?_eq_getElem hq, Array.getElem?_eq_getElem hq2]; simp
    · rw [HdS.block, HdS.block, old q hq, h.kp.blk hq (by simp [oneS, e1])]
  have s0c : S0 bc = false := by
    cases c : S0 bc with
    | false => rfl
    | true => have := h0 bc c; omega
  refine ⟨bs, q1, hlt, h.box, (h.kp.blk hbc (by simp [oneS, hcp])).trans hcap, by simp [nwS], by simp [nwS], by simp [nwS], ?_, hm.below kk, ⟨g, q3, fun k hk => ?_⟩, ?_⟩
  · have e1 : bc ≠ bs := by omega
    simp [nwS, s0c, hcp, hcm, e1]
  · have hw := h.wd k hk
    refine own_sl (own_hdS hw fun q hq => no q (own_lt hw hq).1 ?_)
    rintro rfl
    exact own_apart h.st hw (by decide) q2 hq
  · exact ⟨.map [], [], ⟨#[], 0, (h.kp.blk hbm (by simp [oneS]; omega)).trans hmap, ⟨by simp, MapKept.stamped_empty 0, by simp⟩, Nat.le_refl _, rfl⟩, wtIs_none, by simp, by simp⟩

set_option maxHeartbeats 12800000 in
theorem pnew_any (m : Mdl) (vd vp vl vi : Value) (w : World) (hm : MdlAt m vd vp vl vi w) (hc : chkN m = 0) (hr : MdlR m) (S0 : Nat → Bool) (h0 : ∀ k, S0 k = true → k < w.heap.size) :
    Calls Tryz.prog 7 #[mval m vd vp vl vi] w fun z w' => ∃ P bm bc bs xd xp xl xi vS, z = .returned (.tuple #[.pointer (some ⟨P, 0, none⟩), .int .i64 0]) ∧ (w.heap.size ≤ P ∧ w.heap.size ≤ bm ∧ w.heap.size ≤ bs) ∧ PAt (nwS S0 P bm bs) P bm bc bs m xd xp xl xi vS (newP m) 0 0 w' ∧ Below w.heap.size w w' := by
  obtain ⟨i0, hi0, hz0, hz1, hz2⟩ := info_parts info_state9'
  have hsf := store_float
  have hmm := @run_makeMap Tryz.prog
  have HM := Lib.hid hm
  have H0 := Lib.hid h0
  have HR := Lib.hid hr
  have HS := Lib.hid (small_chk hc)
  obtain ⟨hl1, hl6, hi16, _, _⟩ := chk_nl hc
  have HL1 := Lib.hid hl1
  have HL6 := Lib.hid hl6
  have HK : Hid (∀ u, Below w.heap.size w u → Calls Tryz.prog 20 #[.agg #[.int .i64 m.seed, .float .f64 m.fin, vd, vp, vl, vi]] u fun e w' => e = .returned (.int .i64 0) ∧ Below u.heap.size u w') := fun u k => by
    have := check_any m _ _ _ _ u (hm.below k)
    rw [hc] at this
    exact this
  have HCP : Hid (∀ u, Below w.heap.size w u → Calls Tryz.prog 21 #[.agg #[.int .i64 m.seed, .float .f64 m.fin, vd, vp, vl, vi]] u fun e w' => ∃ xd xp xl xi, e = .returned (.agg #[.int .i64 m.seed, .float .f64 m.fin, xd, xp, xl, xi]) ∧ NewM m xd xp xl xi u.heap.size w' ∧ Below u.heap.size u w') := fun u k => copy_any m (small_chk hc) vd vp vl vi u (hm.below k)
  have X1 := Lib.hid (heap_alloc_new w (.cells #[.int .i64 m.seed, .float .f64 m.fin, vd, vp, vl, vi] 28))
  have B1 := Lib.hid (balloc w (.cells #[.int .i64 m.seed, .float .f64 m.fin, vd, vp, vl, vi] 28))
  clear hm h0 hr hl1 hl6
  unfold mval
  go_enter Tryz.func7, Tryz.ntmps7
  go_upto_region 1 with fail
  generalize w.alloc (.cells #[.int .i64 m.seed, .float .f64 m.fin, vd, vp, vl, vi] 28) = w1 at *
  obtain ⟨m0, m1, m2, m3, m4, m5⟩ := six_cells7 X1.out
  go_upto_region 4 with (go_at_call 20; refine (HK.out _ B1.out).mono ?_; rintro z w2 ⟨rfl, hb2⟩; have B2 := Lib.hid (B1.out.trans (hb2.mono B1.out.size)); have X2 := Lib.hid ((hb2.block _ (lt_of_block X1.out)).trans X1.out); clear hb2 m0 m1 m2 m3 m4 m5)
  have B3 := Lib.hid (B2.out.trans ((balloc w2 (.map #[] 0)).mono B2.out.size))
  have X3 := Lib.hid ((Below.heap_alloc w2 (.map #[] 0) _ (lt_of_block X2.out)).trans X2.out)
  have M3 := Lib.hid (show (w2.alloc (.map #[] 0)).heap[w2.heap.size]? = some (.map #[] 0) from (MapKept.heap_alloc w2 _).1)
  go_upto_region 5 with fail
  obtain ⟨bm, hbm⟩ : ∃ bm, bm = w2.heap.size := ⟨_, rfl⟩
  rw [← hbm] at M3 ⊢
  have HBM := Lib.hid (show w.heap.size ≤ bm by rw [hbm]; exact B2.out.size)
  have HBM3 := Lib.hid (show bm < (w2.alloc (.map #[] 0)).heap.size by rw [hbm, World.size_alloc]; omega)
  clear hbm
  generalize w2.alloc (.map #[] 0) = w3 at *
  obtain ⟨m0, m1, m2, m3, m4, m5⟩ := six_cells7 X3.out
  go_upto_region 6 with (first
    | (go_at_call 21; refine (HCP.out _ B3.out).mono ?_; rintro z w4 ⟨xd, xp, xl, xi, rfl, hn4, hb4⟩; obtain ⟨_, ⟨al, cl, rfl, _, _, _⟩, _⟩ := (hn4.mdl HS.out).l; have N4 := Lib.hid hn4; have B34 := Lib.hid hb4; clear hn4 hb4 m0 m1 m2 m3 m4 m5)
    | (go_at_call 22; refine (seeker_any bm _).mono ?_; rintro z w5 ⟨rfl, hx5, hb5⟩; unfold fvP; have C5 := Lib.hid hx5; have B45 := Lib.hid hb5; clear hx5 hb5)
    | fail)
  have B35 := Lib.hid (bthen B34.out B45.out)
  have M5 := Lib.hid ((B35.out.block _ HBM3.out).trans M3.out)
  obtain ⟨bc, hbc⟩ : ∃ bc, bc = w4.heap.size := ⟨_, rfl⟩
  rw [← hbc] at C5 ⊢
  have HBC := Lib.hid hbc
  have HBC5 := Lib.hid (lt_of_block C5.out)
  clear hbc
  have X6 := Lib.hid (heap_alloc_new w5 (.cells #[.int .i64 m.seed, .float .f64 m.fin, xd, xp, .slice al m.nl cl, xi, .slice none 0 0, .map (some bm), fvP bc, .int .i64 0, .int .i64 0] 70))
  have B56 := Lib.hid (balloc w5 (.cells #[.int .i64 m.seed, .float .f64 m.fin, xd, xp, .slice al m.nl cl, xi, .slice none 0 0, .map (some bm), fvP bc, .int .i64 0, .int .i64 0] 70))
  change Code.wp _ _ _ _ (w5.alloc (.cells #[.int .i64 m.seed, .float .f64 m.fin, xd, xp, .slice al m.nl cl, xi, .slice none 0 0, .map (some bm), fvP bc, .int .i64 0, .int .i64 0] 70))
  obtain ⟨P, hP⟩ : ∃ P, P = w5.heap.size := ⟨_, rfl⟩
  rw [← hP] at X6 ⊢
  have HPE := Lib.hid hP
  clear hP
  generalize w5.alloc (.cells #[.int .i64 m.seed, .float .f64 m.fin, xd, xp, .slice al m.nl cl, xi, .slice none 0 0, .map (some bm), fvP bc, .int .i64 0, .int .i64 0] 70) = w6 at *
  have HP6 := Lib.hid (lt_of_block X6.out)
  have Z34 := Lib.hid B34.out.size
  have Z45 := Lib.hid B45.out.size
  have Z3 := Lib.hid B3.out.size
  have C6 := Lib.hid ((B56.out.block _ HBC5.out).trans C5.out)
  have M6 := Lib.hid ((B56.out.block _ (Nat.lt_of_lt_of_le HBM3.out B35.out.size)).trans M5.out)
  have MD6 : Hid (MdlAt m xd xp (.slice al m.nl cl) xi (HdS (fun k => S0 k || k == P || k == bm) w6)) := by
    have hh := (N4.out.hds (S := fun k => S0 k || k == bm) (fun k hk => by
      have e1 : k ≠ bm := by have := HBM3.out; omega
      have e2 : S0 k = false := by
        cases c : S0 k with
        | false => rfl
        | true => have := H0.out k c; have := Z3.out; omega
      simp [e1, e2])).mdl HS.out
    refine hh.below ?_
    rw [HdS.size]
    refine HdS.below2 (bthen B45.out B56.out) (fun k hk => ?_)
    have e1 : k ≠ P := by have := HPE.out; have := Z45.out; omega
    show (S0 k || k == P || k == bm) = (S0 k || k == bm)
    rw [show (k == P) = false from beq_eq_false_iff_ne.2 e1, Bool.or_false]
  have D1 := Lib.hid (show bc ≠ P ∧ bc ≠ bm ∧ P ≠ bm ∧ bc < w6.heap.size ∧ bm < w6.heap.size ∧ w.heap.size ≤ bc ∧ w.heap.size ≤ P ∧ w.heap.size ≤ w6.heap.size by
    have := HBC.out; have := HBC5.out; have := HPE.out; have := HBM3.out; have := Z34.out; have := Z45.out; have := Z3.out; have := HP6.out; omega)
  have BW6 := Lib.hid (B3.out.trans ((bthen B35.out B56.out).mono B3.out.size))
  have p4 : w6.cell? ⟨P, 4, none⟩ = some (.slice al m.nl cl) := by rw [Lib.cell_of_heap X6.out]; rfl
  have HF : Hid (∀ L : Nat, L < m.nl → ∀ u, MdlAt m xd xp (.slice al m.nl cl) xi u → Calls Tryz.prog 23 #[.agg #[.int .i64 m.seed, .float .f64 m.fin, xd, xp, .slice al m.nl cl, xi], .int .i64 (L : Int)] u fun x w' => ∃ vI, x = .returned (.tuple #[.agg #[vI, .int .i64 (firstS m L).sent, .int .i64 (firstS m L).dice], .int .i64 0]) ∧ w'.ownsRow u.heap.size 3 1 vI (firstS m L).nw (rowCells 1 (gW (firstS m L).w) (firstS m L).nw) ∧ Below u.heap.size u w') := fun L hL u k => by
    have h9 := firstAny m xd xp (.slice al m.nl cl) xi (L : Int) u k
    have e9 : firstA m (L : Int) = (firstS m L, 0) := by
      unfold firstA
      rw [if_neg (by simp [hc]), if_neg (by omega), Int.toNat_natCast]
    rw [e9] at h9
    refine h9.mono ?_
    rintro x w' ⟨v, rfl, ⟨vI, rfl, ho⟩, hb⟩
    exact ⟨vI, rfl, ho, hb⟩
  have HB : Hid (∀ u, MdlAt m xd xp (.slice al m.nl cl) xi u → Calls Tryz.prog 24 #[.agg #[.int .i64 m.seed, .float .f64 m.fin, xd, xp, .slice al m.nl cl, xi]] u fun x w' => ∃ a c, x = .returned (.tuple #[.slice a (beginE m m.ni).n c, .int .i64 0]) ∧ w'.ownsRow u.heap.size 41 5 (.slice a (beginE m m.ni).n c) (beginE m m.ni).n (rowCells 5 (gV8 (beginE m m.ni).f) (beginE m m.ni).n) ∧ Below u.heap.size u w') := fun u k => by
    have h9 := beginAny m xd xp (.slice al m.nl cl) xi u k
    have e9 : beginA m = (beginE m m.ni, 0) := by
      unfold beginA
      rw [if_neg (by simp [hc])]
    rw [e9] at h9
    refine h9.mono ?_
    rintro x w' ⟨v, rfl, ⟨a, c, rfl, ho⟩, hb⟩
    exact ⟨a, c, rfl, ho, hb⟩
  have h6 := HL6.out
  go_wp2_with fail
  clear p4
  go_loopw [31] (fun i wr => ∃ (j : Nat) (vS : Value) (g : Nat → Value), j ≤ m.nl ∧ i = .int .i64 j ∧ NwP P bm bc m xd xp (.slice al m.nl cl) xi j vS g w6 wr) (fun i _ => m.nl - (intOf i).toNat)
  case atStart => exact ⟨0, .slice none 0 0, fun _ => .slice none 0 0, Nat.zero_le _, rfl, X6.out, by rw [rowCells_zero]; exact World.ownsRow_nil _ _ _ _, fun k hk => absurd hk (Nat.not_lt_zero k), KpS.refl _ w6⟩
  case round =>
    obtain ⟨j, vS, g, hj, rfl, hni⟩ := hrel
    have NI := Lib.hid hni
    clear hni
    have hj0 : (0 : Int) ≤ (j : Int) := by omega
    have MDR : Hid (MdlAt m xd xp (.slice al m.nl cl) xi wr) := by
      have := MD6.out.below ((NI.out.kp.mono (T := fun k => S0 k || k == P || k == bm) (fun k hk => by simp only [oneS, beq_iff_eq] at hk; simp [hk])).hd)
      exact this.hds
    by_cases hlt : j < m.nl
    · have hj2 : (j : Int) < (m.nl : Int) := by omega
      have d2 : decide (j < m.nl) = true := by simp [hlt]
      obtain ⟨p0, p1, p2, p3, p4, p5, p6⟩ : wr.cell? ⟨P, 0, none⟩ = some (.int .i64 m.seed) ∧ wr.cell? ⟨P, 1, none⟩ = some (.float .f64 m.fin) ∧ wr.cell? ⟨P, 2, none⟩ = some xd ∧ wr.cell? ⟨P, 3, none⟩ = some xp ∧ wr.cell? ⟨P, 4, none⟩ = some (.slice al m.nl cl) ∧ wr.cell? ⟨P, 5, none⟩ = some xi ∧ wr.cell? ⟨P, 6, none⟩ = some vS := by
        refine ⟨?_, ?_, ?_, ?_, ?_, ?_, ?_⟩ <;> (rw [Lib.cell_of_heap NI.out.box]; rfl)
      go_upto_region 10 with (go_at_call 23; refine (HF.out j hlt _ MDR.out).mono ?_; rintro z w7 ⟨vI, rfl, ho, hb7⟩; obtain ⟨ax, cx, rfl, _⟩ := own_form ho; have B7 := Lib.hid hb7; have W7 := Lib.hid (own_lower ho (show w6.heap.size ≤ wr.heap.size from NI.out.kp.size)); clear ho hb7 p0 p1 p2 p3 p4 p5 p6)
      have L8 := Lib.hid (bthen (bthen B7.out (balloc w7 (.cells #[.slice ax (firstS m j).nw cx, .int .i64 (firstS m j).sent, .int .i64 (firstS m j).dice] 55))) (bdrew _))
      have X8 := Lib.hid (show (World.drew (w7.alloc (.cells #[.slice ax (firstS m j).nw cx, .int .i64 (firstS m j).sent, .int .i64 (firstS m j).dice] 55))).heap[w7.heap.size]? = _ from heap_alloc_new w7 (.cells #[.slice ax (firstS m j).nw cx, .int .i64 (firstS m j).sent, .int .i64 (firstS m j).dice] 55))
      have W8 := Lib.hid (own_below W7.out (bthen (balloc w7 (.cells #[.slice ax (firstS m j).nw cx, .int .i64 (firstS m j).sent, .int .i64 (firstS m j).dice] 55)) (bdrew _)))
      have H87 := Lib.hid (show wr.heap.size ≤ w7.heap.size from B7.out.size)
      have SS : Hid (∀ w', Below (World.drew (w7.alloc (.cells #[.slice ax (firstS m j).nw cx, .int .i64 (firstS m j).sent, .int .i64 (firstS m j).dice] 55))).heap.size (World.drew (w7.alloc (.cells #[.slice ax (firstS m j).nw cx, .int .i64 (firstS m j).sent, .int .i64 (firstS m j).dice] 55))) w' → (fun w' => w'.cell? ⟨P, 6, none⟩ = some vS ∧ w'.cell? ⟨w7.heap.size, 0, none⟩ = some (.slice ax (firstS m j).nw cx) ∧ w'.cell? ⟨w7.heap.size, 1, none⟩ = some (.int .i64 (firstS m j).sent) ∧ w'.cell? ⟨w7.heap.size, 2, none⟩ = some (.int .i64 (firstS m j).dice)) w') := fun w' k => by
        refine ⟨?_, three_cells8 ((k.block _ (lt_of_block X8.out)).trans X8.out)⟩
        rw [Lib.cell_of_heap ((k.block _ (Nat.lt_of_lt_of_le (lt_of_block NI.out.box) L8.out.size)).trans ((L8.out.block _ (lt_of_block NI.out.box)).trans NI.out.box))]; rfl
      refine wp_region_x_drew 10 (S := (fun w' => w'.cell? ⟨P, 6, none⟩ = some vS ∧ w'.cell? ⟨w7.heap.size, 0, none⟩ = some (.slice ax (firstS m j).nw cx) ∧ w'.cell? ⟨w7.heap.size, 1, none⟩ = some (.int .i64 (firstS m j).sent) ∧ w'.cell? ⟨w7.heap.size, 2, none⟩ = some (.int .i64 (firstS m j).dice))) (by kernel_rfl) ?_ (fun hHeld => ?_)
      · exact SS.out _ (Below.refl _ _)
      change wpAnyX _ _ _ _ _ _ _ _ _ (World.drew (w7.alloc (.cells #[.slice ax (firstS m j).nw cx, .int .i64 (firstS m j).sent, .int .i64 (firstS m j).dice] 55)))
      generalize World.drew (w7.alloc (.cells #[.slice ax (firstS m j).nw cx, .int .i64 (firstS m j).sent, .int .i64 (firstS m j).dice] 55)) = u1 at *
      first
        | refine tx0 0 (oi := ⟨_, _, _, _, _, _⟩) rfl ?_
        | refine tx1 0 (oi := ⟨_, _, _, _, _, _⟩) (v := ?_) rfl ?_ ?_; rotate_left; · (intro w5 hSw; (try dsimp only at hSw); go_simp; (try with_reducible rfl))
      try go_frame
      first
        | refine tx0 1 (oi := ⟨_, _, _, _, _, _⟩) rfl ?_
        | refine tx1 1 (oi := ⟨_, _, _, _, _, _⟩) (v := ?_) rfl ?_ ?_; rotate_left; · (intro w5 hSw; (try dsimp only at hSw); go_simp; (try with_reducible rfl))
      try go_frame
      first
        | refine tx0 2 (oi := ⟨_, _, _, _, _, _⟩) rfl ?_
        | refine tx1 2 (oi := ⟨_, _, _, _, _, _⟩) (v := ?_) rfl ?_ ?_; rotate_left; · (intro w5 hSw; (try dsimp only at hSw); go_simp; (try with_reducible rfl))
      try go_frame
      first
        | refine tx0 3 (oi := ⟨_, _, _, _, _, _⟩) rfl ?_
        | refine tx1 3 (oi := ⟨_, _, _, _, _, _⟩) (v := ?_) rfl ?_ ?_; rotate_left; · (intro w5 hSw; (try dsimp only at hSw); go_simp; (try with_reducible rfl))
      try go_frame
      first
        | refine tx0 4 (oi := ⟨_, _, _, _, _, _⟩) rfl ?_
        | refine tx1 4 (oi := ⟨_, _, _, _, _, _⟩) (v := ?_) rfl ?_ ?_; rotate_left; · (intro w5 hSw; (try dsimp only at hSw); go_simp; (try with_reducible rfl))
      try go_frame
      first
        | refine tx0 5 (oi := ⟨_, _, _, _, _, _⟩) rfl ?_
        | refine tx1 5 (oi := ⟨_, _, _, _, _, _⟩) (v := ?_) rfl ?_ ?_; rotate_left; · (intro w5 hSw; (try dsimp only at hSw); go_simp; (try with_reducible rfl))
      try go_frame
      refine wpAnyX_ready (rs := [6]) (by kernel_rfl) (by simp) ?_
      refine AllReadyX.cons (o := ⟨_, _, _, _, _, _⟩) rfl (fun K hK => ?_) AllReadyX.nil
      have L2 := Lib.hid (balloc u1 (.cells #[.slice ax (firstS m j).nw cx, .int .i64 (firstS m j).sent, .int .i64 (firstS m j).dice] 55))
      have W2 := Lib.hid (own_below W8.out (balloc u1 (.cells #[.slice ax (firstS m j).nw cx, .int .i64 (firstS m j).sent, .int .i64 (firstS m j).dice] 55)))
      have E2 : Hid ((u1.alloc (.cells #[.slice ax (firstS m j).nw cx, .int .i64 (firstS m j).sent, .int .i64 (firstS m j).dice] 55)).ownsRow w6.heap.size 55 3 (.slice (some ⟨u1.heap.size, 0, none⟩) 1 1) 1 (rowCells 3 (fun _ c => gT (fun k => firstS m k) (fun _ => .slice ax (firstS m j).nw cx) j c) 1)) := World.ownsRow_lit (base := w6.heap.size) (e := 55) (size := 3) u1 #[.slice ax (firstS m j).nw cx, .int .i64 (firstS m j).sent, .int .i64 (firstS m j).dice] 1 (by have := NI.out.kp.size; have := L8.out.size; omega) (by decide) rfl
      go_simp
      refine hK.out _ _ ?_ (fun hHeld => ?_)
      · exact SS.out _ L2.out
      clear hK K
      try go_frame
      generalize u1.alloc (.cells #[.slice ax (firstS m j).nw cx, .int .i64 (firstS m j).sent, .int .i64 (firstS m j).dice] 55) = u3 at *
      have LL := Lib.hid (bthen L8.out L2.out)
      have O2 := Lib.hid (own_below NI.out.st LL.out)
      have HB2 := Lib.hid (show w6.heap.size ≤ u3.heap.size by have := NI.out.kp.size; have := LL.out.size; omega)
      refine wpAnyX_ready (rs := [7]) (by kernel_rfl) (by simp) ?_
      refine AllReadyX.cons (o := ⟨_, _, _, _, _, _⟩) rfl (fun K hK => ?_) AllReadyX.nil
      refine step_append_any rfl (.tmp 47) (.tmp 49) 49 rfl w6.heap.size 55 i0 (.agg #[.slice none 0 0, .int .i64 0, .int .i64 0]) 3 40 Tryz.underlying49 hi0 hz0 hz1 hz2 rfl (by decide) vS j _ (by simp [Act.eval]) O2.out (fun _ c => gT (fun k => firstS m k) (fun _ => .slice ax (firstS m j).nw cx) j c) 1 (.slice (some ⟨u1.heap.size, 0, none⟩) 1 1) (by simp [Act.eval]) (own_sl E2.out) (fun _ _ c _ => ?_) (by unfold maxLen; omega) (by omega) HB2.out (j + 1) rfl ?_
      · unfold gT
        split <;> rfl
      intro aN cN u4 hown hgr
      have P4 := Lib.hid (grown_keep7 O2.out hgr ((LL.out.block _ (lt_of_block NI.out.box)).trans NI.out.box) (by decide))
      have X4 := Lib.hid ((hgr.block _ (Nat.lt_of_lt_of_le (lt_of_block X8.out) L2.out.size) (fun c9 => by have := (own_lt NI.out.st c9.symm).2; have := H87.out; omega)).trans ((L2.out.block _ (lt_of_block X8.out)).trans X8.out))
      have NN := Lib.hid (NI.out.next (by have := HP6.out; exact this) LL.out W2.out hgr hown)
      have S4 : Hid ((fun w' => w'.cell? ⟨P, 6, none⟩ = some vS ∧ w'.cell? ⟨w7.heap.size, 0, none⟩ = some (.slice ax (firstS m j).nw cx) ∧ w'.cell? ⟨w7.heap.size, 1, none⟩ = some (.int .i64 (firstS m j).sent) ∧ w'.cell? ⟨w7.heap.size, 2, none⟩ = some (.int .i64 (firstS m j).dice)) u4) := ⟨by rw [Lib.cell_of_heap P4.out]; rfl, three_cells8 X4.out⟩
      refine hK.out _ _ ?_ (fun hHeld => ?_)
      · exact S4.out
      clear hK K
      try go_frame
      clear hown hgr
      refine wpAnyX_ready (rs := [8]) (by kernel_rfl) (by simp) ?_
      refine AllReadyX.cons (o := ⟨_, _, _, _, _, _⟩) rfl (fun K hK => ?_) AllReadyX.nil
      go_simp
      refine hK.out _ _ ?_ (fun hHeld => ?_)
      · exact S4.out
      clear hK K
      try go_frame
      refine wpAnyX_ready (rs := [9]) (by kernel_rfl) (by simp) ?_
      refine AllReadyX.cons (o := ⟨_, _, _, _, _, _⟩) rfl (fun K hK => ?_) AllReadyX.nil
      go_simp
      refine hK.out _ _ ?_ (fun hHeld => ?_)
      · exact S4.out
      clear hK K
      try go_frame
      refine wpAnyX_last (o := ⟨_, _, _, _, _, _⟩) (by kernel_rfl) rfl (fun K hK => ?_) (by kernel_rfl)
      have hfz : u4.frozen? ⟨P, 6, none⟩ = false := Lib.frozen_of_heap P4.out 6
      have hcw : u4.cell? ⟨P, 6, none⟩ = some vS := S4.out.1
      go_simp
      refine hK.out _ _ ?_
      clear hK K
      try go_frame
      clear hfz hcw hHeld
      generalize u4.setCell ⟨P, 6, none⟩ (.slice aN (j + 1) cN) = u5 at *
      go_wp2_with fail
      go_roundw
      case rel => exact ⟨j + 1, _, _, by omega, by go_num, NN.out⟩
      case measure => simp [intOf]; omega
    · obtain rfl : j = m.nl := by omega
      have d2 : decide (m.nl < m.nl) = false := by simp
      obtain ⟨bs, hb1, hb2, hps⟩ := NI.out.sim HL1.out S0 w.heap.size H0.out HP6.out D1.out.2.2.2.2.1 D1.out.2.2.2.1 D1.out.2.2.2.2.2.1 D1.out.1 D1.out.2.1 D1.out.2.2.1 C6.out M6.out MD6.out D1.out.2.2.2.2.2.2.2
      have PS := Lib.hid hps
      have BS1 := Lib.hid hb1
      have BS2 := Lib.hid hb2
      clear hps hb1 hb2
      obtain ⟨p0, p1, p2, p3, p4, p5, p6⟩ : wr.cell? ⟨P, 0, none⟩ = some (.int .i64 m.seed) ∧ wr.cell? ⟨P, 1, none⟩ = some (.float .f64 m.fin) ∧ wr.cell? ⟨P, 2, none⟩ = some xd ∧ wr.cell? ⟨P, 3, none⟩ = some xp ∧ wr.cell? ⟨P, 4, none⟩ = some (.slice al m.nl cl) ∧ wr.cell? ⟨P, 5, none⟩ = some xi ∧ wr.cell? ⟨P, 6, none⟩ = some vS := by
        refine ⟨?_, ?_, ?_, ?_, ?_, ?_, ?_⟩ <;> (rw [Lib.cell_of_heap NI.out.box]; rfl)
      have KW := Lib.hid NI.out.kp
      go_upto_region 13 with (go_at_call 24; refine (HB.out _ MDR.out).mono ?_; rintro z w7 ⟨a7, c7, rfl, ho, hb7⟩; have B7 := Lib.hid hb7; have E7 := Lib.hid ho; clear ho hb7 p0 p1 p2 p3 p4 p5 p6)
      have LOS : Hid (∀ k, nwS S0 P bm bs k = true → k < wr.heap.size) := fun k hk => by
        simp only [nwS, Bool.or_eq_true, beq_iff_eq] at hk
        have := KW.out.size
        have := D1.out.2.2.2.2.2.2.2
        rcases hk with ((hk | rfl) | rfl) | rfl
        · have := H0.out k hk; omega
        · have := HP6.out; omega
        · have := D1.out.2.2.2.2.1; omega
        · exact BS2.out
      have SL7 := Lib.hid (own_sl (own_hdS (S := nwS S0 P bm bs) E7.out (fun q hq => by
        cases c : nwS S0 P bm bs q with
        | false => rfl
        | true => have := LOS.out q c; have := (own_lt E7.out hq).1; omega)))
      have HWT := Lib.hid (pwait_any (nwS S0 P bm bs) P bm bc bs m xd xp (.slice al m.nl cl) xi vS ⟨fun k => firstS m k, []⟩ 0 0 (beginE m m.ni) (.slice a7 (beginE m m.ni).n c7) w7 (PS.out.below B7.out) SL7.out (by have := beginE_n m m.ni; omega))
      go_upto_region 14 with (go_at_call 25; refine HWT.out.mono ?_; rintro z w8 ⟨rfl, hp8, hk8⟩; have P8 := Lib.hid hp8; have K8 := Lib.hid hk8; clear hp8 hk8)
      have FP : Hid (PAt (nwS S0 P bm bs) P bm bc bs m xd xp (.slice al m.nl cl) xi vS (newP m) 0 0 w8) := ⟨inv_new hc HR.out, ⟨_, by have := beginE_n m m.ni; omega, P8.out⟩, fun q hq => Nat.lt_of_lt_of_le (Nat.lt_of_lt_of_le (LOS.out q hq) B7.out.size) K8.out.size⟩
      have FB : Hid (Below w.heap.size w w8) := by
        have b6 : Below w.heap.size w6 wr := KW.out.bot D1.out.2.2.2.2.2.2.2 (fun k hk => by have := D1.out.2.2.2.2.2.2.1; simp [oneS]; omega)
        have b8 : Below w.heap.size w7 w8 := K8.out.bot (by have := B7.out.size; have := KW.out.size; have := D1.out.2.2.2.2.2.2.2; omega) (fun k hk => T3.no (by have := D1.out.2.2.2.2.2.2.1; omega) (by have := HBM.out; omega) (by have := BS1.out; have := D1.out.2.2.2.2.2.2.2; omega))
        exact ((BW6.out.trans b6).trans (B7.out.mono (by have := KW.out.size; have := D1.out.2.2.2.2.2.2.2; omega))).trans b8
      have FD := Lib.hid (show w.heap.size ≤ P ∧ w.heap.size ≤ bm ∧ w.heap.size ≤ bs from ⟨D1.out.2.2.2.2.2.2.1, HBM.out, by have := BS1.out; have := D1.out.2.2.2.2.2.2.2; omega⟩)
      go_wp2_with fail
      go_ret2
      exact ⟨P, bm, bc, bs, xd, xp, .slice al m.nl cl, xi, vS, rfl, FD.out, FP.out, FB.out⟩

theorem pnew_bad (m : Mdl) (vd vp vl vi : Value) (w : World) (hm : MdlAt m vd vp vl vi w) (hc : chkN m ≠ 0) :
    Calls Tryz.prog 7 #[mval m vd vp vl vi] w fun z w' => z = .returned (.tuple #[.pointer none, .int .i64 15]) ∧ Below w.heap.size w w' := by
  have h15 : chkN m = 15 := by unfold chkN at hc ⊢; split <;> simp_all
  have HK : Hid (∀ u, Below w.heap.size w u → Calls Tryz.prog 20 #[.agg #[.int .i64 m.seed, .float .f64 m.fin, vd, vp, vl, vi]] u fun e w' => e = .returned (.int .i64 15) ∧ Below u.heap.size u w') := fun u k => by
    have := check_any m _ _ _ _ u (hm.below k)
    rw [h15] at this
    exact this
  have X1 := Lib.hid (heap_alloc_new w (.cells #[.int .i64 m.seed, .float .f64 m.fin, vd, vp, vl, vi] 28))
  have B1 := Lib.hid (balloc w (.cells #[.int .i64 m.seed, .float .f64 m.fin, vd, vp, vl, vi] 28))
  clear hm hc h15
  unfold mval
  go_enter Tryz.func7, Tryz.ntmps7
  go_upto_region 1 with fail
  generalize w.alloc (.cells #[.int .i64 m.seed, .float .f64 m.fin, vd, vp, vl, vi] 28) = w1 at *
  obtain ⟨m0, m1, m2, m3, m4, m5⟩ := six_cells7 X1.out
  go_wp2_with (go_at_call 20; refine (HK.out _ B1.out).mono ?_; rintro z w2 ⟨rfl, hb2⟩; have B2 := Lib.hid (B1.out.trans (hb2.mono B1.out.size)); clear hb2 m0 m1 m2 m3 m4 m5)
  go_ret2
  exact ⟨rfl, B2.out⟩

end Go.Proofs.YthkfaeplmmlnlaaGreat
namespace Go.Proofs.YthkfaeplmmlnlaaGreat
open Go.RowKit Go.Deep Go.Maps
set_option linter.unusedVariables false
set_option maxRecDepth 100000

/-- what the ticker's run hands back -/
def TkRow (v : Value) (u : World) : Prop := ∃ b c, v = .slice (some ⟨b, 0, none⟩) 3 c ∧ u.cell? ⟨b, 0, none⟩ = some (.float .f64 4607182418800017408) ∧ u.cell? ⟨b, 6, none⟩ = some (.float .f64 4609434218613702656) ∧ u.cell? ⟨b, 12, none⟩ = some (.float .f64 4611686018427387904) ∧ u.cell? ⟨b, 16, none⟩ = some (.int .i64 7)
set_option maxHeartbeats 3200000 in
theorem awake9_any (w : World) : Calls Tryz.prog 6 #[] w fun e w' => e = .returned (.bool true) ∧ Below w.heap.size w w' := by
  have HN : Hid (∀ u vd vp vl vi, MdlAt tkM vd vp vl vi u → Calls Tryz.prog 7 #[mval tkM vd vp vl vi] u fun z w' => ∃ P bm bc bs xd xp xl xi vS, z = .returned (.tuple #[.pointer (some ⟨P, 0, none⟩), .int .i64 0]) ∧ (u.heap.size ≤ P ∧ u.heap.size ≤ bm ∧ u.heap.size ≤ bs) ∧ PAt (nwS (fun _ => false) P bm bs) P bm bc bs tkM xd xp xl xi vS (newP tkM) 0 0 w' ∧ Below u.heap.size u w') := fun u vd vp vl vi hm => pnew_any tkM vd vp vl vi u hm tk_check tk_r (fun _ => false) (fun k hk => by cases hk)
  have HRN : Hid (∀ S P bm bc bs xd xp xl xi vS u, PAt S P bm bc bs tkM xd xp xl xi vS (newP tkM) 0 0 u → Calls Tryz.prog 19 #[.pointer (some ⟨P, 0, none⟩), .int .i64 9] u fun z w' => ∃ v, z = .returned v ∧ TkRow v w' ∧ PAt S P bm bc bs tkM xd xp xl xi vS (stepsP tkM 3 (newP tkM)) 3 3 w' ∧ KpS (T3 P bm bs) u w') := fun S P bm bc bs xd xp xl xi vS u h => by
    refine (prun_any S P bm bc bs tkM xd xp xl xi vS (newP tkM) 0 0 9 u h tk_check tk_r (by decide) (by decide)).mono ?_
    rintro z w' ⟨v, j, rfl, h1, h2, h3, h4, h5, h6⟩
    obtain ⟨t0, t1, t2, t3⟩ := tk_runs
    obtain ⟨d0, d1, d2, d3⟩ := tk_done
    have h1 : j ≤ 9 := h1
    have h3 : j < 9 → (stepsP tkM j (newP tkM)).W = [] := h3
    have hj : j = 3 := by
      by_cases c : j = 3
      · exact c
      · by_cases c2 : 3 < j
        · exact absurd (List.length_eq_zero_iff.1 t3) (h2 3 c2)
        · have h9 := h3 (by omega)
          have : j = 0 ∨ j = 1 ∨ j = 2 := by omega
          rcases this with rfl | rfl | rfl
          · exact absurd (by rw [h9]; rfl) t0
          · exact absurd (by rw [h9]; rfl) t1
          · exact absurd (by rw [h9]; rfl) t2
    subst hj
    refine ⟨v, rfl, ?_, h5, h6⟩
    obtain ⟨a, c, rfl, _, _, hk⟩ := own_sl h4
    rcases h4.2 with ⟨_, e9⟩ | ⟨g9, cap, cur, e9, _⟩
    · cases e9
    simp only [Value.slice.injEq, true_and] at e9
    obtain ⟨rfl, rfl⟩ := e9
    obtain ⟨b, o, e8, hA⟩ := hk (by decide)
    simp only [Option.some.injEq, Addr.mk.injEq, and_true] at e8
    obtain ⟨rfl, rfl⟩ := e8
    have r0 := hA.2 0 (by decide) 0 (by decide)
    have r1 := hA.2 1 (by decide) 0 (by decide)
    have r2 := hA.2 2 (by decide) 0 (by decide)
    have r3 := hA.2 2 (by decide) 4 (by decide)
    simp only [gD, d0, d1, d2, d3] at r0 r1 r2 r3
    exact ⟨g9, _, rfl, r0, r1, r2, r3⟩
  have f0 : (FloatKind.f64.format.order 4607182418800017408 4607182418800017408 == some Ordering.eq) = true := by decide +kernel
  have f1 : (FloatKind.f64.format.order 4609434218613702656 4609434218613702656 == some Ordering.eq) = true := by decide +kernel
  have f2 : (FloatKind.f64.format.order 4611686018427387904 4611686018427387904 == some Ordering.eq) = true := by decide +kernel
  have T3L := Lib.hid tk_runs.2.2.2
  have HT := Lib.hid (ticker_any w)
  unfold mval at HN HT
  go_enter Tryz.func6, Tryz.ntmps6
  go_upto_region 2 with (first
    | (go_at_call 18; refine HT.out.mono ?_; rintro z w1 ⟨vd, vp, vl, vi, rfl, hm, hb1⟩; have M1 := Lib.hid hm; have B1 := Lib.hid hb1; clear hm hb1)
    | (go_at_call 7; refine (HN.out _ _ _ _ _ M1.out).mono ?_; rintro z w2 ⟨P, bm, bc, bs, xd, xp, xl, xi, vS, rfl, hlo, hp, hb2⟩; have P2 := Lib.hid hp; have LO := Lib.hid hlo; have B2 := Lib.hid (B1.out.trans (hb2.mono B1.out.size)); clear hp hlo hb2)
    | fail)
  go_upto_region 5 with (first
    | (go_at_call 19; refine (HRN.out _ _ _ _ _ _ _ _ _ _ _ P2.out).mono ?_; rintro z w3 ⟨v, rfl, ⟨b, c, rfl, r0, r1, r2, r3⟩, hp, hk⟩; have P3 := Lib.hid hp; have B3 : Hid (Below w.heap.size w w3) := (B2.out.trans (hk.bot B2.out.size (fun k hk => T3.no (by have := LO.out; have := B1.out.size; omega) (by have := LO.out; have := B1.out.size; omega) (by have := LO.out; have := B1.out.size; omega)))); clear hp hk)
    | fail)
  have HWT := Lib.hid (P3.out.wait)
  rw [T3L.out] at HWT
  have HHD := Lib.hid (P3.out.handled)
  go_wp2_with (first
    | (go_at_call 13; refine HWT.out.mono ?_; rintro z w4 ⟨rfl, hw4⟩; rw [hw4]; clear hw4 w4)
    | (go_at_call 14; refine HHD.out.mono ?_; rintro z w4 ⟨rfl, hw4⟩; rw [hw4]; clear hw4 w4)
    | fail)
  go_ret
  exact ⟨rfl, B3.out⟩

end Go.Proofs.YthkfaeplmmlnlaaGreat
namespace Go.Proofs.YthkfaeplmmlnlaaGreat
set_option linter.unusedVariables false

def r64 (n : Int) : Prop := -9223372036854775808 ≤ n ∧ n ≤ 9223372036854775807
/-- all numbers within their 64 bits -/
structure Rng (m : Mdl) : Prop where
  seed : r64 m.seed
  fin : m.fin < 18446744073709551616
  d : ∀ i, i < m.nd → m.d i < 18446744073709551616
  pr : ∀ i, i < m.np → ∀ k, k < m.pl i → r64 (m.pr i k).op ∧ r64 (m.pr i k).a ∧ r64 (m.pr i k).b ∧ r64 (m.pr i k).c
  lp : ∀ i, i < m.nl → r64 (m.lp i)
  wd : ∀ i, i < m.nl → ∀ k, k < m.wl i → r64 (m.wd i k)
  ev : ∀ i, i < m.ni → (m.ev i).t < 18446744073709551616 ∧ r64 (m.ev i).dst ∧ r64 (m.ev i).pay

end Go.Proofs.YthkfaeplmmlnlaaGreat
namespace Go.Proofs.YthkfaeplmmlnlaaGreat
open Go.RowKit Go.Deep
set_option linter.unusedVariables false
set_option maxRecDepth 100000

set_option maxHeartbeats 1600000 in
theorem light8_any (m : Mdl) (vd vp vl vi : Value) (w : World) (hm : MdlAt m vd vp vl vi w) :
    Calls Tryz.prog 5 #[mval m vd vp vl vi] w fun e w' => ∃ b, e = .returned (.bool b) ∧ Below w.heap.size w w' := by
  obtain ⟨ad, cd, rfl, _, _, _⟩ := id hm.d
  obtain ⟨ai, ci, rfl, _, _, _⟩ := id hm.i
  obtain ⟨gp, hp1, hp2⟩ := id hm.p
  obtain ⟨ap, cp, rfl, mp1, mp2, kp⟩ := hp1
  obtain ⟨gl, hl1, hl2⟩ := id hm.l
  obtain ⟨al, cl, rfl, ml1, ml2, kl⟩ := hl1
  have KP := Lib.hid kp
  have KL := Lib.hid kl
  have HP := Lib.hid hp2
  have HL := Lib.hid hl2
  unfold mval
  have X1 := Lib.hid (heap_alloc_new w (.cells #[.int .i64 m.seed, .float .f64 m.fin, .slice ad m.nd cd, .slice ap m.np cp, .slice al m.nl cl, .slice ai m.ni ci] 28))
  have B1 := Lib.hid (balloc w (.cells #[.int .i64 m.seed, .float .f64 m.fin, .slice ad m.nd cd, .slice ap m.np cp, .slice al m.nl cl, .slice ai m.ni ci] 28))
  clear hm hp2 hl2 kp kl
  obtain ⟨m0, m1, m2, m3, m4, m5⟩ := six_cells7 X1.out
  go_enter Tryz.func5, Tryz.ntmps5
  go_upto_region 1 with fail
  generalize w.alloc (.cells #[.int .i64 m.seed, .float .f64 m.fin, .slice ad m.nd cd, .slice ap m.np cp, .slice al m.nl cl, .slice ai m.ni ci] 28) = u at *
  by_cases h1 : 10 < m.np
  · have d1 : decide ((10 : Int) < (m.np : Int)) = true := by simp; omega
    clear h1
    go_wp2_with fail
    go_ret
    exact ⟨_, rfl, B1.out⟩
  have d1 : decide ((10 : Int) < (m.np : Int)) = false := by simp; omega
  by_cases h2 : 20 < m.nl
  · have d2 : decide ((20 : Int) < (m.nl : Int)) = true := by simp; omega
    clear h1 h2
    go_wp2_with fail
    go_ret
    exact ⟨_, rfl, B1.out⟩
  have d2 : decide ((20 : Int) < (m.nl : Int)) = false := by simp; omega
  by_cases h3 : 60 < m.nd
  · have d3 : decide ((60 : Int) < (m.nd : Int)) = true := by simp; omega
    clear h1 h2 h3
    go_wp2_with fail
    go_ret
    exact ⟨_, rfl, B1.out⟩
  have d3 : decide ((60 : Int) < (m.nd : Int)) = false := by simp; omega
  by_cases h4 : 60 < m.ni
  · have d4 : decide ((60 : Int) < (m.ni : Int)) = true := by simp; omega
    clear h1 h2 h3 h4
    go_wp2_with fail
    go_ret
    exact ⟨_, rfl, B1.out⟩
  have d4 : decide ((60 : Int) < (m.ni : Int)) = false := by simp; omega
  clear h1 h2 h3 h4
  go_wp2_with fail
  go_loopw [3] (fun x wr => ∃ j : Nat, j ≤ m.np ∧ x = .int .i64 j ∧ wr = u) (fun x _ => m.np - (intOf x).toNat)
  case atStart => exact ⟨0, Nat.zero_le _, rfl, rfl⟩
  case round =>
    obtain ⟨j, hj, rfl, hw⟩ := hrel
    subst wr
    by_cases hlt : j < m.np
    · obtain ⟨b, o, rfl, hat⟩ := KP.out (by omega)
      have c0 := (hat.below B1.out).one j hlt
      simp only [gV] at c0
      obtain ⟨aq, cq, eq, _⟩ := HP.out j hlt
      rw [eq] at c0
      have hj2 : (j : Int) < (m.np : Int) := by omega
      have hj0 : (0 : Int) ≤ (j : Int) := by omega
      have hjt : ((j : Nat) : Int).toNat = j := by omega
      clear hat eq
      by_cases hq : 100 < m.pl j
      · have dq : decide ((100 : Int) < (m.pl j : Int)) = true := by simp; omega
        clear hq
        go_wp2_with fail
        go_ret
        exact ⟨_, rfl, B1.out⟩
      · have dq : decide ((100 : Int) < (m.pl j : Int)) = false := by simp; omega
        clear hq
        go_wp2_with fail
        go_roundw
        case rel => exact ⟨j + 1, by omega, by go_num, trivial⟩
        case measure => simp [intOf]; omega
    · obtain rfl : j = m.np := by omega
      go_wp2_with fail
      go_loopw [4] (fun x wr => ∃ j : Nat, j ≤ m.nl ∧ x = .int .i64 j ∧ wr = u) (fun x _ => m.nl - (intOf x).toNat)
      case atStart => exact ⟨0, Nat.zero_le _, rfl, rfl⟩
      case round =>
        obtain ⟨j, hj, rfl, hw⟩ := hrel
        subst wr
        by_cases hlt : j < m.nl
        · obtain ⟨b, o, rfl, hat⟩ := KL.out (by omega)
          obtain ⟨c1, c0⟩ := (hat.below B1.out).two j hlt
          simp only [gL] at c0
          obtain ⟨aq, cq, eq, _⟩ := HL.out j hlt
          rw [eq] at c0
          have hj2 : (j : Int) < (m.nl : Int) := by omega
          have hj0 : (0 : Int) ≤ (j : Int) := by omega
          have hjt : ((j : Nat) : Int).toNat = j := by omega
          clear hat eq
          by_cases hq : 60 < m.wl j
          · have dq : decide ((60 : Int) < (m.wl j : Int)) = true := by simp; omega
            clear hq
            go_wp2_with fail
            go_ret
            exact ⟨_, rfl, B1.out⟩
          · have dq : decide ((60 : Int) < (m.wl j : Int)) = false := by simp; omega
            clear hq
            go_wp2_with fail
            go_roundw
            case rel => exact ⟨j + 1, by omega, by go_num, trivial⟩
            case measure => simp [intOf]; omega
        · obtain rfl : j = m.nl := by omega
          go_wp2_with fail
          go_ret
          exact ⟨_, rfl, B1.out⟩

end Go.Proofs.YthkfaeplmmlnlaaGreat
