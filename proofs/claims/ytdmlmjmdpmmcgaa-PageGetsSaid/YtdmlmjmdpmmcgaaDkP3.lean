/- The contracts of the program's loosen and Write. -/
import Derived.Test.YtdmlmjmdpmmcgaaDkP2
import Derived.Deep.DeepCutAuto
import Derived.Deep.Upon
import Derived.Deep.WholeRow
import Derived.Test.YtdmlmjmdpmmcgaaTakeQ
import Derived.Test.YtdmlmjmdpmmcgaaHeldLast
namespace Go.Proofs.Ytdmlmjmdpmmcgaa
open Go.RowKit Go.Deep Go.Maps
set_option linter.unusedVariables false
set_option linter.unusedSimpArgs false
set_option maxRecDepth 100000

variable {base P bS bm cS : Nat} {d : Dk} {u : World}
def looseD (d : Dk) (i : Nat) : Dk := { d with is := upd d.is i true, nw := upd d.nw i (nowD d i) }
theorem loose_now (d : Dk) (i k : Nat) : nowD (looseD d i) k = nowD d k := by
  unfold looseD nowD upd
  by_cases e : k = i
  · subst e; simp
  · simp [e]
theorem loose_same {i : Nat} (h : d.is i = true) : (looseD d i).is = d.is := by
  funext k
  unfold looseD upd
  by_cases e : k = i
  · subst e; simp [h]
  · simp [e]
theorem zero_sec : (Try.prog.info? 85).map (fun i => (i.zero, i.size)) = some (some (.agg (secV fun _ => 0).toArray), 64) := by kernel_rfl
theorem size_sec : (Try.prog.info? 85).map (·.size) = some 64 := by kernel_rfl
theorem zero_val (w : World) : (zeroValue 85).run Try.prog w = .ok (.agg (secV fun _ => 0).toArray) w := (zero_of_info zero_sec).1 w

set_option maxHeartbeats 3200000 in
theorem ploosen_any (h : PDk base P bS bm cS d u) (hn : d.n ≤ 4096) (i : Nat) (hi : i < d.n) : Calls Try.prog 54 #[.pointer (some ⟨P, 0, none⟩), .int .i64 (i : Int)] u fun r u' => r = .returned (.tuple #[]) ∧ PDk base P bS bm cS (looseD d i) u' ∧ KpS (P3 P bS bm) u u' := by
  have R := Lib.hid h
  obtain ⟨c0, c1, c2, c3, c4, cf⟩ := h.cells
  obtain ⟨c, r1, r2, r3, r4⟩ := h.mp.look (zero_val u) rfl hi hn
  have hcs : c.size = 64 := by
    rw [r2]; split
    · rfl
    · exact secV_size _
  have hc1 : c.all (·.oneCell') = true := by
    cases hq : d.is i with
    | true => rw [r3 hq]; exact all_oneCell_toArray (secV_one _)
    | false => rw [r4 hq]; exact all_oneCell_toArray (secV_one _)
  have hst : ∀ Z : Array Value, Z.size = 64 → (storeCells ⟨u.heap.size, 0, none⟩ c.toList 0).run Try.prog (u.alloc (.cells Z 85)) = .ok () (u.alloc (.cells c 85)) := fun Z hz =>
    run_storeCells_new (P := Try.prog) u 85 Z c (by rw [size_sec, hcs]) (by rw [hz, hcs]) hc1
  have B1 := Lib.hid (balloc u (.cells c 85))
  clear h r2 r3 r4 hc1 c2 c3 c4 cf c0
  go_enter Try.func54, Try.ntmps54
  go_upto_region 1 with fail
  generalize u.alloc (.cells c 85) = w1 at *
  clear hst hcs
  have R1 := Lib.hid (R.out.below B1.out)
  have K1 := Lib.hid (KpS.of B1.out : KpS (P3 P bS bm) u w1)
  cases hs : d.is i with
  | true =>
    have F : Hid (PDk base P bS bm cS (looseD d i) w1) := R1.out.congr rfl rfl rfl rfl (fun k _ => by rw [loose_same hs]) (fun _ _ _ _ _ => rfl) (fun k _ j _ => by rw [loose_now])
    go_wp2_with fail
    exact bodyPost_end (v := .tuple #[]) (by simp [results, Try.results54, go_sem]) rfl ⟨rfl, F.out, K1.out⟩
  | false =>
    go_upto_region 2 with fail
    refine wp_region_held_drew (S := (fun w' => w'.cell? ⟨P, 0, none⟩ = some (.slice (some ⟨bS, 0, none⟩) d.n cS) ∧ w'.cell? ⟨P, 1, none⟩ = some (.map (some bm)) ∧ w'.rangeAt bS (i * 64) (secV (nowD d i)))) (by kernel_rfl) ?_ (fun hHeld => ?_)
    · have R2 := R1.out.below (bdrew w1)
      exact ⟨R2.cells.1, R2.cells.2.1, R2.row.range hi⟩
    have R2 := Lib.hid (R1.out.below (bdrew w1))
    have K2 := Lib.hid (K1.out.on (bdrew w1))
    change wpAnyH _ _ _ _ _ _ _ _ (World.drew w1)
    generalize World.drew w1 = w2 at *
    first | refine tq0 0 rfl ?_ | refine tq1 0 rfl ?_
    try go_frame
    first | refine tq0 1 rfl ?_ | refine tq1 1 rfl ?_
    try go_frame
    first | refine tq0 2 rfl ?_ | refine tq1 2 rfl ?_
    try go_frame
    first | refine tq0 3 rfl ?_ | refine tq1 3 rfl ?_
    try go_frame
    first | refine tq0 4 rfl ?_ | refine tq1 4 rfl ?_
    try go_frame
    first | refine tq0 5 rfl ?_ | refine tq1 5 rfl ?_
    try go_frame
    first | refine tq0 6 rfl ?_ | refine tq1 6 rfl ?_
    try go_frame
    first | refine tq0 7 rfl ?_ | refine tq1 7 rfl ?_
    try go_frame
    first | refine tq0 8 rfl ?_ | refine tq1 8 rfl ?_
    try go_frame
    first | refine tq0 9 rfl ?_ | refine tq1 9 rfl ?_
    try go_frame
    first | refine tq0 10 rfl ?_ | refine tq1 10 rfl ?_
    try go_frame
    refine wpAnyH_take (i := 11) (oi := ⟨_, _, _, _, _, _⟩) (v := .agg (secV (nowD d i)).toArray) rfl (by kernel_rfl) (by kernel_rfl) (by kernel_rfl) (fun _ _ _ h => h) (yieldsIf_load_mid (by rfl) 85 _ rfl bS (i * 64) rfl (secV (nowD d i)) _ (fun w hw => hw.2.2) Try.underlying85 rfl (by rw [size_sec, secV_len])) (by assumption) ?_
    try simp only [Act.put, List.setIfInBounds_toArray, List.set_cons_zero, List.set_cons_succ]
    obtain ⟨w3, hrun, hmp, hgr, hsz⟩ := R2.out.mp.put hi hn hs (nowD d i)
    refine wpAnyH_ready (rs := [12]) (by kernel_rfl) (by simp) ?_
    refine AllReadyH.cons (o := ⟨_, _, _, _, _, _⟩) rfl (fun K hK => ?_) AllReadyH.nil
    go_simp
    have GR := Lib.hid hgr
    have MP := Lib.hid hmp
    have NE := Lib.hid R2.out.ne
    have LT := Lib.hid R2.out.lt
    have HB3 := Lib.hid ((hgr.block _ LT.out.1 (by simp; exact NE.out.2.1)).trans R2.out.box)
    have HR3 := Lib.hid (R2.out.row.kept (hgr.block _ LT.out.2.1 (by simp; exact NE.out.2.2)))
    clear hgr hmp
    refine hK.out _ _ ?_ (fun hHeld => ?_)
    · exact ⟨by rw [Lib.cell_of_heap HB3.out]; rfl, by rw [Lib.cell_of_heap HB3.out]; rfl, HR3.out.range hi⟩
    clear hK K
    try simp only [Act.put, List.setIfInBounds_toArray, List.set_cons_zero, List.set_cons_succ]
    refine wpAnyH_done (by kernel_rfl) ?_ _
    have F : Hid (PDk base P bS bm cS (looseD d i) w3) := by
      refine ⟨HB3.out, ?_, ?_, R2.out.lo⟩
      · rw [show nowD (looseD d i) = nowD d from funext fun k => loose_now d i k]; exact HR3.out
      · refine MP.out.congr (fun k hk => rfl) (fun k hk hs2 j hj => ?_)
        show d.sf k j = upd d.sf i (nowD d i) k j
        unfold upd
        split
        · rename_i e; subst e
          unfold nowD; rw [hs]; rfl
        · rfl
    have K3 := Lib.hid (K2.out.trans (KpS.grown GR.out (P3.c P bS bm)))
    clear hrun hHeld
    go_wp2_with fail
    exact bodyPost_end (v := .tuple #[]) (by simp [results, Try.results54, go_sem]) rfl ⟨rfl, F.out, K3.out⟩

/-- a sector filled with zeros, and then with a text -/
def fillG (d : Dk) (i : Nat) (f : Nat → Int) : Nat → Nat → Int := fun k => if k = i then f else nowD d k
theorem zeros_at {T : TypeId} {b n i : Nat} {v : Value} {u : World} (h : RowB T 64 b (gB (nowD d)) n v u) (hi : i < n) : RowB T 64 b (gB (fillG d i fun _ => 0)) n v (u.setCells b (i * 64) (secV fun _ => 0)) := by
  have := h.sets (o := 0) hi (secV fun _ => 0) (by rw [secV_len]; omega) (G2 := gB (fillG d i fun _ => 0)) (fun k hk => ?_) (fun k hk j hj hne => ?_)
  · exact this
  · rw [secV_len] at hk
    rw [secV_at _ hk]
    simp [gB, fillG]
  · rw [secV_len] at hne
    by_cases e : k = i
    · subst e; exact absurd ⟨rfl, by omega, by omega⟩ hne
    · simp [gB, fillG, e]
theorem text_at {T : TypeId} {b n i : Nat} {v : Value} {u : World} (s : ByteArray) (h : RowB T 64 b (gB (fillG d i fun _ => 0)) n v u) (hi : i < n) : RowB T 64 b (gB (fillG d i (byD s))) n v (u.setCells b (i * 64) ((Lib.byteCells s.data.toList).take (Nat.min s.size 64))) := by
  have hl : ((Lib.byteCells s.data.toList).take (Nat.min s.size 64)).length = Nat.min s.size 64 := by
    rw [List.length_take, Lib.byteCells_length, show s.data.toList.length = s.size by simp]
    exact Nat.min_eq_left (Nat.min_le_left _ _)
  have hm1 : Nat.min s.size 64 ≤ s.size := Nat.min_le_left _ _
  have hm2 : Nat.min s.size 64 ≤ 64 := Nat.min_le_right _ _
  have hm3 : s.size ≤ Nat.min s.size 64 ∨ 64 ≤ Nat.min s.size 64 := by
    rcases Nat.le_total s.size 64 with c | c
    · exact .inl (Nat.le_of_eq (Nat.min_eq_left c).symm)
    · exact .inr (Nat.le_of_eq (Nat.min_eq_right c).symm)
  refine h.sets (o := 0) hi _ (by rw [hl]; omega) (fun k hk => ?_) (fun k hk j hj hne => ?_)
  · have hk2 := hk
    rw [hl] at hk2
    have e := byD_cell s (j := k) (by omega)
    have e2 : ((Lib.byteCells s.data.toList).take (Nat.min s.size 64))[k]? = some (.int .u8 (byD s k)) := by rw [List.getElem?_take, if_pos hk2]; exact e
    rw [List.getElem?_eq_getElem hk] at e2
    rw [Option.some.inj e2]
    simp [gB, fillG]
  · by_cases e : k = i
    · subst e
      rw [hl] at hne
      have : s.size ≤ j := by
        rcases hm3 with c | c
        · have : ¬ j < 0 + Nat.min s.size 64 := fun hq => hne ⟨rfl, by omega, hq⟩
          omega
        · exact absurd ⟨rfl, by omega, by omega⟩ hne
      simp [gB, fillG, byD_out this]
    · simp [gB, fillG, e]
theorem put_now (d : Dk) (i : Nat) (s : ByteArray) : nowD (putD d i s) = fillG d i (byD s) := by
  funext k
  unfold nowD putD fillG upd
  by_cases e : k = i
  · subst e; simp
  · simp [e, nowD]
theorem fill_loose (d : Dk) (i : Nat) (f : Nat → Int) : fillG (looseD d i) i f = fillG d i f := by
  funext k
  unfold fillG
  rw [loose_now]
theorem kps_setCells {S : Nat → Bool} {b : Nat} (hb : S b = true) (l : List Value) (o : Nat) (w : World) : KpS S w (w.setCells b o l) := KpS.sets hb l o w
theorem setCells_else {b q : Nat} (h : q ≠ b) : ∀ (l : List Value) (o : Nat) (w : World), (w.setCells b o l).heap[q]? = w.heap[q]?
  | [], _, _ => rfl
  | v :: l, o, w => (setCells_else h l (o + 1) _).trans (set_else v h)

/-- a store of a whole sector -/
theorem wpList_store_sec (f : Nat → Int) {ops : Array Oper} {rest : List Oper} {op : Oper} {a : Act} {w : World} {Q : Exit → Act → World → Prop} (hgd : op.guard = none) (b o : Nat)
    (ho : ∃ x y cells, op.op = .store 85 x y ∧ a.eval x = .pointer (some ⟨b, o, none⟩) ∧ a.eval y = .agg cells ∧ cells = (secV f).toArray) (ht : w.there b o 64)
    {w3 : World} (hw : w3 = w.setCells b o (secV f)) (h : wpList Try.prog ops Q rest (a.put op.dst undef) w3) : wpList Try.prog ops Q (op :: rest) a w := by
  obtain ⟨x, y, cells, ho, hx, hy, rfl⟩ := ho
  subst hw
  exact wpList_store_mid hgd _ x y ho b o _ hx hy (by rw [secV_size]; exact ht) (by rw [size_sec, secV_size]) (all_oneCell_toArray (secV_one _)) h
set_option maxHeartbeats 3200000 in
theorem pwrite_any (h : PDk base P bS bm cS d u) (hb : BdD d) (i : Int) (s : ByteArray) : Calls Try.prog 26 #[.pointer (some ⟨P, 0, none⟩), .int .i64 i, .string s] u fun r u' => r = .returned (.int .i64 (writeE d i)) ∧ PDk base P bS bm cS (writeD d i s) u' ∧ KpS (P3 P bS bm) u u' := by
  have R := Lib.hid h
  have HBD := Lib.hid hb
  have H := Lib.hid (pat_any h i)
  unfold readE at H
  unfold writeE writeD
  go_enter Try.func26, Try.ntmps26
  cases hd : d.down with
  | true =>
    rw [hd] at H
    clear h hb
    go_wp2_with fail
    refine (H.out).mono ?_
    rintro e w1 ⟨rfl, rfl⟩
    go_wp2_with fail
    go_ret
    exact ⟨rfl, R.out, KpS.refl _ _⟩
  | false =>
    rw [hd] at H
    by_cases h1 : i < 0 ∨ (d.n : Int) ≤ i
    · rw [if_neg (by decide), if_pos h1] at H
      clear h hb
      go_wp2_with fail
      refine (H.out).mono ?_
      rintro e w1 ⟨rfl, rfl⟩
      go_wp2_with fail
      go_ret
      refine ⟨?_, ?_, KpS.refl _ _⟩
      · first
          | rfl
          | (simp only [if_pos h1]; rfl)
      · first
          | exact R.out
          | (rw [if_pos h1]; exact R.out)
          | (rw [if_neg (by decide), if_pos h1]; exact R.out)
    · rw [if_neg (by decide), if_neg h1] at H
      obtain ⟨k, rfl⟩ : ∃ k : Nat, i = (k : Int) := ⟨i.toNat, by omega⟩
      have hk : k < d.n := by omega
      have hk0 : (0 : Int) ≤ (k : Int) := by omega
      have hlt : (k : Int) < (d.n : Int) := by omega
      have hn := hb.n
      have H2 := Lib.hid (ploosen_any h hn k hk)
      have HK := Lib.hid hk
      have HD := Lib.hid hd
      have H1 := Lib.hid h1
      clear h hb h1 hk hd
      go_wp2_with fail
      refine (H.out).mono ?_
      rintro e w1 ⟨rfl, rfl⟩
      go_wp2_with fail
      refine (H2.out).mono ?_
      rintro e w2 ⟨rfl, r2, k2⟩
      have R2 := Lib.hid r2
      have K2 := Lib.hid k2
      obtain ⟨c0, c1, c2, c3, c4, cf⟩ := r2.cells
      obtain ⟨n1, n2, n3⟩ := r2.ne
      change w2.cell? ⟨P, 0, none⟩ = some (.slice (some ⟨bS, 0, none⟩) d.n cS) at c0
      clear r2 k2 c1 c2 c3 c4 cf H H2
      have ht := R2.out.row.there HK.out 0 64 (by omega)
      rw [Nat.add_zero] at ht
      have HT := Lib.hid ht
      clear ht
      obtain ⟨w3, hw3⟩ : ∃ w3, w3 = w2.setCells bS (k * 64) (secV fun _ => 0) := ⟨_, rfl⟩
      have ROW3 : Hid (RowB 85 64 bS (gB (fillG d k fun _ => 0)) d.n (.slice (some ⟨bS, 0, none⟩) d.n cS) w3) := by
        rw [hw3]
        have := zeros_at (i := k) R2.out.row HK.out
        rw [fill_loose] at this
        exact this
      have C0 : w3.cell? ⟨P, 0, none⟩ = some (.slice (some ⟨bS, 0, none⟩) d.n cS) := by
        rw [hw3]
        exact (World.cell?_of_block (setCells_else n1 _ _ _)).trans c0
      have EL3 : Hid (∀ q, q ≠ bS → w3.heap[q]? = w2.heap[q]?) := fun q hq => by rw [hw3]; exact setCells_else hq _ _ _
      have K3 := Lib.hid (show KpS (P3 P bS bm) w1 w3 by rw [hw3]; exact K2.out.trans (kps_setCells (P3.b P bS bm) _ _ _))
      have HW3 := Lib.hid hw3
      clear hw3
      have hcp := run_copy_text (P := Try.prog) w3 69 9 3 5 bS (k * 64) 64 64 s Try.underlying69 (by kernel_rfl) (by
        have := ROW3.out.there HK.out 0 (Nat.min s.size 64) (by have : Nat.min s.size 64 ≤ 64 := Nat.min_le_right _ _; omega)
        simpa using this)
      obtain ⟨w4, hw4⟩ : ∃ w4, w4 = w3.setCells bS (k * 64) ((Lib.byteCells s.data.toList).take (Nat.min s.size 64)) := ⟨_, rfl⟩
      rw [← hw4] at hcp
      have R4 : Hid (PDk base P bS bm cS (putD d k s) w4) := by
        have e4 : ∀ q, q ≠ bS → w4.heap[q]? = w2.heap[q]? := fun q hq => by rw [hw4, setCells_else hq]; exact EL3.out q hq
        refine ⟨(e4 _ n1).trans R2.out.box, ?_, (R2.out.mp.kept (e4 _ n3.symm)).congr (fun _ _ => rfl) (fun _ _ _ _ _ => rfl), R2.out.lo⟩
        rw [put_now, hw4]
        exact text_at s ROW3.out HK.out
      have K4 := Lib.hid (show KpS (P3 P bS bm) w1 w4 by rw [hw4]; exact K3.out.trans (kps_setCells (P3.b P bS bm) _ _ _))
      have H5 := Lib.hid (pcount_any R4.out ⟨HBD.out.n, HBD.out.calls, HBD.out.arm⟩ HD.out)
      clear hw4
      go_wp2_with (with_reducible refine wpList_store_sec (fun _ => 0) rfl bS (k * 64) ?_ HT.out HW3.out ?_; (focus (refine ⟨_, _, _, rfl, rfl, rfl, ?_⟩; kernel_rfl)))
      refine (H5.out).mono ?_
      rintro e w5 ⟨rfl, r5, k5⟩
      have R5 := Lib.hid r5
      have K5 := Lib.hid (K4.out.trans k5)
      clear r5 k5
      go_wp2_with fail
      go_ret
      refine ⟨?_, ?_, K5.out⟩
      · first
          | rfl
          | (rw [if_neg H1.out]; rfl)
      · first
          | exact R5.out
          | (have := R5.out; rw [← HD.out]; exact this)
          | (rw [if_neg H1.out]; exact R5.out)

end Go.Proofs.Ytdmlmjmdpmmcgaa
