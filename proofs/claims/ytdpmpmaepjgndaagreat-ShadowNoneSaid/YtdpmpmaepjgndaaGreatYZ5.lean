/- A drawn region whose last operation writes what the region reads: S is asked behind each operation but that one (number X), for which all others wait. The contracts of the program's loosen and Write. -/
import Derived.WalkKit
import Derived.Deep.RegionHeld3
import Derived.Deep.DeepCutAuto
import Derived.Deep.Upon
import Derived.Deep.WholeRow
import Derived.Test.YtdpmpmaepjgndaaGreatYZ4
import Derived.Test.YtdpmpmaepjgndaaGreatYZ3
namespace Go.Proofs.YtdpmpmaepjgndaaGreat
open Go.RowKit
section
variable {P : Program} {ops : Array Oper} {Q : Exit → Act → World → Prop} {md : Region.Mode} {S : World → Prop} {X : Nat}
def wpAnyX (P : Program) (md : Region.Mode) (ops : Array Oper) (Q : Exit → Act → World → Prop) (S : World → Prop) (X : Nat) : Nat → Array Bool → Act → World → Prop
  | 0, l, a, w => Region.ready md ops l = [] ∧ Q .normal a w
  | n + 1, l, a, w => (Region.ready md ops l = [] → Q .normal a w) ∧ ∀ i ∈ Region.ready md ops l, wpOp P ops Q i (fun a2 w2 => (i = X ∨ S w2) ∧ wpAnyX P md ops Q S X n (l.setIfInBounds i true) a2 w2) a w
theorem wpAny_of_x : ∀ (n : Nat) (l : Array Bool) (a : Act) (w : World), wpAnyX P md ops Q S X n l a w → wpAny P md ops Q n l a w
  | 0, _, _, _, h => h
  | n + 1, _, _, _, h => ⟨h.1, fun i hi => wpOp_mono (fun a2 w2 h2 => wpAny_of_x n _ a2 w2 h2.2) (h.2 i hi)⟩
/-- operation X waits for operation i -/
def awaits (md : Region.Mode) (ops : Array Oper) (X i : Nat) : Bool := match ops[X]? with
  | some o => o.after.any fun e => Region.binds md e && e.on == i
  | none => false
theorem wpAnyX_first {i : Nat} {oi : Oper} {v : Value} (hi : ops[i]? = some oi) (hsel : ∀ (j : Nat) (o : Oper) cs b, ops[j]? = some o → o.op ≠ .select cs b)
    (hQ : ∀ c a w, Q (.panic c) (a.put oi.dst v) w → Q (.panic c) a w) (hX : awaits md ops X i = true) :
    ∀ (n : Nat) (l : Array Bool) (a : Act) (w : World),
      (∀ j oj, ops[j]? = some oj → j ≠ i → l.getD j true = false → (∀ e ∈ oj.after, Region.binds md e = true → e.on ≠ i) → oi.apart ops oj = true) →
      i ∈ Region.ready md ops l → YieldsIf P ops S oi v a → S w →
      wpAnyX P md ops Q S X n (l.setIfInBounds i true) (a.put oi.dst v) w → wpAnyX P md ops Q S X (n + 1) l a w := by
  intro n
  induction n with
  | zero =>
    intro l a w _ hr hy hS H
    refine ⟨fun h => (by rw [h] at hr; cases hr), fun j hj => ?_⟩
    by_cases hji : j = i
    · subst hji; exact hy.wpOp hi hS ⟨.inr hS, H⟩
    · have := ready_mono hj hji
      rw [H.1] at this
      cases this
  | succ n ih =>
    intro l a w hfree hr hy hS H
    refine ⟨fun h => (by rw [h] at hr; cases hr), fun j hj => ?_⟩
    by_cases hji : j = i
    · subst hji; exact hy.wpOp hi hS ⟨.inr hS, H⟩
    · have h1 := H.2 j (ready_mono hj hji)
      obtain ⟨hjun, oj, hoj, hall⟩ := mem_ready.1 hj
      have hnot : ∀ e ∈ oj.after, Region.binds md e = true → e.on ≠ i := fun e he hb heq => by
        have h1 := hall e he hb
        have h0 := (mem_ready.1 hr).1
        rw [heq] at h1
        rcases Nat.lt_or_ge i l.size with h' | h'
        · simp [h'] at h0 h1; rw [h0] at h1; cases h1
        · simp [Array.getElem?_eq_none h'] at h1
      have hjX : j ≠ X := fun e => by
        subst e
        unfold awaits at hX
        rw [hoj] at hX
        simp only [Array.any_eq_true, Bool.and_eq_true, beq_iff_eq] at hX
        obtain ⟨k, hk, hb, hon⟩ := hX
        exact hnot _ (Array.getElem_mem hk) hb hon
      have h2 := wpOp_putIf hoj (hfree j oj hoj hji hjun hnot) (fun cs b => hsel i oi cs b hi) (fun cs b => hsel j oj cs b hoj) hQ hy h1
      have hfree2 : ∀ k ok, ops[k]? = some ok → k ≠ i → (l.setIfInBounds j true).getD k true = false →
          (∀ e ∈ ok.after, Region.binds md e = true → e.on ≠ i) → oi.apart ops ok = true := fun k ok hk hki hun hno => by
        refine hfree k ok hk hki ?_ hno
        by_cases hjk : j = k
        · subst hjk; exact hjun
        · rw [getD_set_ne true hjk] at hun; exact hun
      refine wpOp_mono (fun a2 w2 h3 => ?_) h2
      have hS2 : S w2 := h3.2.1.resolve_left hjX
      refine ⟨.inr hS2, ih (l.setIfInBounds j true) a2 w2 hfree2 (ready_mono hr (Ne.symm hji)) h3.1 hS2 ?_⟩
      rw [Array.setIfInBounds_comm _ _ hji]
      exact h3.2.2
theorem wpAnyX_take {i : Nat} {oi : Oper} {v : Value} {n : Nat} {l : Array Bool} {a : Act} {w : World} (hi : ops[i]? = some oi)
    (hs : Region.noSelect ops = true) (hf : Region.free md ops l i = true) (hr : (Region.ready md ops l).contains i = true) (hX : awaits md ops X i = true)
    (hQ : ∀ c a w, Q (.panic c) (a.put oi.dst v) w → Q (.panic c) a w) (hy : YieldsIf P ops S oi v a) (hS : S w)
    (h : wpAnyX P md ops Q S X n (l.setIfInBounds i true) (a.put oi.dst v) w) : wpAnyX P md ops Q S X (n + 1) l a w :=
  wpAnyX_first hi (Region.noSelect_spec hs) hQ hX n l a w (Region.free_spec hi hf) (by simpa using hr) hy hS h
theorem tx0 (i : Nat) {oi : Oper} {n : Nat} {l : Array Bool} {a : Act} {w : World} (hi : ops[i]? = some oi)
    (h : wpAnyX P md ops Q S X n (l.setIfInBounds i true) (a.put oi.dst undef) w)
    (hs : Region.noSelect ops = true := by kernel_rfl) (hf : Region.free md ops l i = true := by kernel_rfl) (hr : (Region.ready md ops l).contains i = true := by kernel_rfl) (hX : awaits md ops X i = true := by kernel_rfl)
    (hQ : ∀ c a w, Q (.panic c) (a.put oi.dst undef) w → Q (.panic c) a w := by exact fun _ _ _ h => h)
    (hw : Region.wanted oi (yielded ops a.tmps) = false := by rfl) (hS : S w := by assumption) : wpAnyX P md ops Q S X (n + 1) l a w := wpAnyX_take hi hs hf hr hX hQ (.inr ⟨hw, rfl⟩) hS h
theorem tx1 (i : Nat) {oi : Oper} {v : Value} {n : Nat} {l : Array Bool} {a : Act} {w : World} (hi : ops[i]? = some oi)
    (hy : ∀ w5, S w5 → (execOp a.eval oi).run P w5 = .ok (.value v) w5)
    (h : wpAnyX P md ops Q S X n (l.setIfInBounds i true) (a.put oi.dst v) w)
    (hs : Region.noSelect ops = true := by kernel_rfl) (hf : Region.free md ops l i = true := by kernel_rfl) (hr : (Region.ready md ops l).contains i = true := by kernel_rfl) (hX : awaits md ops X i = true := by kernel_rfl)
    (hQ : ∀ c a w, Q (.panic c) (a.put oi.dst v) w → Q (.panic c) a w := by exact fun _ _ _ h => h)
    (hw : Region.wanted oi (yielded ops a.tmps) = true := by rfl) (hS : S w := by assumption) : wpAnyX P md ops Q S X (n + 1) l a w := wpAnyX_take hi hs hf hr hX hQ (.inl ⟨hw, hy⟩) hS h
/-- each of the operations rs comes up next -/
def AllReadyX (P : Program) (md : Region.Mode) (ops : Array Oper) (Q : Exit → Act → World → Prop) (S : World → Prop) (X n : Nat) (l : Array Bool) (a : Act) (w : World) (rs : List Nat) : Prop :=
  ∀ i ∈ rs, wpOp P ops Q i (fun a2 w2 => (i = X ∨ S w2) ∧ wpAnyX P md ops Q S X n (l.setIfInBounds i true) a2 w2) a w
theorem AllReadyX.nil {n : Nat} {l : Array Bool} {a : Act} {w : World} : AllReadyX P md ops Q S X n l a w [] := fun _ h => by cases h
theorem AllReadyX.cons {n : Nat} {l : Array Bool} {a : Act} {w : World} {i : Nat} {o : Oper} {rs : List Nat} (ho : ops[i]? = some o)
    (h : ∀ K2 : Act → World → Prop, Shut (∀ a w, S w → (S w → wpAnyX P md ops Q S X n (l.setIfInBounds i true) a w) → K2 a w) → if Region.wanted o (yielded ops a.tmps) = true then Oper.wp P o a w K2 Q else K2 (a.put o.dst undef) w)
    (hs : AllReadyX P md ops Q S X n l a w rs) : AllReadyX P md ops Q S X n l a w (i :: rs) := fun j hj => by
  rcases List.mem_cons.1 hj with rfl | hj
  · exact wpOp_step ho (fun K2 hK => h K2 (fun a w hS hW => hK a w ⟨.inr hS, hW hS⟩))
  · exact hs j hj
theorem wpAnyX_ready {rs : List Nat} {n : Nat} {l : Array Bool} {a : Act} {w : World} (hr : Region.ready md ops l = rs) (hne : rs ≠ [])
    (h : AllReadyX P md ops Q S X n l a w rs) : wpAnyX P md ops Q S X (n + 1) l a w := ⟨fun h0 => absurd (hr ▸ h0) hne, hr ▸ h⟩
/-- the last one, X, and then the end -/
theorem wpAnyX_last {n : Nat} {l : Array Bool} {a : Act} {w : World} {o : Oper} (hr : Region.ready md ops l = [X]) (ho : ops[X]? = some o)
    (h : ∀ K2 : Act → World → Prop, Shut (∀ a w, Q .normal a w → K2 a w) → if Region.wanted o (yielded ops a.tmps) = true then Oper.wp P o a w K2 Q else K2 (a.put o.dst undef) w)
    (hr2 : Region.ready md ops (l.setIfInBounds X true) = []) : wpAnyX P md ops Q S X (n + 1) l a w := by
  refine ⟨fun h0 => absurd (hr ▸ h0) (by simp), fun j hj => ?_⟩
  rw [hr] at hj
  obtain rfl := List.mem_singleton.1 hj
  refine wpOp_step ho (fun K2 hK => h K2 (fun a w hq => hK a w ⟨.inl rfl, ?_⟩))
  cases n with
  | zero => exact ⟨hr2, hq⟩
  | succ n => exact ⟨fun _ => hq, by rw [hr2]; simp⟩
theorem wp_region_x_drew (X : Nat) {id : Nat} {a : Act} {w : World} (hm : P.follows .mixedOrders = true) (hS : S w.drew)
    (h : S w.drew → wpAnyX P .any ops Q S X ops.size (Array.replicate ops.size false) a w.drew) : (Code.region id ops true).wp P Q a w :=
  wp_region_any hm (wpAny_of_x _ _ _ _ (h hS))
end
end Go.Proofs.YtdpmpmaepjgndaaGreat
namespace Go.Proofs.YtdpmpmaepjgndaaGreat
open Go.RowKit Go.Deep Go.Maps
set_option linter.unusedVariables false
set_option linter.unusedSimpArgs false
set_option maxRecDepth 100000

variable {base P bS bm cS : Nat} {d : Dk} {u : World}
def looseD (d : Dk) (i : Nat) : Dk := { d with is := upd d.is i true, nw := upd d.nw i (nowD d i) }
theorem loose_now (d : Dk) (i k : Nat) : nowD (looseD d i) k = nowD d k := by
  unfold looseD nowD upd
  by_cases e : k = i
  · subst e; simp
  · simp [e]
theorem loose_same {i : Nat} (h : d.is i = true) : (looseD d i).is = d.is := by
  funext k
  unfold looseD upd
  by_cases e : k = i
  · subst e; simp [h]
  · simp [e]
theorem zero_sec : (Tryz.prog.info? 96).map (fun i => (i.zero, i.size)) = some (some (.agg (secV fun _ => 0).toArray), 64) := by kernel_rfl
theorem size_sec : (Tryz.prog.info? 96).map (·.size) = some 64 := by kernel_rfl
theorem zero_val (w : World) : (zeroValue 96).run Tryz.prog w = .ok (.agg (secV fun _ => 0).toArray) w := (zero_of_info zero_sec).1 w

set_option maxHeartbeats 3200000 in
theorem ploosen_any (h : PDk base P bS bm cS d u) (hn : d.n ≤ 4096) (i : Nat) (hi : i < d.n) : Calls Tryz.prog 58 #[.pointer (some ⟨P, 0, none⟩), .int .i64 (i : Int)] u fun r u' => r = .returned (.tuple #[]) ∧ PDk base P bS bm cS (looseD d i) u' ∧ KpS (P3 P bS bm) u u' := by
  have R := Lib.hid h
  obtain ⟨c0, c1, c2, c3, c4, cf⟩ := h.cells
  obtain ⟨c, r1, r2, r3, r4⟩ := h.mp.look (zero_val u) rfl hi hn
  have hcs : c.size = 64 := by
    rw [r2]; split
    · rfl
    · exact secV_size _
  have hc1 : c.all (·.oneCell') = true := by
    cases hq : d.is i with
    | true => rw [r3 hq]; exact all_oneCell_toArray (secV_one _)
    | false => rw [r4 hq]; exact all_oneCell_toArray (secV_one _)
  have hst : ∀ Z : Array Value, Z.size = 64 → (storeCells ⟨u.heap.size, 0, none⟩ c.toList 0).run Tryz.prog (u.alloc (.cells Z 96)) = .ok () (u.alloc (.cells c 96)) := fun Z hz =>
    run_storeCells_new (P := Tryz.prog) u 96 Z c (by rw [size_sec, hcs]) (by rw [hz, hcs]) hc1
  have B1 := Lib.hid (balloc u (.cells c 96))
  clear h r2 r3 r4 hc1 c2 c3 c4 cf c0
  go_enter Tryz.func58, Tryz.ntmps58
  go_upto_region 1 with fail
  generalize u.alloc (.cells c 96) = w1 at *
  clear hst hcs
  have R1 := Lib.hid (R.out.below B1.out)
  have K1 := Lib.hid (KpS.of B1.out : KpS (P3 P bS bm) u w1)
  cases hs : d.is i with
  | true =>
    have F : Hid (PDk base P bS bm cS (looseD d i) w1) := R1.out.congr rfl rfl rfl rfl (fun k _ => by rw [loose_same hs]) (fun _ _ _ _ _ => rfl) (fun k _ j _ => by rw [loose_now])
    go_wp2_with fail
    exact bodyPost_end (v := .tuple #[]) (by simp [results, Tryz.results58, go_sem]) rfl ⟨rfl, F.out, K1.out⟩
  | false =>
    go_upto_region 2 with fail
    refine wp_region_held_drew (S := (fun w' => w'.cell? ⟨P, 0, none⟩ = some (.slice (some ⟨bS, 0, none⟩) d.n cS) ∧ w'.cell? ⟨P, 1, none⟩ = some (.map (some bm)) ∧ w'.rangeAt bS (i * 64) (secV (nowD d i)))) (by kernel_rfl) ?_ (fun hHeld => ?_)
    · have R2 := R1.out.below (bdrew w1)
      exact ⟨R2.cells.1, R2.cells.2.1, R2.row.range hi⟩
    have R2 := Lib.hid (R1.out.below (bdrew w1))
    have K2 := Lib.hid (K1.out.on (bdrew w1))
    change wpAnyH _ _ _ _ _ _ _ _ (World.drew w1)
    generalize World.drew w1 = w2 at *
    first | refine tq0 0 rfl ?_ | refine tq1 0 rfl ?_
    try go_frame
    first | refine tq0 1 rfl ?_ | refine tq1 1 rfl ?_
    try go_frame
    first | refine tq0 2 rfl ?_ | refine tq1 2 rfl ?_
    try go_frame
    first | refine tq0 3 rfl ?_ | refine tq1 3 rfl ?_
    try go_frame
    first | refine tq0 4 rfl ?_ | refine tq1 4 rfl ?_
    try go_frame
    first | refine tq0 5 rfl ?_ | refine tq1 5 rfl ?_
    try go_frame
    first | refine tq0 6 rfl ?_ | refine tq1 6 rfl ?_
    try go_frame
    first | refine tq0 7 rfl ?_ | refine tq1 7 rfl ?_
    try go_frame
    first | refine tq0 8 rfl ?_ | refine tq1 8 rfl ?_
    try go_frame
    first | refine tq0 9 rfl ?_ | refine tq1 9 rfl ?_
    try go_frame
    first | refine tq0 10 rfl ?_ | refine tq1 10 rfl ?_
    try go_frame
    refine wpAnyH_take (i := 11) (oi := ⟨_, _, _, _, _, _⟩) (v := .agg (secV (nowD d i)).toArray) rfl (by kernel_rfl) (by kernel_rfl) (by kernel_rfl) (fun _ _ _ h => h) (yieldsIf_load_mid (by rfl) 96 _ rfl bS (i * 64) rfl (secV (nowD d i)) _ (fun w hw => hw.2.2) Tryz.underlying96 rfl (by rw [size_sec, secV_len])) (by assumption) ?_
    try simp only [Act.put, List.setIfInBounds_toArray, List.set_cons_zero, List.set_cons_succ]
    obtain ⟨w3, hrun, hmp, hgr, hsz⟩ := R2.out.mp.put hi hn hs (nowD d i)
    refine wpAnyH_ready (rs := [12]) (by kernel_rfl) (by simp) ?_
    refine AllReadyH.cons (o := ⟨_, _, _, _, _, _⟩) rfl (fun K hK => ?_) AllReadyH.nil
    go_simp
    have GR := Lib.hid hgr
    have MP := Lib.hid hmp
    have NE := Lib.hid R2.out.ne
    have LT := Lib.hid R2.out.lt
    have HB3 := Lib.hid ((hgr.block _ LT.out.1 (by simp; exact NE.out.2.1)).trans R2.out.box)
    have HR3 := Lib.hid (R2.out.row.kept (hgr.block _ LT.out.2.1 (by simp; exact NE.out.2.2)))
    clear hgr hmp
    refine hK.out _ _ ?_ (fun hHeld => ?_)
    · exact ⟨by rw [Lib.cell_of_heap HB3.out]; rfl, by rw [Lib.cell_of_heap HB3.out]; rfl, HR3.out.range hi⟩
    clear hK K
    try simp only [Act.put, List.setIfInBounds_toArray, List.set_cons_zero, List.set_cons_succ]
    refine wpAnyH_done (by kernel_rfl) ?_ _
    have F : Hid (PDk base P bS bm cS (looseD d i) w3) := by
      refine ⟨HB3.out, ?_, ?_, R2.out.lo⟩
      · rw [show nowD (looseD d i) = nowD d from funext fun k => loose_now d i k]; exact HR3.out
      · refine MP.out.congr (fun k hk => rfl) (fun k hk hs2 j hj => ?_)
        show d.sf k j = upd d.sf i (nowD d i) k j
        unfold upd
        split
        · rename_i e; subst e
          unfold nowD; rw [hs]; rfl
        · rfl
    have K3 := Lib.hid (K2.out.trans (KpS.grown GR.out (P3.c P bS bm)))
    clear hrun hHeld
    go_wp2_with fail
    exact bodyPost_end (v := .tuple #[]) (by simp [results, Tryz.results58, go_sem]) rfl ⟨rfl, F.out, K3.out⟩

/-- a sector filled with zeros, and then with a text -/
def fillG (d : Dk) (i : Nat) (f : Nat → Int) : Nat → Nat → Int := fun k => if k = i then f else nowD d k
theorem zeros_at {T : TypeId} {b n i : Nat} {v : Value} {u : World} (h : RowB T 64 b (gB (nowD d)) n v u) (hi : i < n) : RowB T 64 b (gB (fillG d i fun _ => 0)) n v (u.setCells b (i * 64) (secV fun _ => 0)) := by
  have := h.sets (o := 0) hi (secV fun _ => 0) (by rw [secV_len]; omega) (G2 := gB (fillG d i fun _ => 0)) (fun k hk => ?_) (fun k hk j hj hne => ?_)
  · exact this
  · rw [secV_len] at hk
    rw [secV_at _ hk]
    simp [gB, fillG]
  · rw [secV_len] at hne
    by_cases e : k = i
    · subst e; exact absurd ⟨rfl, by omega, by omega⟩ hne
    · simp [gB, fillG, e]
theorem text_at {T : TypeId} {b n i : Nat} {v : Value} {u : World} (s : ByteArray) (h : RowB T 64 b (gB (fillG d i fun _ => 0)) n v u) (hi : i < n) : RowB T 64 b (gB (fillG d i (byD s))) n v (u.setCells b (i * 64) ((Lib.byteCells s.data.toList).take (Nat.min s.size 64))) := by
  have hl : ((Lib.byteCells s.data.toList).take (Nat.min s.size 64)).length = Nat.min s.size 64 := by
    rw [List.length_take, Lib.byteCells_length, show s.data.toList.length = s.size by simp]
    exact Nat.min_eq_left (Nat.min_le_left _ _)
  have hm1 : Nat.min s.size 64 ≤ s.size := Nat.min_le_left _ _
  have hm2 : Nat.min s.size 64 ≤ 64 := Nat.min_le_right _ _
  have hm3 : s.size ≤ Nat.min s.size 64 ∨ 64 ≤ Nat.min s.size 64 := by
    rcases Nat.le_total s.size 64 with c | c
    · exact .inl (Nat.le_of_eq (Nat.min_eq_left c).symm)
    · exact .inr (Nat.le_of_eq (Nat.min_eq_right c).symm)
  refine h.sets (o := 0) hi _ (by rw [hl]; omega) (fun k hk => ?_) (fun k hk j hj hne => ?_)
  · have hk2 := hk
    rw [hl] at hk2
    have e := byD_cell s (j := k) (by omega)
    have e2 : ((Lib.byteCells s.data.toList).take (Nat.min s.size 64))[k]? = some (.int .u8 (byD s k)) := by rw [List.getElem?_take, if_pos hk2]; exact e
    rw [List.getElem?_eq_getElem hk] at e2
    rw [Option.some.inj e2]
    simp [gB, fillG]
  · by_cases e : k = i
    · subst e
      rw [hl] at hne
      have : s.size ≤ j := by
        rcases hm3 with c | c
        · have : ¬ j < 0 + Nat.min s.size 64 := fun hq => hne ⟨rfl, by omega, hq⟩
          omega
        · exact absurd ⟨rfl, by omega, by omega⟩ hne
      simp [gB, fillG, byD_out this]
    · simp [gB, fillG, e]
theorem put_now (d : Dk) (i : Nat) (s : ByteArray) : nowD (putD d i s) = fillG d i (byD s) := by
  funext k
  unfold nowD putD fillG upd
  by_cases e : k = i
  · subst e; simp
  · simp [e, nowD]
theorem fill_loose (d : Dk) (i : Nat) (f : Nat → Int) : fillG (looseD d i) i f = fillG d i f := by
  funext k
  unfold fillG
  rw [loose_now]
theorem kps_setCells {S : Nat → Bool} {b : Nat} (hb : S b = true) (l : List Value) (o : Nat) (w : World) : KpS S w (w.setCells b o l) := KpS.sets hb l o w
theorem setCells_else {b q : Nat} (h : q ≠ b) : ∀ (l : List Value) (o : Nat) (w : World), (w.setCells b o l).heap[q]? = w.heap[q]?
  | [], _, _ => rfl
  | v :: l, o, w => (setCells_else h l (o + 1) _).trans (set_else v h)

/-- a store of a whole sector -/
theorem wpList_store_sec (f : Nat → Int) {ops : Array Oper} {rest : List Oper} {op : Oper} {a : Act} {w : World} {Q : Exit → Act → World → Prop} (hgd : op.guard = none) (b o : Nat)
    (ho : ∃ x y cells, op.op = .store 96 x y ∧ a.eval x = .pointer (some ⟨b, o, none⟩) ∧ a.eval y = .agg cells ∧ cells = (secV f).toArray) (ht : w.there b o 64)
    {w3 : World} (hw : w3 = w.setCells b o (secV f)) (h : wpList Tryz.prog ops Q rest (a.put op.dst undef) w3) : wpList Tryz.prog ops Q (op :: rest) a w := by
  obtain ⟨x, y, cells, ho, hx, hy, rfl⟩ := ho
  subst hw
  exact wpList_store_mid hgd _ x y ho b o _ hx hy (by rw [secV_size]; exact ht) (by rw [size_sec, secV_size]) (all_oneCell_toArray (secV_one _)) h
set_option maxHeartbeats 3200000 in
theorem pwrite_any (h : PDk base P bS bm cS d u) (hb : BdD d) (i : Int) (s : ByteArray) : Calls Tryz.prog 23 #[.pointer (some ⟨P, 0, none⟩), .int .i64 i, .string s] u fun r u' => r = .returned (.int .i64 (writeE d i)) ∧ PDk base P bS bm cS (writeD d i s) u' ∧ KpS (P3 P bS bm) u u' := by
  have R := Lib.hid h
  have HBD := Lib.hid hb
  have H := Lib.hid (pat_any h i)
  unfold readE at H
  unfold writeE writeD
  go_enter Tryz.func23, Tryz.ntmps23
  cases hd : d.down with
  | true =>
    rw [hd] at H
    clear h hb
    go_wp2_with fail
    refine (H.out).mono ?_
    rintro e w1 ⟨rfl, rfl⟩
    go_wp2_with fail
    go_ret
    exact ⟨rfl, R.out, KpS.refl _ _⟩
  | false =>
    rw [hd] at H
    by_cases h1 : i < 0 ∨ (d.n : Int) ≤ i
    · rw [if_neg (by decide), if_pos h1] at H
      clear h hb
      go_wp2_with fail
      refine (H.out).mono ?_
      rintro e w1 ⟨rfl, rfl⟩
      go_wp2_with fail
      go_ret
      refine ⟨?_, ?_, KpS.refl _ _⟩
      · first
          | rfl
          | (simp only [if_pos h1]; rfl)
      · first
          | exact R.out
          | (rw [if_pos h1]; exact R.out)
          | (rw [if_neg (by decide), if_pos h1]; exact R.out)
    · rw [if_neg (by decide), if_neg h1] at H
      obtain ⟨k, rfl⟩ : ∃ k : Nat, i = (k : Int) := ⟨i.toNat, by omega⟩
      have hk : k < d.n := by omega
      have hk0 : (0 : Int) ≤ (k : Int) := by omega
      have hlt : (k : Int) < (d.n : Int) := by omega
      have hn := hb.n
      have H2 := Lib.hid (ploosen_any h hn k hk)
      have HK := Lib.hid hk
      have HD := Lib.hid hd
      have H1 := Lib.hid h1
      clear h hb h1 hk hd
      go_wp2_with fail
      refine (H.out).mono ?_
      rintro e w1 ⟨rfl, rfl⟩
      go_wp2_with fail
      refine (H2.out).mono ?_
      rintro e w2 ⟨rfl, r2, k2⟩
      have R2 := Lib.hid r2
      have K2 := Lib.hid k2
      obtain ⟨c0, c1, c2, c3, c4, cf⟩ := r2.cells
      obtain ⟨n1, n2, n3⟩ := r2.ne
      change w2.cell? ⟨P, 0, none⟩ = some (.slice (some ⟨bS, 0, none⟩) d.n cS) at c0
      clear r2 k2 c1 c2 c3 c4 cf H H2
      have ht := R2.out.row.there HK.out 0 64 (by omega)
      rw [Nat.add_zero] at ht
      have HT := Lib.hid ht
      clear ht
      obtain ⟨w3, hw3⟩ : ∃ w3, w3 = w2.setCells bS (k * 64) (secV fun _ => 0) := ⟨_, rfl⟩
      have ROW3 : Hid (RowB 96 64 bS (gB (fillG d k fun _ => 0)) d.n (.slice (some ⟨bS, 0, none⟩) d.n cS) w3) := by
        rw [hw3]
        have := zeros_at (i := k) R2.out.row HK.out
        rw [fill_loose] at this
        exact this
      have C0 : w3.cell? ⟨P, 0, none⟩ = some (.slice (some ⟨bS, 0, none⟩) d.n cS) := by
        rw [hw3]
        exact (World.cell?_of_block (setCells_else n1 _ _ _)).trans c0
      have EL3 : Hid (∀ q, q ≠ bS → w3.heap[q]? = w2.heap[q]?) := fun q hq => by rw [hw3]; exact setCells_else hq _ _ _
      have K3 := Lib.hid (show KpS (P3 P bS bm) w1 w3 by rw [hw3]; exact K2.out.trans (kps_setCells (P3.b P bS bm) _ _ _))
      have HW3 := Lib.hid hw3
      clear hw3
      have hcp := run_copy_text (P := Tryz.prog) w3 97 9 3 5 bS (k * 64) 64 64 s Tryz.underlying97 (by kernel_rfl) (by
        have := ROW3.out.there HK.out 0 (Nat.min s.size 64) (by have : Nat.min s.size 64 ≤ 64 := Nat.min_le_right _ _; omega)
        simpa using this)
      obtain ⟨w4, hw4⟩ : ∃ w4, w4 = w3.setCells bS (k * 64) ((Lib.byteCells s.data.toList).take (Nat.min s.size 64)) := ⟨_, rfl⟩
      rw [← hw4] at hcp
      have R4 : Hid (PDk base P bS bm cS (putD d k s) w4) := by
        have e4 : ∀ q, q ≠ bS → w4.heap[q]? = w2.heap[q]? := fun q hq => by rw [hw4, setCells_else hq]; exact EL3.out q hq
        refine ⟨(e4 _ n1).trans R2.out.box, ?_, (R2.out.mp.kept (e4 _ n3.symm)).congr (fun _ _ => rfl) (fun _ _ _ _ _ => rfl), R2.out.lo⟩
        rw [put_now, hw4]
        exact text_at s ROW3.out HK.out
      have K4 := Lib.hid (show KpS (P3 P bS bm) w1 w4 by rw [hw4]; exact K3.out.trans (kps_setCells (P3.b P bS bm) _ _ _))
      have H5 := Lib.hid (pcount_any R4.out ⟨HBD.out.n, HBD.out.calls, HBD.out.arm⟩ HD.out)
      clear hw4
      go_wp2_with (with_reducible refine wpList_store_sec (fun _ => 0) rfl bS (k * 64) ?_ HT.out HW3.out ?_; (focus (refine ⟨_, _, _, rfl, rfl, rfl, ?_⟩; kernel_rfl)))
      refine (H5.out).mono ?_
      rintro e w5 ⟨rfl, r5, k5⟩
      have R5 := Lib.hid r5
      have K5 := Lib.hid (K4.out.trans k5)
      clear r5 k5
      go_wp2_with fail
      go_ret
      refine ⟨?_, ?_, K5.out⟩
      · first
          | rfl
          | (rw [if_neg H1.out]; rfl)
      · first
          | exact R5.out
          | (have := R5.out; rw [← HD.out]; exact this)
          | (rw [if_neg H1.out]; exact R5.out)

end Go.Proofs.YtdpmpmaepjgndaaGreat
