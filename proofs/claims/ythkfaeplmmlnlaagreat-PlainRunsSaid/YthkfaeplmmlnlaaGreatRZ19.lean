/- The contract of the closure that finds the number of the least event, in whatever order the map is gone through. The contract of the program's wait: events are laid into the map, under numbers that none had before. The contract of the program's take: the least event is taken out of the map. -/
import Derived.Test.YthkfaeplmmlnlaaGreatRZ12
import Derived.Test.YthkfaeplmmlnlaaGreatRZ0
import Derived.Test.YthkfaeplmmlnlaaGreatRActP4
import Derived.Test.YthkfaeplmmlnlaaGreatRZ8
import Derived.Test.YthkfaeplmmlnlaaGreatRZ3
namespace Go.Proofs.YthkfaeplmmlnlaaGreat
open Go.RowKit Go.Deep Go.Maps
set_option linter.unusedVariables false
set_option maxRecDepth 100000

theorem lawInt : Keyed Tryz.prog 3 := int_keyed Tryz.underlying3
theorem leE_refl (a : Evn) : leE a a := by
  unfold leE
  have := ordE_turn a a
  omega
/-- what was found among those that came -/
def Seen (L : List (Int × Evn)) (left : Lit → Bool) (x : Int) (fe : Evn) : Prop :=
  (x = -1 ∧ ∀ p ∈ L, left (kl p.1) = true) ∨ (0 ≤ x ∧ (x, fe) ∈ L ∧ ∀ p ∈ L, left (kl p.1) = false → leE fe p.2)
theorem left_no {left : Lit → Bool} {k : Int} {q : Int} (h : (left (kl q) && !(kl q).sameKey (kl k)) = false) : left (kl q) = false ∨ q = k := by
  cases c : left (kl q) with
  | false => exact .inl rfl
  | true =>
    rw [c] at h
    simp only [Bool.true_and, Bool.not_eq_false'] at h
    have := WideAt.sameKey_eq h
    exact .inr (by injection this)
theorem seen_first {D : DataW Evn} {L : List (Int × Evn)} (h : WtIs D L) {left : Lit → Bool} {k : Int} {e : Evn} (hk : (k, e) ∈ L) (h0 : 0 ≤ k) {fe : Evn} (hs : Seen L left (-1) fe) : Seen L (fun z => left z && !z.sameKey (kl k)) k e := by
  refine .inr ⟨h0, hk, fun p hp hl => ?_⟩
  have hl0 : left (kl p.1) = true := by
    rcases hs with ⟨_, hs⟩ | ⟨hs, _⟩
    · exact hs p hp
    · omega
  rcases left_no hl with c | c
  · rw [hl0] at c; cases c
  · obtain ⟨q, e2⟩ := p
    have c : q = k := c
    subst c
    rw [wtIs_one h hp hk]
    exact leE_refl e
theorem seen_less {D : DataW Evn} {L : List (Int × Evn)} (h : WtIs D L) {left : Lit → Bool} {k x : Int} {e fe : Evn} (hk : (k, e) ∈ L) (h0 : 0 ≤ k) (hx : ¬ x < 0) (hs : Seen L left x fe) (hc : ordE e fe < 0) : Seen L (fun z => left z && !z.sameKey (kl k)) k e := by
  refine .inr ⟨h0, hk, fun p hp hl => ?_⟩
  rcases hs with ⟨hs, _⟩ | ⟨_, _, hs⟩
  · omega
  rcases left_no hl with c | c
  · exact leE_trans (show leE e fe by unfold leE; omega) (hs p hp c)
  · obtain ⟨q, e2⟩ := p
    have c : q = k := c
    subst c
    rw [wtIs_one h hp hk]
    exact leE_refl e
theorem seen_stay {D : DataW Evn} {L : List (Int × Evn)} (h : WtIs D L) {left : Lit → Bool} {k x : Int} {e fe : Evn} (hk : (k, e) ∈ L) (hx : ¬ x < 0) (hs : Seen L left x fe) (hc : ¬ ordE e fe < 0) : Seen L (fun z => left z && !z.sameKey (kl k)) x fe := by
  rcases hs with ⟨hs, _⟩ | ⟨h1, h2, hs⟩
  · omega
  refine .inr ⟨h1, h2, fun p hp hl => ?_⟩
  rcases left_no hl with c | c
  · exact hs p hp c
  · obtain ⟨q, e2⟩ := p
    have c : q = k := c
    subst c
    rw [wtIs_one h hp hk]
    have := ordE_turn e fe
    show ordE fe e ≤ 0
    omega
theorem wtIs_mem {D : DataW Evn} {L : List (Int × Evn)} (h : WtIs D L) {k : Int} {e : Evn} (hat : ∀ zd, D.atKey (kl k) zd = .held e) : (k, e) ∈ L := by
  obtain ⟨e2, h2⟩ := (h.has k).1 (has_true_of_atKey hat)
  have := (h.at_ k e2 h2 .nil).symm.trans (hat .nil)
  injection this with e3
  rw [← e3]; exact h2

theorem below_free {B : Nat} {w w2 : World} (h : w.grownBy w2 none) (hB : B ≤ w.heap.size) : Below B w w2 :=
  ⟨h.os, h.tape, h.output, h.size, fun k hk => h.block k (by omega) (by simp)⟩
theorem below_at {B b : Nat} {w w2 : World} (h : w.grownBy w2 (some b)) (hB : B ≤ w.heap.size) (hb : B ≤ b) : Below B w w2 :=
  ⟨h.os, h.tape, h.output, h.size, fun k hk => h.block k (by omega) (by simp; omega)⟩
theorem ranges_below {w w2 : World} {P : Program} {k : TypeId} {R : Value → Option (DataW Evn × List MemPlace)} {b r n : Nat} {D : DataW Evn} {left : Lit → Bool} {cnt : Nat} (h : w.ranges P k R b r n D left cnt) (g : Below w.heap.size w w2) : w2.ranges P k R b r n D left cnt :=
  h.kept (row := none) ⟨g.os, g.tape, g.output, g.size, fun i hi _ => g.block i hi⟩ (by simp) (by simp)
theorem ranges_drew {w : World} {P : Program} {k : TypeId} {R : Value → Option (DataW Evn × List MemPlace)} {b r n : Nat} {D : DataW Evn} {left : Lit → Bool} {cnt : Nat} (h : w.ranges P k R b r n D left cnt) : w.drew.ranges P k R b r n D left cnt := ranges_below h (bdrew w)
theorem other_sets8 {q b : Nat} (h : q ≠ b) : ∀ (l : List Value) (o : Nat) (w : World), (w.setCells b o l).heap[q]? = w.heap[q]?
  | [], _, w => rfl
  | v :: l, o, w => (other_sets8 h l (o + 1) _).trans (Below.heap_setCell w ⟨b, o, none⟩ v q h)
theorem ranges_sets {P : Program} {k : TypeId} {R : Value → Option (DataW Evn × List MemPlace)} {b r n : Nat} {D : DataW Evn} {left : Lit → Bool} {cnt q : Nat} {w : World} (h : w.ranges P k R b r n D left cnt) (hb : b ≠ q) (hr : r ≠ q) (l : List Value) (o : Nat) : (w.setCells q o l).ranges P k R b r n D left cnt := by
  obtain ⟨es, clock, since, seen, c0, e1, F, hs, hD, e2, rest⟩ := h
  exact ⟨es, clock, since, seen, c0, (other_sets8 hb l o w).trans e1, F, hs, hD, (other_sets8 hr l o w).trans e2, rest⟩

set_option maxHeartbeats 3200000 in
theorem seek_any (bm bc n : Nat) (D : DataW Evn) (L : List (Int × Evn)) (w : World) (ho : w.ownsMap Tryz.prog 3 evR bm n D) (hw : WtIs D L) (hk : ∀ p ∈ L, 0 ≤ p.1) (hcap : w.heap[bc]? = some (.cells #[.map (some bm)] 66 (0, 0))) :
    Calls Tryz.prog 54 #[.pointer (some ⟨bc, 0, none⟩)] w fun r w' => ∃ x : Int, r = .returned (.int .i64 x) ∧ ((L = [] ∧ x = -1) ∨ ∃ e, (x, e) ∈ L ∧ ∀ p ∈ L, leE e p.2) ∧ Below w.heap.size w w' := by
  have hsf := store_float
  have HW := Lib.hid hw
  have HKK := Lib.hid hk
  clear hw hk
  have X1 := Lib.hid (heap_alloc_new w (.cells #[.float .f64 0, .int .i64 0, .int .i64 0, .int .i64 0, .int .i64 0] 41))
  have B1 := Lib.hid (balloc w (.cells #[.float .f64 0, .int .i64 0, .int .i64 0, .int .i64 0, .int .i64 0] 41))
  have O1 := Lib.hid (ho.alloc (.cells #[.float .f64 0, .int .i64 0, .int .i64 0, .int .i64 0, .int .i64 0] 41))
  have Z1 : Hid ((w.alloc (.cells #[.float .f64 0, .int .i64 0, .int .i64 0, .int .i64 0, .int .i64 0] 41)).heap.size = w.heap.size + 1) := World.size_alloc _ _
  have C1 := Lib.hid ((B1.out.block _ (lt_of_block hcap)).trans hcap)
  have HB := Lib.hid ho.lt
  clear ho
  go_enter Tryz.func54, Tryz.ntmps54
  go_upto_region 2 with fail
  generalize w.alloc (.cells #[.float .f64 0, .int .i64 0, .int .i64 0, .int .i64 0, .int .i64 0] 41) = w1 at *
  have c1 : w1.cell? ⟨bc, 0, none⟩ = some (.map (some bm)) := by rw [Lib.cell_of_heap C1.out]; rfl
  go_wp2_with (first
    | (at_range; refine wpList_range_own _ rfl _ 66 rfl 3 41 lawInt Tryz.underlying66 evR bm n D rfl O1.out ?_; intro w0 hrg0 hg0 hs0)
    | fail)
  go_frame
  have hbm : bm ≠ w.heap.size := by have := HB.out; omega
  have RG0 := Lib.hid hrg0
  have BL0 := Lib.hid (B1.out.trans (below_free hg0 (by have := B1.out.size; omega)))
  have XF0 := Lib.hid ((hg0.block _ (lt_of_block X1.out) (by simp)).trans X1.out)
  clear hrg0 hg0 hs0 c1
  go_loopw [2] (fun v wr => ∃ (left : Lit → Bool) (cnt : Nat) (x : Int) (fe : Evn), v = .int .i64 x ∧ wr.ranges Tryz.prog 3 evR bm w1.heap.size n D left cnt ∧ wr.heap[w.heap.size]? = some (.cells #[.float .f64 fe.t, .int .i64 fe.src, .int .i64 fe.n, .int .i64 fe.dst, .int .i64 fe.pay] 41 (0, 0)) ∧ Below w.heap.size w wr ∧ Seen L left x fe) (fun _ wr => wr.rangeLeft bm w1.heap.size)
  case atStart => exact ⟨_, _, -1, ⟨0, 0, 0, 0, 0⟩, rfl, RG0.out, XF0.out, BL0.out, .inl ⟨rfl, fun p hp => (HW.out.has p.1).2 ⟨p.2, hp⟩⟩⟩
  case round =>
    obtain ⟨left, cnt, x, fe, rfl, hrg, hbx, hbl, hsn⟩ := hrel
    have HRG := Lib.hid hrg
    have HBX := Lib.hid hbx
    have HBL := Lib.hid hbl
    have HSN := Lib.hid hsn
    clear hrg hbx hbl hsn
    go_wp2_with (first
      | (at_next; refine wpList_next_ranges _ rfl _ rfl 3 lawInt evR (Value.int .i64) eval8 (fun key kl hkey => by obtain ⟨x, rfl, _⟩ := Maps.keyOf_int_inv Tryz.underlying3 hkey; exact ⟨x, rfl⟩) (fun v y hv => by obtain ⟨e, rfl, _⟩ := evR_inv hv; exact ⟨e, rfl⟩) bm w1.heap.size n D left cnt rfl HRG.out ?_ ?_)
      | fail)
    · intro h0 hl0
      have FIN : Hid ((L = [] ∧ x = -1) ∨ ∃ e, (x, e) ∈ L ∧ ∀ p ∈ L, leE e p.2) := by
        rcases HSN.out with ⟨e1, h1⟩ | ⟨e1, e2, h1⟩
        · refine .inl ⟨?_, e1⟩
          cases L with
          | nil => rfl
          | cons p r => have := h1 p List.mem_cons_self; rw [hl0] at this; cases this
        · exact .inr ⟨fe, e2, fun p hp => h1 p hp (hl0 _)⟩
      clear h0 hl0
      go_wp2_with fail
      go_ret
      exact ⟨x, rfl, FIN.out, HBL.out⟩
    · intro k e kl2 y yp w2 cnt2 hkey hlk hy hat hrg2 hlt hg2 hs2 hen
      obtain ⟨k2, ek, rfl, hwk⟩ := Maps.keyOf_int_inv Tryz.underlying3 hkey
      cases ek
      rw [evR_mk] at hy
      simp only [Option.some.injEq, Prod.mk.injEq] at hy
      obtain ⟨rfl, rfl⟩ := hy
      have HM := Lib.hid (wtIs_mem HW.out hat)
      have HK0 := Lib.hid (HKK.out _ HM.out)
      have HCNT := Lib.hid hlt
      have HBL2 := Lib.hid ((HBL.out).trans (below_at hg2 HBL.out.size (show w.heap.size ≤ w1.heap.size by have := Z1.out; omega)))
      have HX2 := Lib.hid ((hg2.block _ (lt_of_block HBX.out) (by have := Z1.out; simp; omega)).trans HBX.out)
      have HLT := Lib.hid (show w.heap.size < w2.heap.size from lt_of_block HX2.out)
      have RG3 := Lib.hid (hrg2.alloc (.cells #[.float .f64 e.t, .int .i64 e.src, .int .i64 e.n, .int .i64 e.dst, .int .i64 e.pay] 41))
      have XF3 := Lib.hid ((Below.heap_alloc w2 (.cells #[.float .f64 e.t, .int .i64 e.src, .int .i64 e.n, .int .i64 e.dst, .int .i64 e.pay] 41) _ (lt_of_block HX2.out)).trans HX2.out)
      have XE3 := Lib.hid (heap_alloc_new w2 (.cells #[.float .f64 e.t, .int .i64 e.src, .int .i64 e.n, .int .i64 e.dst, .int .i64 e.pay] 41))
      have BL3 := Lib.hid (HBL2.out.trans ((balloc w2 (.cells #[.float .f64 e.t, .int .i64 e.src, .int .i64 e.n, .int .i64 e.dst, .int .i64 e.pay] 41)).mono HBL2.out.size))
      unfold eval8 at hen
      unfold eval8
      clear hkey hlk hat hrg2 hlt hg2 hs2 hwk
      by_cases hx : x < 0
      · have dx : decide (x < 0) = true := by simp [hx]
        have hx1 : x = -1 := by
          rcases HSN.out with ⟨e1, _⟩ | ⟨e1, _⟩
          · exact e1
          · omega
        have SN := Lib.hid (seen_first HW.out HM.out HK0.out (by rw [← hx1]; exact HSN.out))
        clear hx hx1
        go_upto_region 5 with fail
        generalize (w2.alloc (.cells #[.float .f64 e.t, .int .i64 e.src, .int .i64 e.n, .int .i64 e.dst, .int .i64 e.pay] 41)) = w3 at *
        go_upto_region 6 with fail
        have L7 := Lib.hid (bdrew w3)
        refine wp_region_held_drew (S := (fun w' => w'.cell? ⟨w2.heap.size, 0, none⟩ = some (.float .f64 e.t) ∧ w'.cell? ⟨w2.heap.size, 1, none⟩ = some (.int .i64 e.src) ∧ w'.cell? ⟨w2.heap.size, 2, none⟩ = some (.int .i64 e.n) ∧ w'.cell? ⟨w2.heap.size, 3, none⟩ = some (.int .i64 e.dst) ∧ w'.cell? ⟨w2.heap.size, 4, none⟩ = some (.int .i64 e.pay))) (by kernel_rfl) ?_ (fun hHeld => ?_)
        · exact five_cells8 (show (World.drew w3).heap[w2.heap.size]? = _ from XE3.out)
        change wpAnyH _ _ _ _ _ _ _ _ (World.drew w3)
        first | refine tq0 0 rfl ?_ | refine tq1 0 rfl ?_
        try go_frame
        first | refine tq0 1 rfl ?_ | refine tq1 1 rfl ?_
        try go_frame
        first | refine tq0 2 rfl ?_ | refine tq1 2 rfl ?_
        try go_frame
        refine wpAnyH_ready (rs := [3]) (by kernel_rfl) (by simp) ?_
        refine AllReadyH.cons (o := ⟨_, _, _, _, _, _⟩) rfl (fun K hK => ?_) AllReadyH.nil
        obtain ⟨z0, z1, z2, z3, z4⟩ := five_cells8 XF3.out
        have zf : ∀ q9, w3.frozen? ⟨w.heap.size, q9, none⟩ = false := fun q9 => Lib.frozen_of_heap XF3.out q9
        go_simp
        change K _ (World.setCells (World.drew w3) (w.heap.size) 0 [.float .f64 e.t, .int .i64 e.src, .int .i64 e.n, .int .i64 e.dst, .int .i64 e.pay])
        have N1 := Lib.hid (show (World.setCells (World.drew w3) w.heap.size 0 [.float .f64 e.t, .int .i64 e.src, .int .i64 e.n, .int .i64 e.dst, .int .i64 e.pay]).heap[w.heap.size]? = _ from put_five8 (show (World.drew w3).heap[w.heap.size]? = _ from XF3.out) _ _ _ _ _)
        have N2 := Lib.hid (show (World.setCells (World.drew w3) w.heap.size 0 [.float .f64 e.t, .int .i64 e.src, .int .i64 e.n, .int .i64 e.dst, .int .i64 e.pay]).heap[w2.heap.size]? = _ from (other_sets8 (show w2.heap.size ≠ w.heap.size by have := HLT.out; omega) _ _ _).trans (show (World.drew w3).heap[w2.heap.size]? = _ from XE3.out))
        have N3 := Lib.hid (show Below w.heap.size w (World.setCells (World.drew w3) w.heap.size 0 [.float .f64 e.t, .int .i64 e.src, .int .i64 e.n, .int .i64 e.dst, .int .i64 e.pay]) from (BL3.out).trans ((L7.out.mono BL3.out.size).trans (put_low7 (Nat.le_refl _) _ _ _)))
        have N4 := Lib.hid (ranges_sets (ranges_drew RG3.out) (show bm ≠ w.heap.size from hbm) (show w1.heap.size ≠ w.heap.size by have := Z1.out; omega) [.float .f64 e.t, .int .i64 e.src, .int .i64 e.n, .int .i64 e.dst, .int .i64 e.pay] 0)
        refine hK.out _ _ ?_ (fun hHeld => ?_)
        · exact five_cells8 N2.out
        clear hK K
        try go_frame
        refine wpAnyH_done (by kernel_rfl) ?_ _
        clear z0 z1 z2 z3 z4 zf
        generalize World.setCells (World.drew w3) w.heap.size 0 [.float .f64 e.t, .int .i64 e.src, .int .i64 e.n, .int .i64 e.dst, .int .i64 e.pay] = w9 at *
        go_wp2_with fail
        go_roundw
        case rel => exact ⟨_, cnt2, k, e, rfl, N4.out, N1.out, N3.out, SN.out⟩
        case measure => rw [N4.out.left_eq, HRG.out.left_eq]; exact HCNT.out
      · have dx : decide (x < 0) = false := by simp [hx]
        have HC := Lib.hid (compareAny e fe)
        unfold eval8 at HC
        go_upto_region 5 with fail
        generalize (w2.alloc (.cells #[.float .f64 e.t, .int .i64 e.src, .int .i64 e.n, .int .i64 e.dst, .int .i64 e.pay] 41)) = w3 at *
        obtain ⟨a0, a1, a2, a3, a4⟩ := five_cells8 XE3.out
        obtain ⟨b0, b1, b2, b3, b4⟩ := five_cells8 XF3.out
        by_cases ho : ordE e fe < 0
        · have do_ : decide (ordE e fe < 0) = true := by simp [ho]
          have SN := Lib.hid (seen_less HW.out HM.out HK0.out hx HSN.out ho)
          clear hx ho
          go_upto_region 6 with (go_at_call 55; refine (HC.out _).mono ?_; rintro r w4 ⟨rfl, hb4⟩; have XE4 := Lib.hid ((hb4.block _ (lt_of_block XE3.out)).trans XE3.out); have XF4 := Lib.hid ((hb4.block _ (lt_of_block XF3.out)).trans XF3.out); have BL4 := Lib.hid (bthen BL3.out hb4); have RG4 := Lib.hid (ranges_below RG3.out hb4); clear hb4 a0 a1 a2 a3 a4 b0 b1 b2 b3 b4)
          have L7 := Lib.hid (bdrew w4)
          refine wp_region_held_drew (S := (fun w' => w'.cell? ⟨w2.heap.size, 0, none⟩ = some (.float .f64 e.t) ∧ w'.cell? ⟨w2.heap.size, 1, none⟩ = some (.int .i64 e.src) ∧ w'.cell? ⟨w2.heap.size, 2, none⟩ = some (.int .i64 e.n) ∧ w'.cell? ⟨w2.heap.size, 3, none⟩ = some (.int .i64 e.dst) ∧ w'.cell? ⟨w2.heap.size, 4, none⟩ = some (.int .i64 e.pay))) (by kernel_rfl) ?_ (fun hHeld => ?_)
          · exact five_cells8 (show (World.drew w4).heap[w2.heap.size]? = _ from XE4.out)
          change wpAnyH _ _ _ _ _ _ _ _ (World.drew w4)
          first | refine tq0 0 rfl ?_ | refine tq1 0 rfl ?_
          try go_frame
          first | refine tq0 1 rfl ?_ | refine tq1 1 rfl ?_
          try go_frame
          first | refine tq0 2 rfl ?_ | refine tq1 2 rfl ?_
          try go_frame
          refine wpAnyH_ready (rs := [3]) (by kernel_rfl) (by simp) ?_
          refine AllReadyH.cons (o := ⟨_, _, _, _, _, _⟩) rfl (fun K hK => ?_) AllReadyH.nil
          obtain ⟨z0, z1, z2, z3, z4⟩ := five_cells8 XF4.out
          have zf : ∀ q9, w4.frozen? ⟨w.heap.size, q9, none⟩ = false := fun q9 => Lib.frozen_of_heap XF4.out q9
          go_simp
          change K _ (World.setCells (World.drew w4) (w.heap.size) 0 [.float .f64 e.t, .int .i64 e.src, .int .i64 e.n, .int .i64 e.dst, .int .i64 e.pay])
          have N1 := Lib.hid (show (World.setCells (World.drew w4) w.heap.size 0 [.float .f64 e.t, .int .i64 e.src, .int .i64 e.n, .int .i64 e.dst, .int .i64 e.pay]).heap[w.heap.size]? = _ from put_five8 (show (World.drew w4).heap[w.heap.size]? = _ from XF4.out) _ _ _ _ _)
          have N2 := Lib.hid (show (World.setCells (World.drew w4) w.heap.size 0 [.float .f64 e.t, .int .i64 e.src, .int .i64 e.n, .int .i64 e.dst, .int .i64 e.pay]).heap[w2.heap.size]? = _ from (other_sets8 (show w2.heap.size ≠ w.heap.size by have := HLT.out; omega) _ _ _).trans (show (World.drew w4).heap[w2.heap.size]? = _ from XE4.out))
          have N3 := Lib.hid (show Below w.heap.size w (World.setCells (World.drew w4) w.heap.size 0 [.float .f64 e.t, .int .i64 e.src, .int .i64 e.n, .int .i64 e.dst, .int .i64 e.pay]) from (BL4.out).trans ((L7.out.mono BL4.out.size).trans (put_low7 (Nat.le_refl _) _ _ _)))
          have N4 := Lib.hid (ranges_sets (ranges_drew RG4.out) (show bm ≠ w.heap.size from hbm) (show w1.heap.size ≠ w.heap.size by have := Z1.out; omega) [.float .f64 e.t, .int .i64 e.src, .int .i64 e.n, .int .i64 e.dst, .int .i64 e.pay] 0)
          refine hK.out _ _ ?_ (fun hHeld => ?_)
          · exact five_cells8 N2.out
          clear hK K
          try go_frame
          refine wpAnyH_done (by kernel_rfl) ?_ _
          clear z0 z1 z2 z3 z4 zf
          generalize World.setCells (World.drew w4) w.heap.size 0 [.float .f64 e.t, .int .i64 e.src, .int .i64 e.n, .int .i64 e.dst, .int .i64 e.pay] = w9 at *
          go_wp2_with fail
          go_roundw
          case rel => exact ⟨_, cnt2, k, e, rfl, N4.out, N1.out, N3.out, SN.out⟩
          case measure => rw [N4.out.left_eq, HRG.out.left_eq]; exact HCNT.out
        · have do_ : decide (ordE e fe < 0) = false := by simp [ho]
          have SN := Lib.hid (seen_stay HW.out HM.out hx HSN.out ho)
          clear hx ho
          go_wp2_with (go_at_call 55; refine (HC.out _).mono ?_; rintro r w4 ⟨rfl, hb4⟩; have XF4 := Lib.hid ((hb4.block _ (lt_of_block XF3.out)).trans XF3.out); have BL4 := Lib.hid (bthen BL3.out hb4); have RG4 := Lib.hid (ranges_below RG3.out hb4); clear hb4 a0 a1 a2 a3 a4 b0 b1 b2 b3 b4)
          go_roundw
          case rel => exact ⟨_, cnt2, x, fe, rfl, RG4.out, XF4.out, BL4.out, SN.out⟩
          case measure => rw [RG4.out.left_eq, HRG.out.left_eq]; exact HCNT.out

end Go.Proofs.YthkfaeplmmlnlaaGreat
namespace Go.Proofs.YthkfaeplmmlnlaaGreat
open Go.RowKit Go.Deep Go.Maps
set_option linter.unusedVariables false
set_option maxRecDepth 100000

theorem insAll_snoc2 (e : Evn) : ∀ (l W : List Evn), insAll W (l ++ [e]) = insE e (insAll W l)
  | [], W => rfl
  | x :: l, W => insAll_snoc2 e l (insE x W)
theorem toL_snoc2 (f : Nat → Evn) (k : Nat) : (List.range (k + 1)).map f = (List.range k).map f ++ [f k] := by rw [List.range_succ, List.map_append]; rfl
/-- one event more -/
theorem MpAt.put {bm nx : Nat} {W : List Evn} {u : World} (h : MpAt bm nx W u) (hn : nx < 1000000) (e : Evn) : ∃ u2, (Instr.mapUpdate 66 (.map (some bm)) (.int .i64 (nx : Int)) (eval8 e)).run Tryz.prog u = .ok () u2 ∧ MpAt bm (nx + 1) (insE e W) u2 ∧ u.grownBy u2 (some bm) ∧ u2.heap.size = u.heap.size := by
  obtain ⟨D, L, h1, h2, h3, h4⟩ := h
  have hw : (Lit.int .i64 (nx : Int)).wf = true := WalkArith.wf_i64 (by omega)
  obtain ⟨u2, r1, r2, r3⟩ := h1.store lawInt Tryz.underlying66 (by unfold maxLen; omega) (keyOf_int_mk Tryz.underlying3 hw) (evR_mk e)
  have hno : ∀ e2, ((nx : Int), e2) ∉ L := fun e2 h9 => by have := (h4 _ h9).2; simp at this
  refine ⟨u2, r1, ⟨_, _, r2, wtIs_put h2 hno e, ?_, ?_⟩, r3.grown, ?_⟩
  · rw [List.map_cons]
    exact (h3.cons e).trans (insE_perm e W).symm
  · intro p hp
    rcases List.mem_cons.1 hp with rfl | hp
    · show 0 ≤ (nx : Int) ∧ (nx : Int) < ((nx + 1 : Nat) : Int); omega
    · have := h4 p hp; omega
  · obtain ⟨es, ck, es2, ck2, _, rfl⟩ := r3
    simp [ChangeMaps.setBlock]

set_option maxHeartbeats 3200000 in
theorem pwait_any (S : Nat → Bool) (P bm bc bs : Nat) (m : Mdl) (vd vp vl vi vS : Value) (x : Sm) (nx nd : Nat) (l : Evs) (v : Value) (u : World) (h : PSim S P bm bc bs m vd vp vl vi vS x nx nd u) (hv : Sl 5 (gV8 l.f) l.n v (HdS S u)) (hn : nx + l.n ≤ 100000) :
    Calls Tryz.prog 25 #[.pointer (some ⟨P, 0, none⟩), v] u fun r u' => r = .returned (.tuple #[]) ∧ PSim S P bm bc bs m vd vp vl vi vS ⟨x.S, insAll x.W (toL l)⟩ (nx + l.n) nd u' ∧ KpS (T3 P bm bs) u u' := by
  have hsf := store_float
  have R0 := Lib.hid h
  have HV := Lib.hid hv
  obtain ⟨a, c, rfl, s1, s2, s3⟩ := id hv
  have HN := Lib.hid hn
  clear h hv s3
  go_enter Tryz.func25, Tryz.ntmps25
  go_wp2_with fail
  go_loopw [8] (fun i wr => ∃ j : Nat, j ≤ l.n ∧ i = .int .i64 j ∧ PSim S P bm bc bs m vd vp vl vi vS ⟨x.S, insAll x.W ((List.range j).map l.f)⟩ (nx + j) nd wr ∧ KpS (T3 P bm bs) u wr) (fun i _ => l.n - (intOf i).toNat)
  case atStart => exact ⟨0, Nat.zero_le _, rfl, R0.out, KpS.refl _ u⟩
  case round =>
    obtain ⟨j, hj, rfl, hr, hk⟩ := hrel
    have RQ := Lib.hid hr
    have KQ := Lib.hid hk
    clear hr hk
    obtain ⟨nj, hq⟩ : ∃ q, q = nx + j := ⟨_, rfl⟩
    rw [← hq] at RQ
    have HQ := Lib.hid hq
    clear hq
    have hj0 : (0 : Int) ≤ (j : Int) := by omega
    by_cases hlt : j < l.n
    · have hj2 : (j : Int) < (l.n : Int) := by omega
      have d3 : decide (j < l.n) = true := by simp [hlt]
      obtain ⟨a9, c9, e9, g1, g2, h3⟩ := (HV.out.below (KQ.out.mono R0.out.sub).hd).hds
      simp only [Value.slice.injEq, true_and] at e9
      obtain ⟨rfl, rfl⟩ := e9
      obtain ⟨b, o, rfl, hA⟩ := h3 (by omega)
      have k0 : wr.cell? ⟨b, o + j * 5, none⟩ = some (.float .f64 (l.f j).t) := hA.2 j hlt 0 (by omega)
      have k1 : wr.cell? ⟨b, o + j * 5 + 1, none⟩ = some (.int .i64 (l.f j).src) := hA.2 j hlt 1 (by omega)
      have k2 : wr.cell? ⟨b, o + j * 5 + 2, none⟩ = some (.int .i64 (l.f j).n) := hA.2 j hlt 2 (by omega)
      have k3 : wr.cell? ⟨b, o + j * 5 + 3, none⟩ = some (.int .i64 (l.f j).dst) := hA.2 j hlt 3 (by omega)
      have k4 : wr.cell? ⟨b, o + j * 5 + 4, none⟩ = some (.int .i64 (l.f j).pay) := hA.2 j hlt 4 (by omega)
      have X1 := Lib.hid (heap_alloc_new wr (.cells #[.float .f64 (l.f j).t, .int .i64 (l.f j).src, .int .i64 (l.f j).n, .int .i64 (l.f j).dst, .int .i64 (l.f j).pay] 41))
      have B1 := Lib.hid (balloc wr (.cells #[.float .f64 (l.f j).t, .int .i64 (l.f j).src, .int .i64 (l.f j).n, .int .i64 (l.f j).dst, .int .i64 (l.f j).pay] 41))
      have HJ := Lib.hid hlt
      clear h3 hA hlt
      go_upto_region 3 with fail
      clear k0 k1 k2 k3 k4
      generalize wr.alloc (.cells #[.float .f64 (l.f j).t, .int .i64 (l.f j).src, .int .i64 (l.f j).n, .int .i64 (l.f j).dst, .int .i64 (l.f j).pay] 41) = w1 at *
      have L1 := Lib.hid (B1.out.trans ((bdrew w1).mono B1.out.size))
      have X2 := Lib.hid (show (World.drew w1).heap[wr.heap.size]? = _ from X1.out)
      clear X1 B1
      refine wp_region_held_drew (S := (fun w' => w'.cell? ⟨P, 7, none⟩ = some (.map (some bm)) ∧ w'.cell? ⟨P, 9, none⟩ = some (.int .i64 (nj : Int)) ∧ w'.cell? ⟨wr.heap.size, 0, none⟩ = some (.float .f64 (l.f j).t) ∧ w'.cell? ⟨wr.heap.size, 1, none⟩ = some (.int .i64 (l.f j).src) ∧ w'.cell? ⟨wr.heap.size, 2, none⟩ = some (.int .i64 (l.f j).n) ∧ w'.cell? ⟨wr.heap.size, 3, none⟩ = some (.int .i64 (l.f j).dst) ∧ w'.cell? ⟨wr.heap.size, 4, none⟩ = some (.int .i64 (l.f j).pay))) (by kernel_rfl) ?_ (fun hHeld => ?_)
      · exact ⟨(RQ.out.below L1.out).cells.2.2.2.2.2.2.2.1, (RQ.out.below L1.out).cells.2.2.2.2.2.2.2.2.2.1, five_cells8 X2.out⟩
      change wpAnyH _ _ _ _ _ _ _ _ (World.drew w1)
      generalize World.drew w1 = w2 at *
      have R2 := Lib.hid (RQ.out.below L1.out)
      first | refine tq0 0 rfl ?_ | refine tq1 0 rfl ?_
      try go_frame
      first | refine tq0 1 rfl ?_ | refine tq1 1 rfl ?_
      try go_frame
      first | refine tq0 2 rfl ?_ | refine tq1 2 rfl ?_
      try go_frame
      first | refine tq0 3 rfl ?_ | refine tq1 3 rfl ?_
      try go_frame
      first | refine tq0 4 rfl ?_ | refine tq1 4 rfl ?_
      try go_frame
      first | refine tq0 5 rfl ?_ | refine tq1 5 rfl ?_
      try go_frame
      first | refine tq0 6 rfl ?_ | refine tq1 6 rfl ?_
      try go_frame
      first | refine tq0 7 rfl ?_ | refine tq1 7 rfl ?_
      try go_frame
      first | refine tq0 8 rfl ?_ | refine tq1 8 rfl ?_
      try go_frame
      obtain ⟨w3, hrun, hmp, hgr, hsz⟩ := R2.out.mp.put (by have := HN.out; have := HJ.out; have := HQ.out; omega) (l.f j)
      have MP3 := Lib.hid hmp
      have GR3 := Lib.hid hgr
      have NE := Lib.hid R2.out.ne
      have LT := Lib.hid R2.out.lt
      have PB3 := Lib.hid ((GR3.out.block _ LT.out.1 (by simp; exact NE.out.1)).trans R2.out.box)
      have X3 := Lib.hid ((GR3.out.block _ (lt_of_block X2.out) (by simp; have := RQ.out.lt.2.1; omega)).trans X2.out)
      unfold eval8 at hrun
      clear hmp hgr
      refine wpAnyH_ready (rs := [9]) (by kernel_rfl) (by simp) ?_
      refine AllReadyH.cons (o := ⟨_, _, _, _, _, _⟩) rfl (fun K hK => ?_) AllReadyH.nil
      go_simp
      refine hK.out _ _ ?_ (fun hHeld => ?_)
      · exact ⟨by rw [Lib.cell_of_heap PB3.out]; rfl, by rw [Lib.cell_of_heap PB3.out]; rfl, five_cells8 X3.out⟩
      clear hK K
      try go_frame
      refine wpAnyH_done (by kernel_rfl) ?_ _
      clear hrun hHeld
      have K3 := Lib.hid ((KpS.of L1.out).trans (KpS.grown GR3.out (T3.p2 P bm bs)))
      have c9 : w3.cell? ⟨P, 9, none⟩ = some (.int .i64 (nj : Int)) := by rw [Lib.cell_of_heap PB3.out]; rfl
      have f9 : w3.frozen? ⟨P, 9, none⟩ = false := Lib.frozen_of_heap PB3.out 9
      have hnx : nj ≤ 100000 := by have := HN.out; have := HJ.out; have := HQ.out; omega
      have K4 := Lib.hid (K3.out.trans (KpS.set (T3.p1 P bm bs) 9 (.int .i64 ((nj : Int) + 1)) w3))
      have PB4 := Lib.hid (show (w3.setCell ⟨P, 9, none⟩ (.int .i64 ((nj : Int) + 1))).heap[P]? = some (.cells (pbox m vd vp vl vi vS bm bc (nj + 1 : Nat) nd).toArray 70 (0, 0)) from Joins.block_setCell (i := 9) PB3.out _)
      have MP4 := Lib.hid (MP3.out.kept (Below.heap_setCell w3 ⟨P, 9, none⟩ (.int .i64 ((nj : Int) + 1)) bm (fun e9 => NE.out.1 e9.symm)))
      have BS4 := Lib.hid (((Below.heap_setCell w3 ⟨P, 9, none⟩ (.int .i64 ((nj : Int) + 1)) bs (fun e9 => NE.out.2.1 e9.symm)).trans (GR3.out.block _ LT.out.2.2.1 (by simp; exact fun e9 => NE.out.2.2.1 e9.symm))).trans (L1.out.block _ RQ.out.lt.2.2.1))
      go_wp2_with fail
      generalize w3.setCell ⟨P, 9, none⟩ (.int .i64 ((nj : Int) + 1)) = w4 at *
      go_roundw
      case rel =>
        refine ⟨j + 1, HJ.out, by go_num, ?_, KQ.out.trans K4.out⟩
        rw [show nx + (j + 1) = nj + 1 by have := HQ.out; omega, toL_snoc2, insAll_snoc2]
        exact RQ.out.next K4.out PB4.out (RQ.out.sts K4.out BS4.out) MP4.out
      case measure => have := HJ.out; simp [intOf]; omega
    · obtain rfl : j = l.n := by omega
      have d3 : decide (l.n < l.n) = false := by simp
      have FIN : Hid (PSim S P bm bc bs m vd vp vl vi vS ⟨x.S, insAll x.W (toL l)⟩ (nx + l.n) nd wr) := by
        rw [← HQ.out]; exact RQ.out
      go_wp2_with fail
      exact bodyPost_end (v := .tuple #[]) (by simp [results, Tryz.results25, go_sem]) rfl ⟨rfl, FIN.out, KQ.out⟩

end Go.Proofs.YthkfaeplmmlnlaaGreat
namespace Go.Proofs.YthkfaeplmmlnlaaGreat
open Go.RowKit Go.Deep Go.Maps
set_option linter.unusedVariables false
set_option maxRecDepth 100000

theorem zeroEv (w : World) : (zeroValue 41).run Tryz.prog w = .ok (eval8 ⟨0, 0, 0, 0, 0⟩) w := by kernel_rfl
/-- what take asks of the map -/
structure TkAt (bm nx : Nat) (k : Int) (e : Evn) (r : List Evn) (u : World) : Prop where
  look : (Instr.lookup 66 (.map (some bm)) (.int .i64 k) false).run Tryz.prog u = .ok (.agg #[.float .f64 e.t, .int .i64 e.src, .int .i64 e.n, .int .i64 e.dst, .int .i64 e.pay]) u
  wf : (Lit.int .i64 k).wf = true
  del : ∃ D, u.ownsMap Tryz.prog 3 evR bm nx D ∧ ∀ u2, u2.ownsMap Tryz.prog 3 evR bm nx (D.del (kl k)) → MpAt bm nx r u2
theorem tkAt_of {bm nx : Nat} {e : Evn} {r : List Evn} {u : World} {D : DataW Evn} {L : List (Int × Evn)} (h1 : u.ownsMap Tryz.prog 3 evR bm nx D) (h2 : WtIs D L) (h3 : (L.map (fun p => p.2)).Perm (e :: r)) (h4 : ∀ p ∈ L, 0 ≤ p.1 ∧ p.1 < (nx : Int)) (hn : nx ≤ 1000000)
    (so : (e :: r).Pairwise leE) (un : (e :: r).Pairwise unE) {k : Int} {e2 : Evn} (hm : (k, e2) ∈ L) (hl : ∀ p ∈ L, leE e2 p.2) : TkAt bm nx k e r u := by
  obtain ⟨r2, hr2⟩ := least_head h3 so un (List.mem_map.2 ⟨_, hm, rfl⟩) (fun y hy => by obtain ⟨p, hp, rfl⟩ := List.mem_map.1 hy; exact hl p hp)
  obtain ⟨rfl, rfl⟩ := List.cons.inj hr2
  have hk := h4 _ hm
  have hw : (Lit.int .i64 k).wf = true := WalkArith.wf_i64 (by simp at hk; omega)
  have hkey := keyOf_int_mk Tryz.underlying3 hw
  obtain ⟨L2, hp⟩ := mem_split hm
  refine ⟨?_, hw, D, h1, fun u2 ho => ⟨_, L2, ho, wtIs_del (wtIs_perm h2 hp), ?_, fun p hp2 => h4 p (hp.mem_iff.2 (List.mem_cons_of_mem _ hp2))⟩⟩
  · obtain ⟨v, ps, hrun, hv⟩ := h1.lookup lawInt Tryz.underlying66 (zeroEv u) (evR_mk _) hkey
    rw [h2.at_ k e hm] at hv
    obtain ⟨e3, rfl, h9⟩ := evR_inv hv
    simp only [Prod.mk.injEq, DataW.held.injEq] at h9
    obtain ⟨rfl, _⟩ := h9
    exact hrun
  · have := (hp.map (fun p => p.2)).symm.trans h3
    rw [List.map_cons] at this
    exact this.cons_inv

set_option maxHeartbeats 3200000 in
theorem ptake_any (S : Nat → Bool) (P bm bc bs : Nat) (m : Mdl) (vd vp vl vi vS : Value) (x : Sm) (nx nd : Nat) (e : Evn) (r : List Evn) (u : World) (h : PSim S P bm bc bs m vd vp vl vi vS x nx nd u) (hw : x.W = e :: r) (so : x.W.Pairwise leE) (un : x.W.Pairwise unE) (hn : nx ≤ 1000000) :
    Calls Tryz.prog 30 #[.pointer (some ⟨P, 0, none⟩)] u fun z u' => z = .returned (.agg #[.float .f64 e.t, .int .i64 e.src, .int .i64 e.n, .int .i64 e.dst, .int .i64 e.pay]) ∧ PSim S P bm bc bs m vd vp vl vi vS ⟨x.S, r⟩ nx nd u' ∧ KpS (T3 P bm bs) u u' := by
  have hsf := store_float
  have R0 := Lib.hid h
  have NE := Lib.hid h.ne
  have LT := Lib.hid h.lt
  obtain ⟨D, L, h1, h2, h3, h4⟩ := h.mp
  rw [hw] at h3 so un
  have TK : Hid (∀ w, Below u.heap.size u w → ∀ k e2, (k, e2) ∈ L → (∀ p ∈ L, leE e2 p.2) → TkAt bm nx k e r w) := fun w k q e2 hm hl => tkAt_of (h1.kept (row := none) ⟨k.os, k.tape, k.output, k.size, fun i hi _ => k.block i hi⟩ (by simp)) h2 h3 h4 hn so un hm hl
  have SK : Hid (∀ w, Below u.heap.size u w → Calls Tryz.prog 54 #[.pointer (some ⟨bc, 0, none⟩)] w fun r w' => ∃ k : Int, r = .returned (.int .i64 k) ∧ (∃ e, (k, e) ∈ L ∧ ∀ p ∈ L, leE e p.2) ∧ Below w.heap.size w w') := fun w k => by
    refine (seek_any bm bc nx D L w (h1.kept (row := none) ⟨k.os, k.tape, k.output, k.size, fun i hi _ => k.block i hi⟩ (by simp)) h2 (fun p hp => (h4 p hp).1) ((k.block _ h.lt.2.2.2).trans h.cap)).mono ?_
    rintro z w' ⟨q, rfl, h9, hb⟩
    rcases h9 with ⟨rfl, _⟩ | h9
    · rw [List.map_nil] at h3; exact absurd h3.length_eq (by simp)
    · exact ⟨q, rfl, h9, hb⟩
  have X1 := Lib.hid (heap_alloc_new u (.cells #[.float .f64 0, .int .i64 0, .int .i64 0, .int .i64 0, .int .i64 0] 41))
  have B1 := Lib.hid (balloc u (.cells #[.float .f64 0, .int .i64 0, .int .i64 0, .int .i64 0, .int .i64 0] 41))
  clear h hw so un h1 h2 h3 h4
  go_enter Tryz.func30, Tryz.ntmps30
  go_upto_region 1 with fail
  generalize u.alloc (.cells #[.float .f64 0, .int .i64 0, .int .i64 0, .int .i64 0, .int .i64 0] 41) = w1 at *
  obtain ⟨p0, p1, p2, p3, p4, p5, p6, p7, p8, p9, p10, pf⟩ := (R0.out.below B1.out).cells
  unfold fvP at p8
  go_upto_region 2 with (go_at_call 54; refine (SK.out _ B1.out).mono ?_; rintro z w2 ⟨k, rfl, ⟨e2, hm, hl⟩, hb2⟩; have B2 := Lib.hid (B1.out.trans (hb2.mono B1.out.size)); have X2 := Lib.hid ((hb2.block _ (lt_of_block X1.out)).trans X1.out); have T2 := Lib.hid (TK.out _ B2.out k e2 hm hl); clear hm hl hb2 p0 p1 p2 p3 p4 p5 p6 p7 p8 p9 p10 pf)
  obtain ⟨p0, p1, p2, p3, p4, p5, p6, p7, p8, p9, p10, pf⟩ := (R0.out.below B2.out).cells
  have hlk := T2.out.look
  have X3 := Lib.hid (heap_alloc_new w2 (.cells #[.float .f64 e.t, .int .i64 e.src, .int .i64 e.n, .int .i64 e.dst, .int .i64 e.pay] 41))
  have B3 := Lib.hid (B2.out.trans ((balloc w2 (.cells #[.float .f64 e.t, .int .i64 e.src, .int .i64 e.n, .int .i64 e.dst, .int .i64 e.pay] 41)).mono B2.out.size))
  have X23 := Lib.hid ((Below.heap_alloc w2 (.cells #[.float .f64 e.t, .int .i64 e.src, .int .i64 e.n, .int .i64 e.dst, .int .i64 e.pay] 41) _ (lt_of_block X2.out)).trans X2.out)
  have MD : Hid (∃ D, (w2.alloc (.cells #[.float .f64 e.t, .int .i64 e.src, .int .i64 e.n, .int .i64 e.dst, .int .i64 e.pay] 41)).ownsMap Tryz.prog 3 evR bm nx D ∧ ∀ u2, u2.ownsMap Tryz.prog 3 evR bm nx (D.del (kl k)) → MpAt bm nx r u2) := by
    obtain ⟨D2, d1, d2⟩ := T2.out.del
    exact ⟨D2, d1.alloc _, d2⟩
  have WF := Lib.hid T2.out.wf
  go_upto_region 3 with fail
  generalize w2.alloc (.cells #[.float .f64 e.t, .int .i64 e.src, .int .i64 e.n, .int .i64 e.dst, .int .i64 e.pay] 41) = w3 at *
  clear p0 p1 p2 p3 p4 p5 p6 p7 p8 p9 p10 pf hlk
  obtain ⟨p0, p1, p2, p3, p4, p5, p6, p7, p8, p9, p10, pf⟩ := (R0.out.below B3.out).cells
  obtain ⟨D2, d1, d2⟩ := MD.out
  go_upto_region 4 with (first
    | (at_delete; refine wpList_delete_own _ rfl _ _ 66 3 rfl 41 lawInt Tryz.underlying66 evR bm nx D2 rfl d1 _ _ rfl (keyOf_int_mk Tryz.underlying3 WF.out) ?_; intro w4 hown4 hturn4)
    | fail)
  have GR := Lib.hid hturn4.grown
  have MP4 := Lib.hid (d2 _ hown4)
  have R3 := Lib.hid (R0.out.below B3.out)
  have X24 := Lib.hid ((GR.out.block _ (lt_of_block X23.out) (by simp; have := LT.out.2.1; omega)).trans X23.out)
  have X4 := Lib.hid ((GR.out.block _ (lt_of_block X3.out) (by simp; have := LT.out.2.1; have := B2.out.size; omega)).trans X3.out)
  have LU := Lib.hid (show u.heap.size < w2.heap.size from lt_of_block X2.out)
  have LV := Lib.hid (put_low7 (base := u.heap.size) (Nat.le_refl _) [.float .f64 e.t, .int .i64 e.src, .int .i64 e.n, .int .i64 e.dst, .int .i64 e.pay] 0 w4)
  have X5 := Lib.hid (put_five8 X24.out (.float .f64 e.t) (.int .i64 e.src) (.int .i64 e.n) (.int .i64 e.dst) (.int .i64 e.pay))
  have K5 := Lib.hid (show KpS (T3 P bm bs) u (w4.setCells u.heap.size 0 [.float .f64 e.t, .int .i64 e.src, .int .i64 e.n, .int .i64 e.dst, .int .i64 e.pay]) from ((KpS.of B3.out).trans (KpS.grown GR.out (T3.p2 P bm bs))).low LV.out)
  have F5 : Hid (∀ q, q < u.heap.size → q ≠ bm → (w4.setCells u.heap.size 0 [.float .f64 e.t, .int .i64 e.src, .int .i64 e.n, .int .i64 e.dst, .int .i64 e.pay]).heap[q]? = u.heap[q]?) := fun q hq hne => ((LV.out.block q hq).trans (GR.out.block q (Nat.lt_of_lt_of_le hq B3.out.size) (by simp; exact hne))).trans (B3.out.block q hq)
  have R5 : Hid (PSim S P bm bc bs m vd vp vl vi vS ⟨x.S, r⟩ nx nd (w4.setCells u.heap.size 0 [.float .f64 e.t, .int .i64 e.src, .int .i64 e.n, .int .i64 e.dst, .int .i64 e.pay])) := R0.out.next K5.out ((F5.out P LT.out.1 NE.out.1).trans R0.out.box) (R0.out.sts K5.out (F5.out bs LT.out.2.2.1 (fun e9 => NE.out.2.2.1 e9.symm))) (MP4.out.kept (LV.out.block bm LT.out.2.1))
  clear d1 d2 hown4 hturn4 p0 p1 p2 p3 p4 p5 p6 p7 p8 p9 p10 pf
  obtain ⟨e0, e1, e2', e3, e4⟩ := five_cells8 X4.out
  have zf : ∀ q9, w4.frozen? ⟨u.heap.size, q9, none⟩ = false := fun q9 => Lib.frozen_of_heap X24.out q9
  obtain ⟨z0, z1, z2, z3, z4⟩ := five_cells8 X24.out
  go_wp2_with fail
  change bodyPost _ _ _ _ _ (World.setCells w4 u.heap.size 0 [.float .f64 e.t, .int .i64 e.src, .int .i64 e.n, .int .i64 e.dst, .int .i64 e.pay])
  clear z0 z1 z2 z3 z4 zf e0 e1 e2' e3 e4
  generalize World.setCells w4 u.heap.size 0 [.float .f64 e.t, .int .i64 e.src, .int .i64 e.n, .int .i64 e.dst, .int .i64 e.pay] = w5 at *
  obtain ⟨z0, z1, z2, z3, z4⟩ := five_cells8 X5.out
  exact bodyPost_ret (v := .agg #[.float .f64 e.t, .int .i64 e.src, .int .i64 e.n, .int .i64 e.dst, .int .i64 e.pay]) (by simp [results, Tryz.results30, go_sem, z0, z1, z2, z3, z4]) rfl ⟨rfl, R5.out, K5.out⟩

end Go.Proofs.YthkfaeplmmlnlaaGreat
