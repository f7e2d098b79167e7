/- The contracts of the program's loosen and Write. The contracts of crc.take, crc.More, crc.Sum, and of the document's own Sum. The contract of crc.checkOf: the four bytes of the check, as an array. -/
import Derived.Deep.DeepCutAuto
import Derived.Deep.Upon
import Derived.Deep.WholeRow
import Derived.WalkKit
import Derived.WalkSpells
import Derived.WalkLawsBesides
import Derived.Lib.Hide
import Derived.WalkSmall
import Derived.Lib.Builder
import Derived.Laws.Tables
import Derived.Test.YtmflkkkbahghgaaGreatYZ9
import Derived.Test.YtmflkkkbahghgaaGreatYZ7
import Derived.Test.YtmflkkkbahghgaaGreatRows
import Derived.Test.YtmflkkkbahghgaaGreatYZ0
namespace Go.Proofs.YtmflkkkbahghgaaGreat
open Go.RowKit Go.Deep Go.Maps
set_option linter.unusedVariables false
set_option linter.unusedSimpArgs false
set_option maxRecDepth 100000

variable {base P bS bm cS : Nat} {d : Dk} {u : World}
def looseD (d : Dk) (i : Nat) : Dk := { d with is := upd d.is i true, nw := upd d.nw i (nowD d i) }
theorem loose_now (d : Dk) (i k : Nat) : nowD (looseD d i) k = nowD d k := by
  unfold looseD nowD upd
  by_cases e : k = i
  · subst e; simp
  · simp [e]
theorem loose_same {i : Nat} (h : d.is i = true) : (looseD d i).is = d.is := by
  funext k
  unfold looseD upd
  by_cases e : k = i
  · subst e; simp [h]
  · simp [e]
theorem zero_sec : (Tryz.prog.info? 129).map (fun i => (i.zero, i.size)) = some (some (.agg (secV fun _ => 0).toArray), 64) := by kernel_rfl
theorem size_sec : (Tryz.prog.info? 129).map (·.size) = some 64 := by kernel_rfl
theorem zero_val (w : World) : (zeroValue 129).run Tryz.prog w = .ok (.agg (secV fun _ => 0).toArray) w := (zero_of_info zero_sec).1 w

set_option maxHeartbeats 3200000 in
theorem ploosen_any (h : PDk base P bS bm cS d u) (hn : d.n ≤ 4096) (i : Nat) (hi : i < d.n) : Calls Tryz.prog 112 #[.pointer (some ⟨P, 0, none⟩), .int .i64 (i : Int)] u fun r u' => r = .returned (.tuple #[]) ∧ PDk base P bS bm cS (looseD d i) u' ∧ KpS (P3 P bS bm) u u' := by
  have R := Lib.hid h
  obtain ⟨c0, c1, c2, c3, c4, cf⟩ := h.cells
  obtain ⟨c, r1, r2, r3, r4⟩ := h.mp.look (zero_val u) rfl hi hn
  have hcs : c.size = 64 := by
    rw [r2]; split
    · rfl
    · exact secV_size _
  have hc1 : c.all (·.oneCell') = true := by
    cases hq : d.is i with
    | true => rw [r3 hq]; exact all_oneCell_toArray (secV_one _)
    | false => rw [r4 hq]; exact all_oneCell_toArray (secV_one _)
  have hst : ∀ Z : Array Value, Z.size = 64 → (storeCells ⟨u.heap.size, 0, none⟩ c.toList 0).run Tryz.prog (u.alloc (.cells Z 129)) = .ok () (u.alloc (.cells c 129)) := fun Z hz =>
    run_storeCells_new (P := Tryz.prog) u 129 Z c (by rw [size_sec, hcs]) (by rw [hz, hcs]) hc1
  have B1 := Lib.hid (balloc u (.cells c 129))
  clear h r2 r3 r4 hc1 c2 c3 c4 cf c0
  go_enter Tryz.func112, Tryz.ntmps112
  go_upto_region 1 with fail
  generalize u.alloc (.cells c 129) = w1 at *
  clear hst hcs
  have R1 := Lib.hid (R.out.below B1.out)
  have K1 := Lib.hid (KpS.of B1.out : KpS (P3 P bS bm) u w1)
  cases hs : d.is i with
  | true =>
    have F : Hid (PDk base P bS bm cS (looseD d i) w1) := R1.out.congr rfl rfl rfl rfl (fun k _ => by rw [loose_same hs]) (fun _ _ _ _ _ => rfl) (fun k _ j _ => by rw [loose_now])
    go_wp2_with fail
    exact bodyPost_end (v := .tuple #[]) (by simp [results, Tryz.results112, go_sem]) rfl ⟨rfl, F.out, K1.out⟩
  | false =>
    go_upto_region 2 with fail
    refine wp_region_held_drew (S := (fun w' => w'.cell? ⟨P, 0, none⟩ = some (.slice (some ⟨bS, 0, none⟩) d.n cS) ∧ w'.cell? ⟨P, 1, none⟩ = some (.map (some bm)) ∧ w'.rangeAt bS (i * 64) (secV (nowD d i)))) (by kernel_rfl) ?_ (fun hHeld => ?_)
    · have R2 := R1.out.below (bdrew w1)
      exact ⟨R2.cells.1, R2.cells.2.1, R2.row.range hi⟩
    have R2 := Lib.hid (R1.out.below (bdrew w1))
    have K2 := Lib.hid (K1.out.on (bdrew w1))
    change wpAnyH _ _ _ _ _ _ _ _ (World.drew w1)
    generalize World.drew w1 = w2 at *
    first | refine tq0 0 rfl ?_ | refine tq1 0 rfl ?_
    try go_frame
    first | refine tq0 1 rfl ?_ | refine tq1 1 rfl ?_
    try go_frame
    first | refine tq0 2 rfl ?_ | refine tq1 2 rfl ?_
    try go_frame
    first | refine tq0 3 rfl ?_ | refine tq1 3 rfl ?_
    try go_frame
    first | refine tq0 4 rfl ?_ | refine tq1 4 rfl ?_
    try go_frame
    first | refine tq0 5 rfl ?_ | refine tq1 5 rfl ?_
    try go_frame
    first | refine tq0 6 rfl ?_ | refine tq1 6 rfl ?_
    try go_frame
    first | refine tq0 7 rfl ?_ | refine tq1 7 rfl ?_
    try go_frame
    first | refine tq0 8 rfl ?_ | refine tq1 8 rfl ?_
    try go_frame
    first | refine tq0 9 rfl ?_ | refine tq1 9 rfl ?_
    try go_frame
    first | refine tq0 10 rfl ?_ | refine tq1 10 rfl ?_
    try go_frame
    refine wpAnyH_take (i := 11) (oi := ⟨_, _, _, _, _, _⟩) (v := .agg (secV (nowD d i)).toArray) rfl (by kernel_rfl) (by kernel_rfl) (by kernel_rfl) (fun _ _ _ h => h) (yieldsIf_load_mid (by rfl) 129 _ rfl bS (i * 64) rfl (secV (nowD d i)) _ (fun w hw => hw.2.2) Tryz.underlying129 rfl (by rw [size_sec, secV_len])) (by assumption) ?_
    try simp only [Act.put, List.setIfInBounds_toArray, List.set_cons_zero, List.set_cons_succ]
    obtain ⟨w3, hrun, hmp, hgr, hsz⟩ := R2.out.mp.put hi hn hs (nowD d i)
    refine wpAnyH_ready (rs := [12]) (by kernel_rfl) (by simp) ?_
    refine AllReadyH.cons (o := ⟨_, _, _, _, _, _⟩) rfl (fun K hK => ?_) AllReadyH.nil
    go_simp
    have GR := Lib.hid hgr
    have MP := Lib.hid hmp
    have NE := Lib.hid R2.out.ne
    have LT := Lib.hid R2.out.lt
    have HB3 := Lib.hid ((hgr.block _ LT.out.1 (by simp; exact NE.out.2.1)).trans R2.out.box)
    have HR3 := Lib.hid (R2.out.row.kept (hgr.block _ LT.out.2.1 (by simp; exact NE.out.2.2)))
    clear hgr hmp
    refine hK.out _ _ ?_ (fun hHeld => ?_)
    · exact ⟨by rw [Lib.cell_of_heap HB3.out]; rfl, by rw [Lib.cell_of_heap HB3.out]; rfl, HR3.out.range hi⟩
    clear hK K
    try simp only [Act.put, List.setIfInBounds_toArray, List.set_cons_zero, List.set_cons_succ]
    refine wpAnyH_done (by kernel_rfl) ?_ _
    have F : Hid (PDk base P bS bm cS (looseD d i) w3) := by
      refine ⟨HB3.out, ?_, ?_, R2.out.lo⟩
      · rw [show nowD (looseD d i) = nowD d from funext fun k => loose_now d i k]; exact HR3.out
      · refine MP.out.congr (fun k hk => rfl) (fun k hk hs2 j hj => ?_)
        show d.sf k j = upd d.sf i (nowD d i) k j
        unfold upd
        split
        · rename_i e; subst e
          unfold nowD; rw [hs]; rfl
        · rfl
    have K3 := Lib.hid (K2.out.trans (KpS.grown GR.out (P3.c P bS bm)))
    clear hrun hHeld
    go_wp2_with fail
    exact bodyPost_end (v := .tuple #[]) (by simp [results, Tryz.results112, go_sem]) rfl ⟨rfl, F.out, K3.out⟩

/-- a sector filled with zeros, and then with a text -/
def fillG (d : Dk) (i : Nat) (f : Nat → Int) : Nat → Nat → Int := fun k => if k = i then f else nowD d k
theorem zeros_at {T : TypeId} {b n i : Nat} {v : Value} {u : World} (h : RowB T 64 b (gB (nowD d)) n v u) (hi : i < n) : RowB T 64 b (gB (fillG d i fun _ => 0)) n v (u.setCells b (i * 64) (secV fun _ => 0)) := by
  have := h.sets (o := 0) hi (secV fun _ => 0) (by rw [secV_len]; omega) (G2 := gB (fillG d i fun _ => 0)) (fun k hk => ?_) (fun k hk j hj hne => ?_)
  · exact this
  · rw [secV_len] at hk
    rw [secV_at _ hk]
    simp [gB, fillG]
  · rw [secV_len] at hne
    by_cases e : k = i
    · subst e; exact absurd ⟨rfl, by omega, by omega⟩ hne
    · simp [gB, fillG, e]
theorem text_at {T : TypeId} {b n i : Nat} {v : Value} {u : World} (s : ByteArray) (h : RowB T 64 b (gB (fillG d i fun _ => 0)) n v u) (hi : i < n) : RowB T 64 b (gB (fillG d i (byD s))) n v (u.setCells b (i * 64) ((Lib.byteCells s.data.toList).take (Nat.min s.size 64))) := by
  have hl : ((Lib.byteCells s.data.toList).take (Nat.min s.size 64)).length = Nat.min s.size 64 := by
    rw [List.length_take, Lib.byteCells_length, show s.data.toList.length = s.size by simp]
    exact Nat.min_eq_left (Nat.min_le_left _ _)
  have hm1 : Nat.min s.size 64 ≤ s.size := Nat.min_le_left _ _
  have hm2 : Nat.min s.size 64 ≤ 64 := Nat.min_le_right _ _
  have hm3 : s.size ≤ Nat.min s.size 64 ∨ 64 ≤ Nat.min s.size 64 := by
    rcases Nat.le_total s.size 64 with c | c
    · exact .inl (Nat.le_of_eq (Nat.min_eq_left c).symm)
    · exact .inr (Nat.le_of_eq (Nat.min_eq_right c).symm)
  refine h.sets (o := 0) hi _ (by rw [hl]; omega) (fun k hk => ?_) (fun k hk j hj hne => ?_)
  · have hk2 := hk
    rw [hl] at hk2
    have e := byD_cell s (j := k) (by omega)
    have e2 : ((Lib.byteCells s.data.toList).take (Nat.min s.size 64))[k]? = some (.int .u8 (byD s k)) := by rw [List.getElem?_take, if_pos hk2]; exact e
    rw [List.getElem?_eq_getElem hk] at e2
    rw [Option.some.inj e2]
    simp [gB, fillG]
  · by_cases e : k = i
    · subst e
      rw [hl] at hne
      have : s.size ≤ j := by
        rcases hm3 with c | c
        · have : ¬ j < 0 + Nat.min s.size 64 := fun hq => hne ⟨rfl, by omega, hq⟩
          omega
        · exact absurd ⟨rfl, by omega, by omega⟩ hne
      simp [gB, fillG, byD_out this]
    · simp [gB, fillG, e]
theorem put_now (d : Dk) (i : Nat) (s : ByteArray) : nowD (putD d i s) = fillG d i (byD s) := by
  funext k
  unfold nowD putD fillG upd
  by_cases e : k = i
  · subst e; simp
  · simp [e, nowD]
theorem fill_loose (d : Dk) (i : Nat) (f : Nat → Int) : fillG (looseD d i) i f = fillG d i f := by
  funext k
  unfold fillG
  rw [loose_now]
theorem kps_setCells {S : Nat → Bool} {b : Nat} (hb : S b = true) (l : List Value) (o : Nat) (w : World) : KpS S w (w.setCells b o l) := KpS.sets hb l o w
theorem setCells_else {b q : Nat} (h : q ≠ b) : ∀ (l : List Value) (o : Nat) (w : World), (w.setCells b o l).heap[q]? = w.heap[q]?
  | [], _, _ => rfl
  | v :: l, o, w => (setCells_else h l (o + 1) _).trans (set_else v h)

/-- a store of a whole sector -/
theorem wpList_store_sec (f : Nat → Int) {ops : Array Oper} {rest : List Oper} {op : Oper} {a : Act} {w : World} {Q : Exit → Act → World → Prop} (hgd : op.guard = none) (b o : Nat)
    (ho : ∃ x y cells, op.op = .store 129 x y ∧ a.eval x = .pointer (some ⟨b, o, none⟩) ∧ a.eval y = .agg cells ∧ cells = (secV f).toArray) (ht : w.there b o 64)
    {w3 : World} (hw : w3 = w.setCells b o (secV f)) (h : wpList Tryz.prog ops Q rest (a.put op.dst undef) w3) : wpList Tryz.prog ops Q (op :: rest) a w := by
  obtain ⟨x, y, cells, ho, hx, hy, rfl⟩ := ho
  subst hw
  exact wpList_store_mid hgd _ x y ho b o _ hx hy (by rw [secV_size]; exact ht) (by rw [size_sec, secV_size]) (all_oneCell_toArray (secV_one _)) h
set_option maxHeartbeats 3200000 in
theorem pwrite_any (h : PDk base P bS bm cS d u) (hb : BdD d) (i : Int) (s : ByteArray) : Calls Tryz.prog 66 #[.pointer (some ⟨P, 0, none⟩), .int .i64 i, .string s] u fun r u' => r = .returned (.int .i64 (writeE d i)) ∧ PDk base P bS bm cS (writeD d i s) u' ∧ KpS (P3 P bS bm) u u' := by
  have R := Lib.hid h
  have HBD := Lib.hid hb
  have H := Lib.hid (pat_any h i)
  unfold readE at H
  unfold writeE writeD
  go_enter Tryz.func66, Tryz.ntmps66
  cases hd : d.down with
  | true =>
    rw [hd] at H
    clear h hb
    go_wp2_with fail
    refine (H.out).mono ?_
    rintro e w1 ⟨rfl, rfl⟩
    go_wp2_with fail
    go_ret
    exact ⟨rfl, R.out, KpS.refl _ _⟩
  | false =>
    rw [hd] at H
    by_cases h1 : i < 0 ∨ (d.n : Int) ≤ i
    · rw [if_neg (by decide), if_pos h1] at H
      clear h hb
      go_wp2_with fail
      refine (H.out).mono ?_
      rintro e w1 ⟨rfl, rfl⟩
      go_wp2_with fail
      go_ret
      refine ⟨?_, ?_, KpS.refl _ _⟩
      · first
          | rfl
          | (simp only [if_pos h1]; rfl)
      · first
          | exact R.out
          | (rw [if_pos h1]; exact R.out)
          | (rw [if_neg (by decide), if_pos h1]; exact R.out)
    · rw [if_neg (by decide), if_neg h1] at H
      obtain ⟨k, rfl⟩ : ∃ k : Nat, i = (k : Int) := ⟨i.toNat, by omega⟩
      have hk : k < d.n := by omega
      have hk0 : (0 : Int) ≤ (k : Int) := by omega
      have hlt : (k : Int) < (d.n : Int) := by omega
      have hn := hb.n
      have H2 := Lib.hid (ploosen_any h hn k hk)
      have HK := Lib.hid hk
      have HD := Lib.hid hd
      have H1 := Lib.hid h1
      clear h hb h1 hk hd
      go_wp2_with fail
      refine (H.out).mono ?_
      rintro e w1 ⟨rfl, rfl⟩
      go_wp2_with fail
      refine (H2.out).mono ?_
      rintro e w2 ⟨rfl, r2, k2⟩
      have R2 := Lib.hid r2
      have K2 := Lib.hid k2
      obtain ⟨c0, c1, c2, c3, c4, cf⟩ := r2.cells
      obtain ⟨n1, n2, n3⟩ := r2.ne
      change w2.cell? ⟨P, 0, none⟩ = some (.slice (some ⟨bS, 0, none⟩) d.n cS) at c0
      clear r2 k2 c1 c2 c3 c4 cf H H2
      have ht := R2.out.row.there HK.out 0 64 (by omega)
      rw [Nat.add_zero] at ht
      have HT := Lib.hid ht
      clear ht
      obtain ⟨w3, hw3⟩ : ∃ w3, w3 = w2.setCells bS (k * 64) (secV fun _ => 0) := ⟨_, rfl⟩
      have ROW3 : Hid (RowB 129 64 bS (gB (fillG d k fun _ => 0)) d.n (.slice (some ⟨bS, 0, none⟩) d.n cS) w3) := by
        rw [hw3]
        have := zeros_at (i := k) R2.out.row HK.out
        rw [fill_loose] at this
        exact this
      have C0 : w3.cell? ⟨P, 0, none⟩ = some (.slice (some ⟨bS, 0, none⟩) d.n cS) := by
        rw [hw3]
        exact (World.cell?_of_block (setCells_else n1 _ _ _)).trans c0
      have EL3 : Hid (∀ q, q ≠ bS → w3.heap[q]? = w2.heap[q]?) := fun q hq => by rw [hw3]; exact setCells_else hq _ _ _
      have K3 := Lib.hid (show KpS (P3 P bS bm) w1 w3 by rw [hw3]; exact K2.out.trans (kps_setCells (P3.b P bS bm) _ _ _))
      have HW3 := Lib.hid hw3
      clear hw3
      have hcp := run_copy_text (P := Tryz.prog) w3 71 9 3 5 bS (k * 64) 64 64 s Tryz.underlying71 (by kernel_rfl) (by
        have := ROW3.out.there HK.out 0 (Nat.min s.size 64) (by have : Nat.min s.size 64 ≤ 64 := Nat.min_le_right _ _; omega)
        simpa using this)
      obtain ⟨w4, hw4⟩ : ∃ w4, w4 = w3.setCells bS (k * 64) ((Lib.byteCells s.data.toList).take (Nat.min s.size 64)) := ⟨_, rfl⟩
      rw [← hw4] at hcp
      have R4 : Hid (PDk base P bS bm cS (putD d k s) w4) := by
        have e4 : ∀ q, q ≠ bS → w4.heap[q]? = w2.heap[q]? := fun q hq => by rw [hw4, setCells_else hq]; exact EL3.out q hq
        refine ⟨(e4 _ n1).trans R2.out.box, ?_, (R2.out.mp.kept (e4 _ n3.symm)).congr (fun _ _ => rfl) (fun _ _ _ _ _ => rfl), R2.out.lo⟩
        rw [put_now, hw4]
        exact text_at s ROW3.out HK.out
      have K4 := Lib.hid (show KpS (P3 P bS bm) w1 w4 by rw [hw4]; exact K3.out.trans (kps_setCells (P3.b P bS bm) _ _ _))
      have H5 := Lib.hid (pcount_any R4.out ⟨HBD.out.n, HBD.out.calls, HBD.out.arm⟩ HD.out)
      clear hw4
      go_wp2_with (with_reducible refine wpList_store_sec (fun _ => 0) rfl bS (k * 64) ?_ HT.out HW3.out ?_; (focus (refine ⟨_, _, _, rfl, rfl, rfl, ?_⟩; kernel_rfl)))
      refine (H5.out).mono ?_
      rintro e w5 ⟨rfl, r5, k5⟩
      have R5 := Lib.hid r5
      have K5 := Lib.hid (K4.out.trans k5)
      clear r5 k5
      go_wp2_with fail
      go_ret
      refine ⟨?_, ?_, K5.out⟩
      · first
          | rfl
          | (rw [if_neg H1.out]; rfl)
      · first
          | exact R5.out
          | (have := R5.out; rw [← HD.out]; exact this)
          | (rw [if_neg H1.out]; exact R5.out)

end Go.Proofs.YtmflkkkbahghgaaGreat
namespace Go.Proofs.YtmflkkkbahghgaaGreat
open Go.RowKit

theorem u32_wrap (n : Nat) (h : n < 4294967296) : IntKind.u32.wrap (n : Int) = (n : Int) := by
  unfold IntKind.wrap; simp [IntKind.bits, IntKind.signed]; omega
theorem bits_xor_u32 (x y : Nat) (hx : x < 4294967296) (hy : y < 4294967296) : bits .xor .u32 (x : Int) (y : Int) = ((x ^^^ y : Nat) : Int) := by
  have h := Nat.xor_lt_two_pow (n := 32) hx hy
  show IntKind.u32.wrap (((BitVec.ofInt 32 (x : Int) ^^^ BitVec.ofInt 32 (y : Int)).toNat : Nat) : Int) = _
  rw [BitVec.toNat_xor, BitVec.toNat_ofInt, BitVec.toNat_ofInt]
  have ex : ((x : Int) % ((2 ^ 32 : Nat) : Int)).toNat = x := by omega
  have ey : ((y : Int) % ((2 ^ 32 : Nat) : Int)).toNat = y := by omega
  rw [ex, ey]
  exact u32_wrap _ h
theorem bits_and_u32 (x y : Nat) (hx : x < 4294967296) (hy : y < 4294967296) : bits .and .u32 (x : Int) (y : Int) = ((x &&& y : Nat) : Int) := by
  have h := Nat.and_lt_two_pow (n := 32) x hy
  show IntKind.u32.wrap (((BitVec.ofInt 32 (x : Int) &&& BitVec.ofInt 32 (y : Int)).toNat : Nat) : Int) = _
  rw [BitVec.toNat_and, BitVec.toNat_ofInt, BitVec.toNat_ofInt]
  have ex : ((x : Int) % ((2 ^ 32 : Nat) : Int)).toNat = x := by omega
  have ey : ((y : Int) % ((2 ^ 32 : Nat) : Int)).toNat = y := by omega
  rw [ex, ey]
  exact u32_wrap _ h
/-- all bits turned -/
theorem not_u32 (x : Nat) (h : x < 4294967296) : bits .xor .u32 IntKind.u32.max (x : Int) = ((4294967295 - x : Nat) : Int) := by
  show IntKind.u32.wrap (((BitVec.ofInt 32 IntKind.u32.max ^^^ BitVec.ofInt 32 (x : Int)).toNat : Nat) : Int) = _
  rw [show BitVec.ofInt 32 IntKind.u32.max = BitVec.allOnes 32 from by decide, BitVec.allOnes_xor, BitVec.toNat_not, BitVec.toNat_ofInt]
  have ex : ((x : Int) % ((2 ^ 32 : Nat) : Int)).toNat = x := by omega
  rw [ex]
  exact u32_wrap _ (by omega)

/-- the test of one bit, as take has it -/
theorem take_test (r c j : Nat) (hr : r < 4294967296) (hc : c < 256) :
    (bits .and .u32 (bits .xor .u32 (r : Int) ((c : Int) / 2 ^ j % 4294967296)) 1 == 1) = !decide (r % 2 = c / 2 ^ j % 2) := by
  have hq : c / 2 ^ j < 4294967296 := Nat.lt_of_le_of_lt (Nat.div_le_self _ _) (by omega)
  have e : ((c : Int) / 2 ^ j % 4294967296) = ((c / 2 ^ j : Nat) : Int) := by
    have e1 : ((c : Int) / 2 ^ j) = ((c / 2 ^ j : Nat) : Int) := by simp
    rw [e1]
    generalize c / 2 ^ j = q at hq
    omega
  rw [e, bits_xor_u32 _ _ hr hq]
  have hx := Nat.xor_lt_two_pow (n := 32) hr hq
  have e2 := bits_and_u32 (r ^^^ c / 2 ^ j) 1 hx (by decide)
  rw [show ((1 : Nat) : Int) = 1 from rfl] at e2
  rw [e2, Nat.and_one_is_mod]
  generalize c / 2 ^ j = q
  have e3 : (r ^^^ q) % 2 = (r % 2) ^^^ (q % 2) := Nat.xor_mod_two_pow (n := 1)
  rw [e3]
  rcases Nat.mod_two_eq_zero_or_one r with h1 | h1 <;> rcases Nat.mod_two_eq_zero_or_one q with h2 | h2 <;> rw [h1, h2] <;> decide

set_option maxHeartbeats 400000 in
theorem take_any (r c : Nat) (hr : r < 4294967296) (hc : c < 256) (w : World) :
    Calls Tryz.prog 203 #[.int .u32 r, .int .u8 c] w fun e w' => e = .returned (.int .u32 (regN r c 8)) ∧ w = w' := by
  go_enter Tryz.func203, Tryz.ntmps203
  go_wp2_with fail
  go_loop [0, 7] (fun x i => ∃ j : Nat, j ≤ 8 ∧ i = .int .i64 j ∧ x = .int .u32 (regN r c j)) (fun _ i => 8 - (intOf i).toNat)
  case atStart => exact ⟨0, by omega, rfl, rfl⟩
  case round =>
    obtain ⟨j, hj, rfl, rfl⟩ := hrel
    have hl := reg_lt (c := c) hr j
    by_cases hlt : j < 8
    · have HT := Lib.hid (take_test (regN r c j) c j hl hc)
      have hx := bits_xor_u32 (regN r c j / 2) 2197175160 (by omega) (by decide)
      have HX : Hid (bits .xor .u32 ((regN r c j : Int) / 2) 2197175160 = ((regN r c j / 2 ^^^ 2197175160 : Nat) : Int)) := hx
      have E : Hid (regN r c (j + 1) = stepN (regN r c j) (c / 2 ^ j % 2)) := rfl
      clear hx
      generalize regN r c j = q at *
      by_cases hq : q % 2 = c / 2 ^ j % 2
      · have ht := HT.out
        rw [decide_eq_true hq] at ht
        have E2 : Hid (regN r c (j + 1) = q / 2) := by show _ = _; rw [E.out]; unfold stepN; rw [if_pos hq]
        clear HT HX E hq
        go_wp2_with fail
        go_round
        case rel => exact ⟨j + 1, by omega, by go_num, by rw [E2.out]; rfl⟩
        case measure => simp [intOf]; omega
      · have ht := HT.out
        rw [decide_eq_false hq] at ht
        have E2 : Hid (regN r c (j + 1) = q / 2 ^^^ 2197175160) := by show _ = _; rw [E.out]; unfold stepN; rw [if_neg hq]
        clear HT E hq
        go_wp2_with fail
        go_round
        case rel => exact ⟨j + 1, by omega, by go_num, by rw [E2.out, ← HX.out]⟩
        case measure => simp [intOf]; omega
    · obtain rfl : j = 8 := by omega
      go_wp2_with fail
      go_ret
      exact ⟨rfl, rfl⟩

set_option maxHeartbeats 400000 in
theorem more_any (n : Nat) (s : ByteArray) (hn : n < 4294967296) (hs : s.size ≤ maxLen) (w : World) :
    Calls Tryz.prog 190 #[.int .u32 n, .string s] w fun e w' => e = .returned (.int .u32 ((4294967295 - regL (4294967295 - n) s.data.toList : Nat) : Int)) ∧ w = w' := by
  unfold maxLen at hs
  obtain ⟨r, hr⟩ : ∃ r, r = 4294967295 - n := ⟨_, rfl⟩
  have hr2 : r < 4294967296 := by omega
  have HN : Hid (bits .xor .u32 IntKind.u32.max (n : Int) = (r : Int)) := by show _ = _; rw [not_u32 n hn, hr]
  rw [← hr]
  clear hr
  go_enter Tryz.func190, Tryz.ntmps190
  go_wp2_with fail
  rw [HN.out]
  go_loop [5, 11] (fun x i => ∃ j : Nat, j ≤ s.size ∧ i = .int .i64 j ∧ x = .int .u32 (regL r (s.data.toList.take j))) (fun _ i => s.size - (intOf i).toNat)
  case atStart => exact ⟨0, by omega, rfl, rfl⟩
  case round =>
    obtain ⟨j, hj, rfl, rfl⟩ := hrel
    have hl := regL_lt (s.data.toList.take j) hr2
    by_cases hlt : j < s.size
    · have E : Hid (regL r (s.data.toList.take (j + 1)) = regN (regL r (s.data.toList.take j)) s[j].toNat 8) := regL_snoc r s.data.toList j (by simpa using hlt)
      generalize regL r (s.data.toList.take j) = q at *
      go_wp2_with (go_at_call 203; refine (take_any _ _ hl (UInt8.toNat_lt _) _).mono ?_; rintro e w' ⟨rfl, rfl⟩)
      go_round
      case rel => exact ⟨j + 1, by omega, by go_num, by rw [E.out]⟩
      case measure => simp [intOf]; omega
    · obtain rfl : j = s.size := by omega
      have e : s.data.toList.take s.size = s.data.toList := List.take_of_length_le (by simp)
      rw [e] at hl ⊢
      clear e
      have HX := Lib.hid (not_u32 (regL r s.data.toList) hl)
      obtain ⟨q, hq⟩ : ∃ q, q = regL r s.data.toList := ⟨_, rfl⟩
      rw [← hq] at HX hl ⊢
      have HQ := Lib.hid hq
      clear hq
      go_wp2_with fail
      go_ret
      exact ⟨by rw [← HQ.out, ← HX.out]; rfl, rfl⟩

theorem sum_any (s : ByteArray) (hs : s.size ≤ maxLen) (w : World) :
    Calls Tryz.prog 174 #[.string s] w fun e w' => e = .returned (.int .u32 (crcN s.data.toList)) ∧ w = w' := by
  have h := more_any 0 s (by omega) hs
  have H := Lib.hid h
  have e : 4294967295 - regL (4294967295 - 0) s.data.toList = crcN s.data.toList := rfl
  rw [e] at H
  clear h e
  generalize crcN s.data.toList = q at H ⊢
  go_enter Tryz.func174, Tryz.ntmps174
  go_wp2_with (go_at_call 190; refine (H.out _).mono ?_; rintro e w' ⟨rfl, rfl⟩)
  go_ret
  exact ⟨rfl, rfl⟩

end Go.Proofs.YtmflkkkbahghgaaGreat
namespace Go.Proofs.YtmflkkkbahghgaaGreat
open Go.RowKit

/-- byte i of a check -/
def chkI (n : Nat) (i : Nat) : Int := ((n / 256 ^ i % 256 : Nat) : Int)
/-- the check's bytes when j of them have been laid -/
def chkRow (n j : Nat) : Array Value := #[.int .u8 (if 0 < j then chkI n 0 else 0), .int .u8 (if 1 < j then chkI n 1 else 0), .int .u8 (if 2 < j then chkI n 2 else 0), .int .u8 (if 3 < j then chkI n 3 else 0)]
def chkAgg (n : Nat) : Value := .agg #[.int .u8 (chkI n 0), .int .u8 (chkI n 1), .int .u8 (chkI n 2), .int .u8 (chkI n 3)]

/-- the two blocks of checkOf when j bytes have been laid -/
def ChkAt (w wr : World) (n j : Nat) : Prop :=
  wr.heap[w.heap.size]? = some (.cells (chkRow 0 0) 156 (0, 0)) ∧ wr.heap[w.heap.size + 1]? = some (.cells (chkRow n j) 156 (0, 0)) ∧ Below w.heap.size w wr

theorem chk_start (w : World) (n : Nat) : ChkAt w ((w.alloc (.cells #[.int .u8 0, .int .u8 0, .int .u8 0, .int .u8 0] 156)).alloc (.cells #[.int .u8 0, .int .u8 0, .int .u8 0, .int .u8 0] 156)) n 0 := by
  refine ⟨?_, ?_, ((Below.refl _ _).alloc (Nat.le_refl _) _).alloc (by simp) _⟩
  · rw [heap_alloc_old _ _ (by simp), heap_alloc_new]; rfl
  · have := heap_alloc_new (w.alloc (.cells #[.int .u8 0, .int .u8 0, .int .u8 0, .int .u8 0] 156)) (.cells #[.int .u8 0, .int .u8 0, .int .u8 0, .int .u8 0] 156)
    rw [World.size_alloc] at this
    exact this

theorem chk_set (n j : Nat) (h : j < 4) : (chkRow n j).setIfInBounds j (.int .u8 (chkI n j)) = chkRow n (j + 1) := by
  rcases (by omega : j = 0 ∨ j = 1 ∨ j = 2 ∨ j = 3) with rfl | rfl | rfl | rfl <;> simp [chkRow]
theorem chk_step {w wr : World} {n j : Nat} (h : j < 4) (k : ChkAt w wr n j) : ChkAt w (wr.setCell ⟨w.heap.size + 1, j, none⟩ (.int .u8 (chkI n j))) n (j + 1) := by
  obtain ⟨h1, h2, h3⟩ := k
  refine ⟨?_, ?_, h3.setCell (p := ⟨w.heap.size + 1, j, none⟩) (by simp) _⟩
  · rw [setCell_eq_setRow wr _ j _ _ _ _ h2, setRow_other _ _ _ _ (by omega)]; exact h1
  · rw [setCell_eq_setRow wr _ j _ _ _ _ h2, ← chk_set n j h]; exact setRow_heap wr _ _ _ _ _ h2

theorem shr_byte (n j : Nat) : (n : Int) / 2 ^ (8 * j) % 256 = chkI n j := by
  unfold chkI
  have e : (2 : Nat) ^ (8 * j) = 256 ^ j := by rw [Nat.pow_mul]
  have e1 : ((n : Int) / 2 ^ (8 * j)) = ((n / 2 ^ (8 * j) : Nat) : Int) := by simp
  rw [e1, e]
  omega

set_option maxHeartbeats 400000 in
theorem checkOf_any (s : ByteArray) (hs : s.size ≤ maxLen) (w : World) :
    Calls Tryz.prog 148 #[.string s] w fun e w' => e = .returned (chkAgg (crcN s.data.toList)) ∧ Below w.heap.size w w' := by
  have H := Lib.hid (sum_any s hs)
  have hn := crcN_lt s.data.toList
  generalize crcN s.data.toList = n at H hn ⊢
  clear hs
  go_enter Tryz.func148, Tryz.ntmps148
  go_wp2_with (go_at_call 174; refine (H.out _).mono ?_; rintro e w' ⟨rfl, rfl⟩)
  have H1 := Lib.hid (chk_start w n)
  go_loopw [8] (fun i wr => ∃ j : Nat, j ≤ 4 ∧ i = .int .i64 j ∧ ChkAt w wr n j) (fun i _ => 4 - (intOf i).toNat)
  case atStart => exact ⟨0, Nat.zero_le _, rfl, H1.out⟩
  case round =>
    obtain ⟨j, hj, rfl, hl⟩ := hrel
    by_cases hlt : j < 4
    · have HS := Lib.hid (chk_step hlt hl)
      have hfz : wr.frozen? ⟨w.heap.size + 1, j, none⟩ = false := Lib.frozen_of_heap hl.2.1 j
      obtain ⟨v, hc⟩ : ∃ v, wr.cell? ⟨w.heap.size + 1, j, none⟩ = some v := by
        rw [Lib.cell_of_heap hl.2.1]
        exact ⟨_, Array.getElem?_eq_getElem (by simp [chkRow]; omega)⟩
      have HE := Lib.hid (shr_byte n j)
      clear hl
      go_wp2_with fail
      go_roundw
      case rel => exact ⟨j + 1, by omega, by go_num, by rw [HE.out]; exact HS.out⟩
      case measure => simp [intOf]; omega
    · obtain rfl : j = 4 := by omega
      obtain ⟨h1, h2, h3⟩ := hl
      have c0 : wr.cell? ⟨w.heap.size + 1, 0, none⟩ = some (.int .u8 (chkI n 0)) := by rw [Lib.cell_of_heap h2]; rfl
      have c1 : wr.cell? ⟨w.heap.size + 1, 1, none⟩ = some (.int .u8 (chkI n 1)) := by rw [Lib.cell_of_heap h2]; rfl
      have c2 : wr.cell? ⟨w.heap.size + 1, 2, none⟩ = some (.int .u8 (chkI n 2)) := by rw [Lib.cell_of_heap h2]; rfl
      have c3 : wr.cell? ⟨w.heap.size + 1, 3, none⟩ = some (.int .u8 (chkI n 3)) := by rw [Lib.cell_of_heap h2]; rfl
      have d0 : wr.cell? ⟨w.heap.size, 0, none⟩ = some (.int .u8 0) := by rw [Lib.cell_of_heap h1]; rfl
      have d1 : wr.cell? ⟨w.heap.size, 1, none⟩ = some (.int .u8 0) := by rw [Lib.cell_of_heap h1]; rfl
      have d2 : wr.cell? ⟨w.heap.size, 2, none⟩ = some (.int .u8 0) := by rw [Lib.cell_of_heap h1]; rfl
      have d3 : wr.cell? ⟨w.heap.size, 3, none⟩ = some (.int .u8 0) := by rw [Lib.cell_of_heap h1]; rfl
      have f0 : wr.frozen? ⟨w.heap.size, 0, none⟩ = false := Lib.frozen_of_heap h1 0
      have f1 : wr.frozen? ⟨w.heap.size, 1, none⟩ = false := Lib.frozen_of_heap h1 1
      have f2 : wr.frozen? ⟨w.heap.size, 2, none⟩ = false := Lib.frozen_of_heap h1 2
      have f3 : wr.frozen? ⟨w.heap.size, 3, none⟩ = false := Lib.frozen_of_heap h1 3
      have HB := Lib.hid h3
      clear h1 h2 h3
      go_wp2_with fail
      exact bodyPost_ret (v := chkAgg n) (by simp [results, Tryz.results148, go_sem, d0, d1, d2, d3, chkAgg]) rfl ⟨rfl, (((HB.out.setCell (p := ⟨w.heap.size, 0, none⟩) (Nat.le_refl _) _).setCell (p := ⟨w.heap.size, 1, none⟩) (Nat.le_refl _) _).setCell (p := ⟨w.heap.size, 2, none⟩) (Nat.le_refl _) _).setCell (p := ⟨w.heap.size, 3, none⟩) (Nat.le_refl _) _⟩

end Go.Proofs.YtmflkkkbahghgaaGreat
