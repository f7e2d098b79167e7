/- The contracts of strings.Builder's grow and Grow at a builder that nothing was written to, and of strings.Join at two or more elements, at this program. The contracts of the program's Many, has, first, cut and fetch. The contract of the program's fetch. The contract of crc.Cut. -/
import Derived.Lib.Join
import Derived.Test.YtdpmpmaepjgndaaGreatYZ27
import Derived.Test.YtdpmpmaepjgndaaGreatYZ21
import Derived.Test.YtdpmpmaepjgndaaGreatYZ14
import Derived.Test.YtdpmpmaepjgndaaGreatYZ4
import Derived.Test.YtdpmpmaepjgndaaGreatYZ0
import Derived.Test.YtdpmpmaepjgndaaGreatYZ12
namespace Go.Proofs.YtdpmpmaepjgndaaGreat
open Go.Shelf Go.RowKit
set_option linter.unusedVariables false

set_option maxHeartbeats 4000000 in
set_option maxRecDepth 100000 in
theorem strJoin (bk o c : Nat) (xs : List ByteArray) (sep : ByteArray) (w : World)
    (hcells : ∀ (j : Nat) x, xs[j]? = some x → w.cell? ⟨bk, o + j, none⟩ = some (.string x))
    (hbk : bk < w.heap.size) (h2 : 2 ≤ xs.length) (hN : xs.length ≤ 140737488355328) (hcap : xs.length ≤ c)
    (hlen : (Lib.join (xs.map (·.data.toList)) sep.data.toList).length ≤ 140737488355328) :
    Calls Tryz.prog 142 #[.slice (some ⟨bk, o, none⟩) xs.length c, .string sep] w fun e w' => e = .returned (.string ⟨(Lib.join (xs.map (·.data.toList)) sep.data.toList).toArray⟩) ∧ Below w.heap.size w w' := by
  have HC := Lib.hid hcells
  clear hcells
  obtain ⟨x0, r, hxs⟩ : ∃ x0 r, xs = x0 :: r := by
    cases xs with
    | nil => simp at h2
    | cons a t => exact ⟨a, t, rfl⟩
  have hjl : sep.size * (xs.length - 1) + Lib.lens (xs.map (·.data.toList)) ≤ 140737488355328 := by
    have := Lib.join_length x0.data.toList (r.map (·.data.toList)) sep.data.toList
    rw [hxs] at hlen ⊢
    simp only [List.map_cons] at hlen ⊢
    rw [this, List.length_map] at hlen
    rw [Lib.size_eq, List.length_cons, Nat.add_sub_cancel]
    exact hlen
  have hmul : sep.size * (xs.length - 1) ≤ 140737488355328 := by omega
  generalize hM : sep.size * (xs.length - 1) = M at hjl hmul
  have hcast : ((xs.length : Int) - 1) = ((xs.length - 1 : Nat) : Int) := by omega
  have hlt : sep.size < 9223372036854775807 / (xs.length - 1) := by
    have : sep.size + 1 ≤ 9223372036854775807 / (xs.length - 1) := by
      rw [Nat.le_div_iff_mul_le (by omega), Nat.add_mul, hM]
      omega
    omega
  have hdv : ¬ (9223372036854775807 / ((xs.length : Int) - 1) ≤ (sep.size : Int)) := by
    have e : (9223372036854775807 : Int) / ((xs.length - 1 : Nat) : Int) = ((9223372036854775807 / (xs.length - 1) : Nat) : Int) := IntWalk.up_div (x := 9223372036854775807) rfl rfl
    rw [hcast, e]
    generalize 9223372036854775807 / (xs.length - 1) = q at hlt
    omega
  have hprod : wrap64 ((sep.size : Int) * ((xs.length : Int) - 1)) = (M : Int) := by
    have e : (sep.size : Int) * ((xs.length - 1 : Nat) : Int) = ((sep.size * (xs.length - 1) : Nat) : Int) := IntWalk.up_mul rfl rfl
    rw [hcast, e, hM]
    exact IntWalk.wrap64_in _ ⟨by omega, by omega⟩
  have hM0 : sep.size = 0 → M = 0 := fun h => by rw [← hM, h, Nat.zero_mul]
  clear hlt hcast
  have hne0 : ((xs.length : Int) == 0) = false := beq_eq_false_iff_ne.2 (by omega)
  have hne1 : ((xs.length : Int) == 1) = false := beq_eq_false_iff_ne.2 (by omega)
  have Hxs := Lib.hid hxs
  have Hlen := Lib.hid hlen
  clear hxs hlen
  go_enter Tryz.func142, Tryz.ntmps142
  go_wp2_with fail
  all_goals (
    go_loop [5, 41] (fun n i => ∃ k : Nat, k ≤ xs.length ∧ i = .int .i64 k ∧ n = .int .i64 ((M + Lib.lens ((xs.map (·.data.toList)).take k) : Nat) : Int)) (fun _ i => xs.length - (intOf i).toNat)
    case atStart => exact ⟨0, Nat.zero_le _, rfl, by first | (simp [Lib.lens]; done) | (have := hM0 (by omega); simp [Lib.lens, this])⟩
    case round =>
      obtain ⟨k, hk, rfl, rfl⟩ := hrel
      by_cases hkn : k < xs.length
      · obtain ⟨x, hx⟩ : ∃ x, xs[k]? = some x := ⟨xs[k], List.getElem?_eq_getElem hkn⟩
        have hc := HC.out k x hx
        have hstep := Lib.lens_take_succ (xs.map (·.data.toList)) k x.data.toList (by simp [hx])
        have hbound : Lib.lens ((xs.map (·.data.toList)).take (k + 1)) ≤ Lib.lens (xs.map (·.data.toList)) := Lib.lens_take_le _ _
        rw [← Lib.size_eq] at hstep
        generalize hA1 : Lib.lens ((xs.map (·.data.toList)).take (k + 1)) = A1 at hstep hbound
        generalize Lib.lens ((xs.map (·.data.toList)).take k) = A0 at hstep
        have HA1 := Lib.hid hA1
        clear hA1
        go_wp2
        exact ⟨⟨k + 1, by omega, by go_num, by rw [HA1.out]; refine congrArg _ ?_; omega⟩, by simp [intOf]; omega⟩
      · have hke : k = xs.length := by omega
        subst hke
        have hall : (xs.map (·.data.toList)).take xs.length = xs.map (·.data.toList) := List.take_of_length_le (by simp)
        rw [hall]
        generalize hT : Lib.lens (xs.map (·.data.toList)) = T at hjl
        have HT := Lib.hid hT
        clear hT hall
        go_wp2_with fail
        have hMT : ((M : Int) + (T : Int)) = ((M + T : Nat) : Int) := by omega
        rw [hMT]
        refine (GrowFresh w.heap.size w.heap.size (M + T) _ (Nat.le_refl _) (heap_alloc_new w _) (by simp) (by omega)).mono ?_
        rintro e w1 ⟨rfl, h1, hb1⟩
        have hb1' : Below w.heap.size w w1 := ((Below.refl w.heap.size w).alloc (Nat.le_refl _) _).trans hb1
        have hx0 : xs[0]? = some x0 := by rw [Hxs.out]; rfl
        have hc0 : w1.cell? ⟨bk, o, none⟩ = some (.string x0) := by
          rw [hb1'.cell (p := ⟨bk, o, none⟩) hbk]
          exact HC.out 0 x0 hx0
        have H1 := Lib.hid (Or.inr h1 : Lib.IsBuilder 184 5 w.heap.size w.heap.size [] w1)
        have Hb1 := Lib.hid hb1'
        have hBw1 : w.heap.size ≤ w1.heap.size := hb1'.size
        clear h1 hb1 hb1' hMT
        have hwhole : Lib.join (xs.map (·.data.toList)) sep.data.toList = x0.data.toList ++ Lib.joinTail sep.data.toList (r.map (·.data.toList)) := by
          rw [Hxs.out, List.map_cons, Lib.join_cons]
        have hCle : ∀ k, (x0.data.toList ++ Lib.joinTail sep.data.toList ((r.map (·.data.toList)).take k)).length ≤ 140737488355328 := fun k => by
          have h1 := Hlen.out
          rw [hwhole, List.length_append] at h1
          have h2 := Lib.joinTail_take_le sep.data.toList (r.map (·.data.toList)) k
          rw [List.length_append]
          omega
        have HCle := Lib.hid hCle
        have Hwhole := Lib.hid hwhole
        clear hCle hwhole
        go_wp2_with fail
        refine (writeString w.heap.size w.heap.size [] x0 w1 H1.out (by have := HCle.out 0; simp [Lib.joinTail] at this ⊢; omega) hBw1).mono ?_
        rintro e w2 ⟨rfl, h2', hb2⟩
        have hstart : ([] : List Value) ++ Lib.strCells x0 = Lib.byteCells (x0.data.toList ++ Lib.joinTail sep.data.toList ((r.map (·.data.toList)).take 0)) := by
          simp [Lib.joinTail, Lib.strCells_eq]
        rw [hstart] at h2'
        have H2 := Lib.hid (Or.inr h2' : Lib.IsBuilder 184 5 w.heap.size w.heap.size _ w2)
        have Hb2 := Lib.hid (Hb1.out.trans hb2)
        clear h2' hb2 hstart
        have hrl : r.length = xs.length - 1 := by rw [Hxs.out]; simp
        go_wp2_with fail
        go_loopw [65] (fun i wr => ∃ k : Nat, k ≤ r.length ∧ i = .int .i64 k ∧ Hid (Lib.IsBuilder 184 5 w.heap.size w.heap.size (Lib.byteCells (x0.data.toList ++ Lib.joinTail sep.data.toList ((r.map (·.data.toList)).take k))) wr) ∧ Hid (Below w.heap.size w wr)) (fun i _ => r.length - (intOf i).toNat)
        case atStart => exact ⟨0, Nat.zero_le _, rfl, H2, Hb2⟩
        case round =>
          obtain ⟨k, hk', rfl, HB, HW⟩ := hrel
          by_cases hkr : k < r.length
          · obtain ⟨y, hy⟩ : ∃ y, r[k]? = some y := ⟨r[k], List.getElem?_eq_getElem hkr⟩
            have hxy : xs[k + 1]? = some y := by rw [Hxs.out]; simpa using hy
            have hcy : wr.cell? ⟨bk, o + 1 + k, none⟩ = some (.string y) := by
              rw [HW.out.cell (p := ⟨bk, o + 1 + k, none⟩) hbk, show o + 1 + k = o + (k + 1) by omega]
              exact HC.out (k + 1) y hxy
            have hBw : w.heap.size ≤ wr.heap.size := HW.out.size
            have hnext : Lib.byteCells (x0.data.toList ++ Lib.joinTail sep.data.toList ((r.map (·.data.toList)).take k)) ++ Lib.strCells sep ++ Lib.strCells y = Lib.byteCells (x0.data.toList ++ Lib.joinTail sep.data.toList ((r.map (·.data.toList)).take (k + 1))) := by
              rw [Lib.joinTail_take_succ sep.data.toList (r.map (·.data.toList)) k y.data.toList (by simp [hy]), Lib.strCells_eq, Lib.strCells_eq, ← Lib.byteCells_append, ← Lib.byteCells_append, List.append_assoc, List.append_assoc, List.append_assoc]
            have hl1 := HCle.out (k + 1)
            rw [Lib.joinTail_take_succ sep.data.toList (r.map (·.data.toList)) k y.data.toList (by simp [hy])] at hl1
            simp only [List.length_append, ← Lib.size_eq] at hl1
            have hl0 : (Lib.byteCells (x0.data.toList ++ Lib.joinTail sep.data.toList ((r.map (·.data.toList)).take k))).length = x0.size + (Lib.joinTail sep.data.toList ((r.map (·.data.toList)).take k)).length := by
              rw [Lib.byteCells_length, List.length_append, ← Lib.size_eq]
            generalize (Lib.joinTail sep.data.toList ((r.map (·.data.toList)).take k)).length = J at hl0 hl1
            have Hn := Lib.hid hnext
            clear hnext hy hxy
            go_wp2_with fail
            refine (writeString w.heap.size w.heap.size _ sep wr HB.out (by rw [hl0]; omega) hBw).mono ?_
            rintro e w3 ⟨rfl, h3, hb3⟩
            have hBw3 : w.heap.size ≤ w3.heap.size := Nat.le_trans hBw hb3.size
            have H3 := Lib.hid h3
            have Hb3 := Lib.hid hb3
            clear h3 hb3
            go_wp2_with fail
            refine (writeString w.heap.size w.heap.size _ y w3 (Or.inr H3.out) (by rw [List.length_append, hl0, Lib.strCells_length]; omega) hBw3).mono ?_
            rintro e w4 ⟨rfl, h4, hb4⟩
            rw [Hn.out] at h4
            have H4 := Lib.hid (Or.inr h4 : Lib.IsBuilder 184 5 w.heap.size w.heap.size _ w4)
            have Hb4 := Lib.hid ((HW.out.trans Hb3.out).trans hb4)
            clear h4 hb4
            go_wp2
            exact ⟨⟨k + 1, by omega, by go_num, H4, Hb4⟩, by simp [intOf]; omega⟩
          · have hke : k = r.length := by omega
            subst hke
            have hfull : (r.map (·.data.toList)).take r.length = r.map (·.data.toList) := List.take_of_length_le (by simp)
            have hB' := HB.out
            rw [hfull, ← Hwhole.out] at hB'
            have hBw : w.heap.size ≤ wr.heap.size := HW.out.size
            go_wp2_with fail
            refine (builderString w.heap.size w.heap.size _ wr hB' hBw).mono ?_
            rintro e w5 ⟨rfl, hb5⟩
            have Hb5 := Lib.hid (HW.out.trans hb5)
            clear hb5 hB'
            go_wp2
            go_ret
            exact ⟨rfl, Hb5.out⟩)

end Go.Proofs.YtdpmpmaepjgndaaGreat
namespace Go.Proofs.YtdpmpmaepjgndaaGreat
open Go.RowKit Go.Deep
set_option linter.unusedVariables false
set_option linter.unusedSimpArgs false
set_option maxRecDepth 100000

variable {base P bS bm cS : Nat} {d : Dk} {u : World}
theorem many_bd {n : Nat} (h : n ≤ 4096) : 0 ≤ manyP (n : Int) ∧ manyP (n : Int) ≤ 1024 := by unfold manyP; split <;> omega
set_option maxHeartbeats 800000 in
theorem pmany_of {v : Value} {n : Nat} (hn : n ≤ 4096) (H : Hid (Calls Tryz.prog 26 #[v] u fun r u' => r = .returned (.int .i64 (n : Int)) ∧ u' = u)) : Calls Tryz.prog 69 #[v] u fun r u' => r = .returned (.int .i64 (manyP (n : Int))) ∧ u' = u := by
  have E : Hid (manyP (n : Int) = if (n : Int) - 2 < 0 then 0 else ((n : Int) - 2) / 4) := Lib.hid (by unfold manyP; split <;> split <;> omega)
  have hn0 : (n : Int) ≤ 4096 := by omega
  have hn1 : (0 : Int) ≤ (n : Int) := by omega
  generalize (n : Int) = z at *
  by_cases h : z - 2 < 0
  · have d1 : decide (z - 2 < 0) = true := by simp [h]
    have d2 : ¬ 0 < z - 2 := by omega
    have d3 : decide (0 < z - 2) = false := by simp; omega
    have d4 : max (z - 2) 0 = 0 := by omega
    rw [if_pos h] at E
    go_enter Tryz.func69, Tryz.ntmps69
    go_wp2_with fail
    refine (H.out).mono ?_
    rintro e w1 ⟨rfl, rfl⟩
    go_wp2_with fail
    go_ret
    exact ⟨by rw [E.out]; first | rfl | (simp [d2, d4]), rfl⟩
  · have d1 : decide (z - 2 < 0) = false := by simp; omega
    have d4 : max (z - 2) 0 = z - 2 := by omega
    rw [if_neg h] at E
    go_enter Tryz.func69, Tryz.ntmps69
    go_wp2_with fail
    refine (H.out).mono ?_
    rintro e w1 ⟨rfl, rfl⟩
    go_wp2_with fail
    go_ret
    exact ⟨by rw [E.out]; first | rfl | (simp [d4]), rfl⟩
theorem pmany_any (h : PDk base P bS bm cS d u) (hn : d.n ≤ 4096) : Calls Tryz.prog 69 #[.pointer (some ⟨P, 0, none⟩)] u fun r u' => r = .returned (.int .i64 (manyP (d.n : Int))) ∧ u' = u :=
  pmany_of hn (psectors_any h)
def hasB (d : Dk) (i : Int) : Bool := decide (0 ≤ i ∧ i < manyP (d.n : Int))
theorem hasB_true {d : Dk} {i : Int} (h : hasB d i = true) : 0 ≤ i ∧ i < manyP (d.n : Int) := of_decide_eq_true h
theorem hasB_false {d : Dk} {i : Int} (h : hasB d i = false) : i < 0 ∨ manyP (d.n : Int) ≤ i := by
  have := of_decide_eq_false h
  omega
set_option maxHeartbeats 800000 in
theorem phas_any (h : PDk base P bS bm cS d u) (hn : d.n ≤ 4096) (i : Int) : Calls Tryz.prog 105 #[.pointer (some ⟨P, 0, none⟩), .int .i64 i] u fun r u' => r = .returned (.bool (hasB d i)) ∧ u' = u := by
  have H := Lib.hid (pmany_any h hn)
  by_cases h0 : 0 ≤ i
  · have d1 : decide (0 ≤ i) = true := by simp [h0]
    have E : Hid (hasB d i = decide (i < manyP (d.n : Int))) := Lib.hid (by unfold hasB; simp [h0])
    clear h
    go_enter Tryz.func105, Tryz.ntmps105
    go_wp2_with fail
    refine (H.out).mono ?_
    rintro e w1 ⟨rfl, rfl⟩
    go_wp2_with fail
    go_ret
    exact ⟨by rw [E.out]; rfl, rfl⟩
  · have d1 : decide (0 ≤ i) = false := by simp; omega
    have E : Hid (hasB d i = false) := Lib.hid (by unfold hasB; simp [h0])
    clear h
    go_enter Tryz.func105, Tryz.ntmps105
    go_wp2_with fail
    go_ret
    exact ⟨by rw [E.out]; rfl, rfl⟩
theorem pfirst_any (i : Int) (h0 : 0 ≤ i) (h1 : i ≤ 4096) (u : World) : Calls Tryz.prog 141 #[.int .i64 i] u fun r u' => r = .returned (.int .i64 (2 + 4 * i)) ∧ u' = u := by
  go_enter Tryz.func141, Tryz.ntmps141
  go_wp2_with fail
  go_ret
  exact ⟨rfl, rfl⟩

/-- an array of four texts, the first j of them laid -/
def rowT (t : Nat → ByteArray) (j : Nat) : List Value := (List.range 4).map fun i => .string (if i < j then t i else ⟨#[]⟩)
theorem rowT_set (t : Nat → ByteArray) {j : Nat} (h : j < 4) : (rowT t j).toArray.setIfInBounds j (.string (t j)) = (rowT t (j + 1)).toArray := by
  rcases (by omega : j = 0 ∨ j = 1 ∨ j = 2 ∨ j = 3) with rfl | rfl | rfl | rfl <;> rfl
structure BoxT (B : Nat) (t : Nat → ByteArray) (j : Nat) (u : World) : Prop where
  b : u.heap[B]? = some (.cells (rowT t j).toArray 170 (0, 0))
theorem BoxT.put {B j : Nat} {t : Nat → ByteArray} (h : BoxT B t j u) (hj : j < 4) : BoxT B t (j + 1) (u.setCell ⟨B, j, none⟩ (.string (t j))) :=
  ⟨by rw [← rowT_set t hj]; exact Joins.block_setCell (i := j) h.b _⟩
theorem BoxT.cell {B j i : Nat} {t : Nat → ByteArray} (h : BoxT B t j u) (hi : i < 4) : u.cell? ⟨B, i, none⟩ = some (.string (if i < j then t i else ⟨#[]⟩)) := by
  rw [Lib.cell_of_heap h.b]
  unfold rowT
  rw [List.getElem?_toArray, List.getElem?_map, List.getElem?_range hi]
  rfl
theorem BoxT.frozen {B j : Nat} {t : Nat → ByteArray} (h : BoxT B t j u) (i : Nat) : u.frozen? ⟨B, i, none⟩ = false := Lib.frozen_of_heap h.b i
theorem BoxT.stays {B j : Nat} {t : Nat → ByteArray} {u2 : World} (h : BoxT B t j u) (k : Below u.heap.size u u2) : BoxT B t j u2 := ⟨heap_stays h.b k⟩

def fourQ (s : ByteArray) : Value := .agg #[.string (quart s 0), .string (quart s 1), .string (quart s 2), .string (quart s 3)]
set_option maxHeartbeats 1600000 in
theorem pcut_any (s : ByteArray) (hs : s.size = 256) (u : World) : Calls Tryz.prog 174 #[.string s] u fun r u' => r = .returned (fourQ s) ∧ Below u.heap.size u u' := by
  have HS := Lib.hid hs
  clear hs
  have Z1 := heap_alloc_new u (.cells #[.string ⟨#[]⟩, .string ⟨#[]⟩, .string ⟨#[]⟩, .string ⟨#[]⟩] 170)
  have B1 := balloc u (.cells #[.string ⟨#[]⟩, .string ⟨#[]⟩, .string ⟨#[]⟩, .string ⟨#[]⟩] 170)
  have Z2 := heap_alloc_new (u.alloc (.cells #[.string ⟨#[]⟩, .string ⟨#[]⟩, .string ⟨#[]⟩, .string ⟨#[]⟩] 170)) (.cells #[.string ⟨#[]⟩, .string ⟨#[]⟩, .string ⟨#[]⟩, .string ⟨#[]⟩] 170)
  have B2 := balloc (u.alloc (.cells #[.string ⟨#[]⟩, .string ⟨#[]⟩, .string ⟨#[]⟩, .string ⟨#[]⟩] 170)) (.cells #[.string ⟨#[]⟩, .string ⟨#[]⟩, .string ⟨#[]⟩, .string ⟨#[]⟩] 170)
  have B3 := Lib.hid (bthen B1 B2)
  have Y1 := heap_stays Z1 B2
  rw [World.size_alloc] at Z2
  obtain ⟨C, hC⟩ : ∃ C, C = u.heap.size := ⟨_, rfl⟩
  obtain ⟨D, hD⟩ : ∃ D, D = u.heap.size + 1 := ⟨_, rfl⟩
  have HC : Hid (u.heap.size ≤ C) := Lib.hid (by omega)
  have HD : Hid (u.heap.size ≤ D) := Lib.hid (by omega)
  have CD : Hid (C ≠ D) := Lib.hid (by omega)
  rw [← hC] at Y1
  rw [← hD] at Z2
  have T2 : Hid (BoxT D (quart s) 0 ((u.alloc (.cells #[.string ⟨#[]⟩, .string ⟨#[]⟩, .string ⟨#[]⟩, .string ⟨#[]⟩] 170)).alloc (.cells #[.string ⟨#[]⟩, .string ⟨#[]⟩, .string ⟨#[]⟩, .string ⟨#[]⟩] 170))) := Lib.hid ⟨Z2⟩
  have Y2 := Lib.hid Y1
  clear Z1 Z2 B1 B2 Y1
  go_enter Tryz.func174, Tryz.ntmps174
  go_upto_region 2 with fail
  rw [← hD, ← hC]
  generalize (u.alloc (.cells #[.string ⟨#[]⟩, .string ⟨#[]⟩, .string ⟨#[]⟩, .string ⟨#[]⟩] 170)).alloc (.cells #[.string ⟨#[]⟩, .string ⟨#[]⟩, .string ⟨#[]⟩, .string ⟨#[]⟩] 170) = w2 at *
  clear hC hD
  go_wp2_with fail
  go_loopw [4, 5] (fun _ i wr => ∃ j : Nat, j ≤ 4 ∧ i = .int .i64 j ∧ Hid (BoxT D (quart s) j wr) ∧ Hid (wr.heap[C]? = some (.cells #[.string ⟨#[]⟩, .string ⟨#[]⟩, .string ⟨#[]⟩, .string ⟨#[]⟩] 170 (0, 0))) ∧ Hid (Below u.heap.size u wr)) (fun _ i _ => 4 - (intOf i).toNat)
  case atStart => exact ⟨0, Nat.zero_le _, rfl, T2, Y2, B3⟩
  case round =>
    obtain ⟨j, hj, rfl, HT, HY, HB⟩ := hrel
    by_cases hlt : j < 4
    · have d1 : decide ((j : Int) < 4) = true := by simp; omega
      have g0 : (0 : Int) ≤ (j : Int) := by omega
      have g1 : (j : Int) < 4 := by omega
      have g2 : 64 * (j : Int) + 64 ≤ (s.size : Int) := by have := HS.out; omega
      have e1 : (64 * (j : Int)).toNat = 64 * j := by omega
      have e2 : (64 * ((j : Int) + 1)).toNat = 64 * j + 64 := by omega
      have e3 : 64 * ((j : Int) + 1) = 64 * (j : Int) + 64 := by omega
      have e4 : (64 * (j : Int) + 64).toNat = 64 * j + 64 := by omega
      have hc := HT.out.cell (i := j) hlt
      have hf := HT.out.frozen j
      have F : Hid (BoxT D (quart s) (j + 1) (wr.setCell ⟨D, j, none⟩ (.string (s.extract (64 * j) (64 * j + 64))))) := Lib.hid (HT.out.put hlt)
      have FY := Lib.hid ((set_else (P := D) (o := j) (w := wr) (.string (s.extract (64 * j) (64 * j + 64))) CD.out).trans HY.out)
      have FB := Lib.hid (HB.out.trans ((Below.refl _ _).setCell (p := ⟨D, j, none⟩) HD.out (.string (s.extract (64 * j) (64 * j + 64)))))
      go_wp2_with fail
      go_roundw
      case rel => exact ⟨j + 1, hlt, by go_num, F, FY, FB⟩
      case measure => simp [intOf]; omega
    · obtain rfl : j = 4 := by omega
      have hT := HT.out
      have q0 : wr.cell? ⟨D, 0, none⟩ = some (.string (quart s 0)) := hT.cell (i := 0) (by omega)
      have q1 : wr.cell? ⟨D, 1, none⟩ = some (.string (quart s 1)) := hT.cell (i := 1) (by omega)
      have q2 : wr.cell? ⟨D, 2, none⟩ = some (.string (quart s 2)) := hT.cell (i := 2) (by omega)
      have q3 : wr.cell? ⟨D, 3, none⟩ = some (.string (quart s 3)) := hT.cell (i := 3) (by omega)
      obtain ⟨x0, x1, x2, x3⟩ := four_cells HY.out
      have xf : ∀ q, wr.frozen? ⟨C, q, none⟩ = false := fun q => Lib.frozen_of_heap HY.out q
      have HE : Hid (fourQ s = .agg #[.string (quart s 0), .string (quart s 1), .string (quart s 2), .string (quart s 3)]) := Lib.hid rfl
      generalize quart s 0 = a0 at *
      generalize quart s 1 = a1 at *
      generalize quart s 2 = a2 at *
      generalize quart s 3 = a3 at *
      clear hT HT
      go_wp2_with fail
      change bodyPost _ _ _ _ _ (World.setCells wr C 0 [.string a0, .string a1, .string a2, .string a3])
      obtain ⟨t0, t1, t2, t3⟩ := four_cells (put_four HY.out (.string a0) (.string a1) (.string a2) (.string a3))
      have LZ := Lib.hid (HB.out.trans (put_below HC.out [.string a0, .string a1, .string a2, .string a3] 0 wr))
      generalize World.setCells wr C 0 [.string a0, .string a1, .string a2, .string a3] = w9 at *
      exact bodyPost_ret (v := .agg #[.string a0, .string a1, .string a2, .string a3]) (by simp [results, Tryz.results174, go_sem, t0, t1, t2, t3]) rfl ⟨by rw [HE.out], LZ.out⟩

end Go.Proofs.YtdpmpmaepjgndaaGreat
namespace Go.Proofs.YtdpmpmaepjgndaaGreat
open Go.RowKit Go.Deep
set_option linter.unusedVariables false
set_option linter.unusedSimpArgs false
set_option maxRecDepth 100000

theorem join_four (f : Nat → Nat → Int) : (⟨(Lib.join ([sec (f 0), sec (f 1), sec (f 2), sec (f 3)].map (·.data.toList)) (ByteArray.mk #[]).data.toList).toArray⟩ : ByteArray) = allF f 4 := by
  simp only [List.map_cons, List.map_nil]
  rw [Lib.join_cons]
  apply ByteArray.ext
  apply Array.ext'
  simp only [allF]
  simp [Lib.joinTail]
theorem join_four_len (f : Nat → Nat → Int) : (Lib.join ([sec (f 0), sec (f 1), sec (f 2), sec (f 3)].map (·.data.toList)) (ByteArray.mk #[]).data.toList).length ≤ 140737488355328 := by
  have h := congrArg ByteArray.size (join_four f)
  rw [allF_size] at h
  have h2 : (⟨(Lib.join ([sec (f 0), sec (f 1), sec (f 2), sec (f 3)].map (·.data.toList)) (ByteArray.mk #[]).data.toList).toArray⟩ : ByteArray).size = (Lib.join ([sec (f 0), sec (f 1), sec (f 2), sec (f 3)].map (·.data.toList)) (ByteArray.mk #[]).data.toList).length := by
    show (Lib.join _ _).toArray.size = _
    rw [List.size_toArray]
  omega
variable {base P bS bm cS : Nat} {d : Dk} {u : World}
def fetchRet (d : Dk) (k : Nat) : Ending := .returned (.tuple (if d.down then #[.string ⟨#[]⟩, .int .i64 13] else #[.string (pageS d k), .int .i64 0]))
set_option maxHeartbeats 3200000 in
theorem pfetch_any (h : PDk base P bS bm cS d u) (hn : d.n ≤ 4096) (k : Nat) (hk : (k : Int) < manyP (d.n : Int)) : Calls Tryz.prog 106 #[.pointer (some ⟨P, 0, none⟩), .int .i64 (k : Int)] u fun r u' => r = fetchRet d k ∧ Below u.heap.size u u' := by
  have hin := many_in hk (by omega)
  have hk1 : (k : Int) ≤ 4096 := by omega
  have HF := Lib.hid (fun w => pfirst_any (k : Int) (by omega) hk1 w)
  have HIN := Lib.hid hin
  clear hin hk
  have Z1 := heap_alloc_new u (.cells #[.string ⟨#[]⟩, .string ⟨#[]⟩, .string ⟨#[]⟩, .string ⟨#[]⟩] 170)
  have B1 := balloc u (.cells #[.string ⟨#[]⟩, .string ⟨#[]⟩, .string ⟨#[]⟩, .string ⟨#[]⟩] 170)
  obtain ⟨D, hD⟩ : ∃ D, D = u.heap.size := ⟨_, rfl⟩
  have HD : Hid (u.heap.size ≤ D) := Lib.hid (by omega)
  rw [← hD] at Z1
  have T1 : Hid (BoxT D (fun i => sec (nowD d (2 + 4 * k + i))) 0 (u.alloc (.cells #[.string ⟨#[]⟩, .string ⟨#[]⟩, .string ⟨#[]⟩, .string ⟨#[]⟩] 170))) := Lib.hid ⟨Z1⟩
  have D1 := Lib.hid (h.below B1)
  have HNP : Hid (D ≠ P ∧ D ≠ bS ∧ D ≠ bm) := Lib.hid (by have := h.lt; omega)
  have B2 := Lib.hid B1
  clear Z1 B1 h
  cases hd : d.down with
  | true =>
    have E : Hid (fetchRet d k = .returned (.tuple #[.string ⟨#[]⟩, .int .i64 13])) := Lib.hid (by unfold fetchRet; rw [hd]; rfl)
    have HR := Lib.hid (fun (w : World) (h : PDk base P bS bm cS d w) (i : Int) => pread_any h hn i)
    unfold readE readS at HR
    rw [hd] at HR
    simp only [if_true] at HR
    clear hd
    go_enter Tryz.func106, Tryz.ntmps106
    go_upto_region 2 with fail
    rw [← hD]
    generalize u.alloc (.cells #[.string ⟨#[]⟩, .string ⟨#[]⟩, .string ⟨#[]⟩, .string ⟨#[]⟩] 170) = w1 at *
    clear hD
    go_wp2_with fail
    go_loopw [7, 8, 9, 10] (fun _ _ _ i wr => i = .int .i64 0 ∧ wr = w1) (fun _ _ _ i _ => 4 - (intOf i).toNat)
    case atStart => exact ⟨rfl, rfl⟩
    case round =>
      obtain ⟨rfl, rfl⟩ := hrel
      go_wp2_with fail
      refine (HF.out _).mono ?_
      rintro e w2 ⟨rfl, rfl⟩
      go_wp2_with fail
      refine (HR.out _ D1.out _).mono ?_
      rintro e w3 ⟨rfl, rfl⟩
      go_wp2_with fail
      go_ret2
      exact ⟨by rw [E.out]; rfl, B2.out⟩
  | false =>
    have E : Hid (fetchRet d k = .returned (.tuple #[.string (pageS d k), .int .i64 0])) := Lib.hid (by unfold fetchRet; rw [hd]; rfl)
    have HR := Lib.hid (fun (w : World) (h : PDk base P bS bm cS d w) (i : Int) => pread_any h hn i)
    unfold readE readS at HR
    rw [hd] at HR
    simp only [if_false, Bool.false_eq_true] at HR
    clear hd
    go_enter Tryz.func106, Tryz.ntmps106
    go_upto_region 2 with fail
    rw [← hD]
    generalize u.alloc (.cells #[.string ⟨#[]⟩, .string ⟨#[]⟩, .string ⟨#[]⟩, .string ⟨#[]⟩] 170) = w1 at *
    clear hD
    go_wp2_with fail
    go_loopw [7, 8, 9, 10] (fun _ _ _ i wr => ∃ j : Nat, j ≤ 4 ∧ i = .int .i64 j ∧ Hid (BoxT D (fun i => sec (nowD d (2 + 4 * k + i))) j wr) ∧ Hid (PDk base P bS bm cS d wr) ∧ Hid (Below u.heap.size u wr)) (fun _ _ _ i _ => 4 - (intOf i).toNat)
    case atStart => exact ⟨0, Nat.zero_le _, rfl, T1, D1, B2⟩
    case round =>
      obtain ⟨j, hj, rfl, HT, HP, HB⟩ := hrel
      by_cases hlt : j < 4
      · have d1 : decide ((j : Int) < 4) = true := by simp; omega
        have g0 : (0 : Int) ≤ (j : Int) := by omega
        have g1 : (j : Int) < 4 := by omega
        have H5 := HR.out wr HP.out (2 + 4 * (k : Int) + (j : Int))
        rw [if_neg (by have := HIN.out; omega), if_neg (by have := HIN.out; omega), show (2 + 4 * (k : Int) + (j : Int)).toNat = 2 + 4 * k + j by omega] at H5
        have H6 := Lib.hid H5
        clear H5
        have hc := HT.out.cell (i := j) hlt
        have hf := HT.out.frozen j
        have F := Lib.hid (HT.out.put hlt)
        have FP : Hid (PDk base P bS bm cS d (wr.setCell ⟨D, j, none⟩ (.string (sec (nowD d (2 + 4 * k + j)))))) := Lib.hid (HP.out.kept (set_else _ HNP.out.1.symm) (set_else _ HNP.out.2.1.symm) (set_else _ HNP.out.2.2.symm))
        have FB := Lib.hid (HB.out.trans ((Below.refl _ _).setCell (p := ⟨D, j, none⟩) HD.out (.string (sec (nowD d (2 + 4 * k + j))))))
        generalize sec (nowD d (2 + 4 * k + j)) = tx at *
        go_wp2_with fail
        refine (HF.out _).mono ?_
        rintro e w2 ⟨rfl, rfl⟩
        go_wp2_with fail
        refine (H6.out).mono ?_
        rintro e w3 ⟨rfl, rfl⟩
        go_wp2_with fail
        go_roundw
        case rel => exact ⟨j + 1, hlt, by go_num, F, FP, FB⟩
        case measure => simp [intOf]; omega
      · obtain rfl : j = 4 := by omega
        have HJ := Lib.hid (strJoin D 0 4 [sec (nowD d (2 + 4 * k + 0)), sec (nowD d (2 + 4 * k + 1)), sec (nowD d (2 + 4 * k + 2)), sec (nowD d (2 + 4 * k + 3))] ⟨#[]⟩ wr (fun q x hq => by
          rcases q with _ | _ | _ | _ | q
          · simp only [List.getElem?_cons_zero, Option.some.injEq] at hq; subst hq; exact HT.out.cell (i := 0) (by omega)
          · simp only [List.getElem?_cons_zero, List.getElem?_cons_succ, Option.some.injEq] at hq; subst hq; exact HT.out.cell (i := 1) (by omega)
          · simp only [List.getElem?_cons_zero, List.getElem?_cons_succ, Option.some.injEq] at hq; subst hq; exact HT.out.cell (i := 2) (by omega)
          · simp only [List.getElem?_cons_zero, List.getElem?_cons_succ, Option.some.injEq] at hq; subst hq; exact HT.out.cell (i := 3) (by omega)
          · simp at hq) (heap_lt HT.out.b) (by simp) (by simp) (by simp) (join_four_len (fun i => nowD d (2 + 4 * k + i))))
        rw [join_four (fun i => nowD d (2 + 4 * k + i))] at HJ
        change Hid (Calls _ _ #[.slice (some ⟨D, 0, none⟩) 4 4, .string ⟨#[]⟩] _ fun e w' => e = .returned (.string (pageS d k)) ∧ _) at HJ
        have d1 : decide ((4 : Int) < 4) = false := by decide
        go_wp2_with fail
        refine (HJ.out).mono ?_
        rintro e w2 ⟨rfl, hb⟩
        have FB := Lib.hid (bthen HB.out hb)
        clear hb
        go_wp2_with fail
        go_ret2
        exact ⟨by rw [E.out]; rfl, FB.out⟩

end Go.Proofs.YtdpmpmaepjgndaaGreat
namespace Go.Proofs.YtdpmpmaepjgndaaGreat
open Go.RowKit


/-- 'string(check[:])', behind a draw -/
theorem chk_string (w1 : World) (n : Nat) : (convert 97 9 (.slice (some ⟨w1.heap.size, 0, none⟩) 4 4)).run Tryz.prog (w1.alloc (.cells (chkCells n).toArray 179)).drew = .ok (.string ⟨(le4 n).toArray⟩) (w1.alloc (.cells (chkCells n).toArray 179)).drew := by
  have hrow : (w1.alloc (.cells (chkCells n).toArray 179)).drew.heap[w1.heap.size]? = some (.cells (chkCells n ++ []).toArray 179 (0, 0)) := by
    rw [List.append_nil]; exact heap_alloc_new w1 _
  have hcv := run_convert_bytes_back (P := Tryz.prog) (w1.alloc (.cells (chkCells n).toArray 179)).drew 97 9 5 ⟨w1.heap.size, 0, none⟩ 4 (le4 n) Tryz.underlying97 Tryz.underlying5 Tryz.underlying9 (chk_cells hrow)
  rw [le4_len] at hcv
  exact hcv

/-- what bytes with a check ahead are: the others, and the error -/
def cutSpec (s : ByteArray) : ByteArray × Int :=
  if s.size < 4 then (⟨#[]⟩, 5) else if s.data.toList = laidL (s.data.toList.drop 4) then (⟨(s.data.toList.drop 4).toArray⟩, 0) else (⟨#[]⟩, 14)
def cutRet (x : ByteArray × Int) : Ending := .returned (.tuple #[.string x.1, .int .i64 x.2])

theorem ext_drop (s : ByteArray) (k : Nat) : (s.extract k s.size).data.toList = s.data.toList.drop k := by
  simp only [ByteArray.data_extract, Array.toList_extract, List.extract_eq_take_drop]
  exact List.take_of_length_le (by simp)
theorem ext_take (s : ByteArray) (k : Nat) : (s.extract 0 k).data.toList = s.data.toList.take k := by
  simp [ByteArray.data_extract, Array.toList_extract, List.extract_eq_take_drop]
theorem ext_from (s : ByteArray) (k : Nat) : s.extract k s.size = ⟨(s.data.toList.drop k).toArray⟩ := by
  apply ByteArray.ext
  rw [← ext_drop]
theorem cut_iff (l : List UInt8) (n : Nat) (hn : n = crcN (l.drop 4)) : l.take 4 = le4 n ↔ l = laidL (l.drop 4) := by
  unfold laidL
  rw [← hn]
  constructor
  · intro h
    rw [← h]
    exact (List.take_append_drop 4 l).symm
  · intro h
    have e := congrArg (List.take 4) h
    rw [e, ← le4_len n]
    exact List.take_left

set_option maxHeartbeats 400000 in
theorem cut_any (s : ByteArray) (hs : s.size ≤ 140737488355328) (w : World) :
    Calls Tryz.prog 143 #[.string s] w fun e w' => e = cutRet (cutSpec s) ∧ Below w.heap.size w w' := by
  by_cases h : s.size < 4
  · have E : Hid (cutSpec s = (⟨#[]⟩, 5)) := by show _ = _; unfold cutSpec; rw [if_pos h]
    go_enter Tryz.func143, Tryz.ntmps143
    go_wp2_with fail
    go_ret2
    exact ⟨by rw [E.out]; rfl, Below.refl _ _⟩
  · have h4 : 4 ≤ s.size := by omega
    have H := Lib.hid (checkOf_any (s.extract 4 s.size) (by unfold maxLen; simp; omega))
    rw [ext_drop] at H
    obtain ⟨n, hn⟩ : ∃ n, n = crcN (s.data.toList.drop 4) := ⟨_, rfl⟩
    rw [← hn] at H
    have hiff := cut_iff s.data.toList n hn
    have ht : (s.extract 0 4).toList = s.data.toList.take 4 := by rw [ByteArray.toList_eq, ext_take]
    rw [← ht] at hiff
    have HC := Lib.hid (strClone (s.extract 4 s.size))
    unfold chkAgg at H
    by_cases hq : (s.extract 0 4).toList = le4 n
    · have E : Hid (cutSpec s = (s.extract 4 s.size, 0)) := by show _ = _; unfold cutSpec; rw [if_neg h, if_pos (hiff.1 hq), ext_from]
      have hd : ((s.extract 0 4).toList == le4 n) = true := by rw [hq]; simp
      clear h hn hiff ht hq
      go_enter Tryz.func143, Tryz.ntmps143
      go_wp2_with fail
      refine (H.out _).mono ?_
      rintro e w1 ⟨rfl, hb1⟩
      have hcv := chk_string w1 n
      unfold chkCells at hcv
      go_wp2_with fail
      go_region
      go_wp2_with fail
      refine (HC.out _ (by simp; omega)).mono ?_
      rintro e w2 ⟨rfl, hb2⟩
      go_wp2_with fail
      go_ret2
      exact ⟨by rw [E.out]; rfl, bthen (bthen hb1 (balloc w1 _).drew) hb2⟩
    · have E : Hid (cutSpec s = (⟨#[]⟩, 14)) := by show _ = _; unfold cutSpec; rw [if_neg h, if_neg (fun e => hq (hiff.2 e))]
      have hd : ((s.extract 0 4).toList == le4 n) = false := by simpa using hq
      clear h hn hiff ht hq
      go_enter Tryz.func143, Tryz.ntmps143
      go_wp2_with fail
      refine (H.out _).mono ?_
      rintro e w1 ⟨rfl, hb1⟩
      have hcv := chk_string w1 n
      unfold chkCells at hcv
      go_wp2_with fail
      go_region
      go_wp2_with fail
      go_ret2
      exact ⟨by rw [E.out]; rfl, bthen hb1 (balloc w1 _).drew⟩

end Go.Proofs.YtdpmpmaepjgndaaGreat
