/- The contract of strings.Join at two or more elements, at this program. The contracts of the program's Many, has, first, cut and fetch. The contract of the program's Write. The contracts of the document's Many and Write. What a page that is read on a disk is. -/
import Derived.Lib.Join
import Derived.Test.YtdmlmjmdpmmcgaaYZ11
import Derived.Test.YtdmlmjmdpmmcgaaYZ10
import Derived.Test.YtdmlmjmdpmmcgaaYZ2
import Derived.Test.YtdmlmjmdpmmcgaaYZ3
import Derived.Test.YtdmlmjmdpmmcgaaYZ0
import Derived.Test.YtdmlmjmdpmmcgaaYZ5
namespace Go.Proofs.Ytdmlmjmdpmmcgaa
open Go.Shelf Go.RowKit
set_option linter.unusedVariables false

set_option maxHeartbeats 4000000 in
set_option maxRecDepth 100000 in
theorem strJoin (bk o c : Nat) (xs : List ByteArray) (sep : ByteArray) (w : World)
    (hcells : ∀ (j : Nat) x, xs[j]? = some x → w.cell? ⟨bk, o + j, none⟩ = some (.string x))
    (hbk : bk < w.heap.size) (h2 : 2 ≤ xs.length) (hN : xs.length ≤ 140737488355328) (hcap : xs.length ≤ c)
    (hlen : (Lib.join (xs.map (·.data.toList)) sep.data.toList).length ≤ 140737488355328) :
    Calls Try.prog 68 #[.slice (some ⟨bk, o, none⟩) xs.length c, .string sep] w fun e w' => e = .returned (.string ⟨(Lib.join (xs.map (·.data.toList)) sep.data.toList).toArray⟩) ∧ Below w.heap.size w w' := by
  have HC := Lib.hid hcells
  clear hcells
  obtain ⟨x0, r, hxs⟩ : ∃ x0 r, xs = x0 :: r := by
    cases xs with
    | nil => simp at h2
    | cons a t => exact ⟨a, t, rfl⟩
  have hjl : sep.size * (xs.length - 1) + Lib.lens (xs.map (·.data.toList)) ≤ 140737488355328 := by
    have := Lib.join_length x0.data.toList (r.map (·.data.toList)) sep.data.toList
    rw [hxs] at hlen ⊢
    simp only [List.map_cons] at hlen ⊢
    rw [this, List.length_map] at hlen
    rw [Lib.size_eq, List.length_cons, Nat.add_sub_cancel]
    exact hlen
  have hmul : sep.size * (xs.length - 1) ≤ 140737488355328 := by omega
  generalize hM : sep.size * (xs.length - 1) = M at hjl hmul
  have hcast : ((xs.length : Int) - 1) = ((xs.length - 1 : Nat) : Int) := by omega
  have hlt : sep.size < 9223372036854775807 / (xs.length - 1) := by
    have : sep.size + 1 ≤ 9223372036854775807 / (xs.length - 1) := by
      rw [Nat.le_div_iff_mul_le (by omega), Nat.add_mul, hM]
      omega
    omega
  have hdv : ¬ (9223372036854775807 / ((xs.length : Int) - 1) ≤ (sep.size : Int)) := by
    have e : (9223372036854775807 : Int) / ((xs.length - 1 : Nat) : Int) = ((9223372036854775807 / (xs.length - 1) : Nat) : Int) := IntWalk.up_div (x := 9223372036854775807) rfl rfl
    rw [hcast, e]
    generalize 9223372036854775807 / (xs.length - 1) = q at hlt
    omega
  have hprod : wrap64 ((sep.size : Int) * ((xs.length : Int) - 1)) = (M : Int) := by
    have e : (sep.size : Int) * ((xs.length - 1 : Nat) : Int) = ((sep.size * (xs.length - 1) : Nat) : Int) := IntWalk.up_mul rfl rfl
    rw [hcast, e, hM]
    exact IntWalk.wrap64_in _ ⟨by omega, by omega⟩
  have hM0 : sep.size = 0 → M = 0 := fun h => by rw [← hM, h, Nat.zero_mul]
  clear hlt hcast
  have hne0 : ((xs.length : Int) == 0) = false := beq_eq_false_iff_ne.2 (by omega)
  have hne1 : ((xs.length : Int) == 1) = false := beq_eq_false_iff_ne.2 (by omega)
  have Hxs := Lib.hid hxs
  have Hlen := Lib.hid hlen
  clear hxs hlen
  go_enter Try.func68, Try.ntmps68
  go_wp2_with fail
  all_goals (
    go_loop [5, 41] (fun n i => ∃ k : Nat, k ≤ xs.length ∧ i = .int .i64 k ∧ n = .int .i64 ((M + Lib.lens ((xs.map (·.data.toList)).take k) : Nat) : Int)) (fun _ i => xs.length - (intOf i).toNat)
    case atStart => exact ⟨0, Nat.zero_le _, rfl, by first | (simp [Lib.lens]; done) | (have := hM0 (by omega); simp [Lib.lens, this])⟩
    case round =>
      obtain ⟨k, hk, rfl, rfl⟩ := hrel
      by_cases hkn : k < xs.length
      · obtain ⟨x, hx⟩ : ∃ x, xs[k]? = some x := ⟨xs[k], List.getElem?_eq_getElem hkn⟩
        have hc := HC.out k x hx
        have hstep := Lib.lens_take_succ (xs.map (·.data.toList)) k x.data.toList (by simp [hx])
        have hbound : Lib.lens ((xs.map (·.data.toList)).take (k + 1)) ≤ Lib.lens (xs.map (·.data.toList)) := Lib.lens_take_le _ _
        rw [← Lib.size_eq] at hstep
        generalize hA1 : Lib.lens ((xs.map (·.data.toList)).take (k + 1)) = A1 at hstep hbound
        generalize Lib.lens ((xs.map (·.data.toList)).take k) = A0 at hstep
        have HA1 := Lib.hid hA1
        clear hA1
        go_wp2
        exact ⟨⟨k + 1, by omega, by go_num, by rw [HA1.out]; refine congrArg _ ?_; omega⟩, by simp [intOf]; omega⟩
      · have hke : k = xs.length := by omega
        subst hke
        have hall : (xs.map (·.data.toList)).take xs.length = xs.map (·.data.toList) := List.take_of_length_le (by simp)
        rw [hall]
        generalize hT : Lib.lens (xs.map (·.data.toList)) = T at hjl
        have HT := Lib.hid hT
        clear hT hall
        go_wp2_with fail
        have hMT : ((M : Int) + (T : Int)) = ((M + T : Nat) : Int) := by omega
        rw [hMT]
        refine (GrowFresh w.heap.size w.heap.size (M + T) _ (Nat.le_refl _) (heap_alloc_new w _) (by simp) (by omega)).mono ?_
        rintro e w1 ⟨rfl, h1, hb1⟩
        have hb1' : Below w.heap.size w w1 := ((Below.refl w.heap.size w).alloc (Nat.le_refl _) _).trans hb1
        have hx0 : xs[0]? = some x0 := by rw [Hxs.out]; rfl
        have hc0 : w1.cell? ⟨bk, o, none⟩ = some (.string x0) := by
          rw [hb1'.cell (p := ⟨bk, o, none⟩) hbk]
          exact HC.out 0 x0 hx0
        have H1 := Lib.hid (Or.inr h1 : Lib.IsBuilder 104 5 w.heap.size w.heap.size [] w1)
        have Hb1 := Lib.hid hb1'
        have hBw1 : w.heap.size ≤ w1.heap.size := hb1'.size
        clear h1 hb1 hb1' hMT
        have hwhole : Lib.join (xs.map (·.data.toList)) sep.data.toList = x0.data.toList ++ Lib.joinTail sep.data.toList (r.map (·.data.toList)) := by
          rw [Hxs.out, List.map_cons, Lib.join_cons]
        have hCle : ∀ k, (x0.data.toList ++ Lib.joinTail sep.data.toList ((r.map (·.data.toList)).take k)).length ≤ 140737488355328 := fun k => by
          have h1 := Hlen.out
          rw [hwhole, List.length_append] at h1
          have h2 := Lib.joinTail_take_le sep.data.toList (r.map (·.data.toList)) k
          rw [List.length_append]
          omega
        have HCle := Lib.hid hCle
        have Hwhole := Lib.hid hwhole
        clear hCle hwhole
        go_wp2_with fail
        refine (writeString w.heap.size w.heap.size [] x0 w1 H1.out (by have := HCle.out 0; simp [Lib.joinTail] at this ⊢; omega) hBw1).mono ?_
        rintro e w2 ⟨rfl, h2', hb2⟩
        have hstart : ([] : List Value) ++ Lib.strCells x0 = Lib.byteCells (x0.data.toList ++ Lib.joinTail sep.data.toList ((r.map (·.data.toList)).take 0)) := by
          simp [Lib.joinTail, Lib.strCells_eq]
        rw [hstart] at h2'
        have H2 := Lib.hid (Or.inr h2' : Lib.IsBuilder 104 5 w.heap.size w.heap.size _ w2)
        have Hb2 := Lib.hid (Hb1.out.trans hb2)
        clear h2' hb2 hstart
        have hrl : r.length = xs.length - 1 := by rw [Hxs.out]; simp
        go_wp2_with fail
        go_loopw [65] (fun i wr => ∃ k : Nat, k ≤ r.length ∧ i = .int .i64 k ∧ Hid (Lib.IsBuilder 104 5 w.heap.size w.heap.size (Lib.byteCells (x0.data.toList ++ Lib.joinTail sep.data.toList ((r.map (·.data.toList)).take k))) wr) ∧ Hid (Below w.heap.size w wr)) (fun i _ => r.length - (intOf i).toNat)
        case atStart => exact ⟨0, Nat.zero_le _, rfl, H2, Hb2⟩
        case round =>
          obtain ⟨k, hk', rfl, HB, HW⟩ := hrel
          by_cases hkr : k < r.length
          · obtain ⟨y, hy⟩ : ∃ y, r[k]? = some y := ⟨r[k], List.getElem?_eq_getElem hkr⟩
            have hxy : xs[k + 1]? = some y := by rw [Hxs.out]; simpa using hy
            have hcy : wr.cell? ⟨bk, o + 1 + k, none⟩ = some (.string y) := by
              rw [HW.out.cell (p := ⟨bk, o + 1 + k, none⟩) hbk, show o + 1 + k = o + (k + 1) by omega]
              exact HC.out (k + 1) y hxy
            have hBw : w.heap.size ≤ wr.heap.size := HW.out.size
            have hnext : Lib.byteCells (x0.data.toList ++ Lib.joinTail sep.data.toList ((r.map (·.data.toList)).take k)) ++ Lib.strCells sep ++ Lib.strCells y = Lib.byteCells (x0.data.toList ++ Lib.joinTail sep.data.toList ((r.map (·.data.toList)).take (k + 1))) := by
              rw [Lib.joinTail_take_succ sep.data.toList (r.map (·.data.toList)) k y.data.toList (by simp [hy]), Lib.strCells_eq, Lib.strCells_eq, ← Lib.byteCells_append, ← Lib.byteCells_append, List.append_assoc, List.append_assoc, List.append_assoc]
            have hl1 := HCle.out (k + 1)
            rw [Lib.joinTail_take_succ sep.data.toList (r.map (·.data.toList)) k y.data.toList (by simp [hy])] at hl1
            simp only [List.length_append, ← Lib.size_eq] at hl1
            have hl0 : (Lib.byteCells (x0.data.toList ++ Lib.joinTail sep.data.toList ((r.map (·.data.toList)).take k))).length = x0.size + (Lib.joinTail sep.data.toList ((r.map (·.data.toList)).take k)).length := by
              rw [Lib.byteCells_length, List.length_append, ← Lib.size_eq]
            generalize (Lib.joinTail sep.data.toList ((r.map (·.data.toList)).take k)).length = J at hl0 hl1
            have Hn := Lib.hid hnext
            clear hnext hy hxy
            go_wp2_with fail
            refine (writeString w.heap.size w.heap.size _ sep wr HB.out (by rw [hl0]; omega) hBw).mono ?_
            rintro e w3 ⟨rfl, h3, hb3⟩
            have hBw3 : w.heap.size ≤ w3.heap.size := Nat.le_trans hBw hb3.size
            have H3 := Lib.hid h3
            have Hb3 := Lib.hid hb3
            clear h3 hb3
            go_wp2_with fail
            refine (writeString w.heap.size w.heap.size _ y w3 (Or.inr H3.out) (by rw [List.length_append, hl0, Lib.strCells_length]; omega) hBw3).mono ?_
            rintro e w4 ⟨rfl, h4, hb4⟩
            rw [Hn.out] at h4
            have H4 := Lib.hid (Or.inr h4 : Lib.IsBuilder 104 5 w.heap.size w.heap.size _ w4)
            have Hb4 := Lib.hid ((HW.out.trans Hb3.out).trans hb4)
            clear h4 hb4
            go_wp2
            exact ⟨⟨k + 1, by omega, by go_num, H4, Hb4⟩, by simp [intOf]; omega⟩
          · have hke : k = r.length := by omega
            subst hke
            have hfull : (r.map (·.data.toList)).take r.length = r.map (·.data.toList) := List.take_of_length_le (by simp)
            have hB' := HB.out
            rw [hfull, ← Hwhole.out] at hB'
            have hBw : w.heap.size ≤ wr.heap.size := HW.out.size
            go_wp2_with fail
            refine (builderString w.heap.size w.heap.size _ wr hB' hBw).mono ?_
            rintro e w5 ⟨rfl, hb5⟩
            have Hb5 := Lib.hid (HW.out.trans hb5)
            clear hb5 hB'
            go_wp2
            go_ret
            exact ⟨rfl, Hb5.out⟩)

end Go.Proofs.Ytdmlmjmdpmmcgaa
namespace Go.Proofs.Ytdmlmjmdpmmcgaa
open Go.RowKit Go.Deep
set_option linter.unusedVariables false
set_option linter.unusedSimpArgs false
set_option maxRecDepth 100000

variable {base P bS bm cS : Nat} {d : Dk} {u : World}
theorem many_bd {n : Nat} (h : n ≤ 4096) : 0 ≤ manyP (n : Int) ∧ manyP (n : Int) ≤ 1024 := by unfold manyP; split <;> omega
set_option maxHeartbeats 800000 in
theorem pmany_of {v : Value} {n : Nat} (hn : n ≤ 4096) (H : Hid (Calls Try.prog 43 #[v] u fun r u' => r = .returned (.int .i64 (n : Int)) ∧ u' = u)) : Calls Try.prog 17 #[v] u fun r u' => r = .returned (.int .i64 (manyP (n : Int))) ∧ u' = u := by
  have E : Hid (manyP (n : Int) = if (n : Int) - 2 < 0 then 0 else ((n : Int) - 2) / 4) := Lib.hid (by unfold manyP; split <;> split <;> omega)
  have hn0 : (n : Int) ≤ 4096 := by omega
  have hn1 : (0 : Int) ≤ (n : Int) := by omega
  generalize (n : Int) = z at *
  by_cases h : z - 2 < 0
  · have d1 : decide (z - 2 < 0) = true := by simp [h]
    have d2 : ¬ 0 < z - 2 := by omega
    have d3 : decide (0 < z - 2) = false := by simp; omega
    have d4 : max (z - 2) 0 = 0 := by omega
    rw [if_pos h] at E
    go_enter Try.func17, Try.ntmps17
    go_wp2_with fail
    refine (H.out).mono ?_
    rintro e w1 ⟨rfl, rfl⟩
    go_wp2_with fail
    go_ret
    exact ⟨by rw [E.out]; first | rfl | (simp [d2, d4]), rfl⟩
  · have d1 : decide (z - 2 < 0) = false := by simp; omega
    have d4 : max (z - 2) 0 = z - 2 := by omega
    rw [if_neg h] at E
    go_enter Try.func17, Try.ntmps17
    go_wp2_with fail
    refine (H.out).mono ?_
    rintro e w1 ⟨rfl, rfl⟩
    go_wp2_with fail
    go_ret
    exact ⟨by rw [E.out]; first | rfl | (simp [d4]), rfl⟩
theorem pmany_any (h : PDk base P bS bm cS d u) (hn : d.n ≤ 4096) : Calls Try.prog 17 #[.pointer (some ⟨P, 0, none⟩)] u fun r u' => r = .returned (.int .i64 (manyP (d.n : Int))) ∧ u' = u :=
  pmany_of hn (psectors_any h)
theorem pmany_nil (u : World) : Calls Try.prog 17 #[.pointer none] u fun r u' => r = .returned (.int .i64 0) ∧ u' = u :=
  pmany_of (n := 0) (by omega) (psectors_nil u)
def hasB (d : Dk) (i : Int) : Bool := decide (0 ≤ i ∧ i < manyP (d.n : Int))
theorem hasB_true {d : Dk} {i : Int} (h : hasB d i = true) : 0 ≤ i ∧ i < manyP (d.n : Int) := of_decide_eq_true h
theorem hasB_false {d : Dk} {i : Int} (h : hasB d i = false) : i < 0 ∨ manyP (d.n : Int) ≤ i := by
  have := of_decide_eq_false h
  omega
set_option maxHeartbeats 800000 in
theorem phas_any (h : PDk base P bS bm cS d u) (hn : d.n ≤ 4096) (i : Int) : Calls Try.prog 44 #[.pointer (some ⟨P, 0, none⟩), .int .i64 i] u fun r u' => r = .returned (.bool (hasB d i)) ∧ u' = u := by
  have H := Lib.hid (pmany_any h hn)
  by_cases h0 : 0 ≤ i
  · have d1 : decide (0 ≤ i) = true := by simp [h0]
    have E : Hid (hasB d i = decide (i < manyP (d.n : Int))) := Lib.hid (by unfold hasB; simp [h0])
    clear h
    go_enter Try.func44, Try.ntmps44
    go_wp2_with fail
    refine (H.out).mono ?_
    rintro e w1 ⟨rfl, rfl⟩
    go_wp2_with fail
    go_ret
    exact ⟨by rw [E.out]; rfl, rfl⟩
  · have d1 : decide (0 ≤ i) = false := by simp; omega
    have E : Hid (hasB d i = false) := Lib.hid (by unfold hasB; simp [h0])
    clear h
    go_enter Try.func44, Try.ntmps44
    go_wp2_with fail
    go_ret
    exact ⟨by rw [E.out]; rfl, rfl⟩
theorem pfirst_any (i : Int) (h0 : 0 ≤ i) (h1 : i ≤ 4096) (u : World) : Calls Try.prog 46 #[.int .i64 i] u fun r u' => r = .returned (.int .i64 (2 + 4 * i)) ∧ u' = u := by
  go_enter Try.func46, Try.ntmps46
  go_wp2_with fail
  go_ret
  exact ⟨rfl, rfl⟩

/-- an array of four texts, the first j of them laid -/
def rowT (t : Nat → ByteArray) (j : Nat) : List Value := (List.range 4).map fun i => .string (if i < j then t i else ⟨#[]⟩)
theorem rowT_set (t : Nat → ByteArray) {j : Nat} (h : j < 4) : (rowT t j).toArray.setIfInBounds j (.string (t j)) = (rowT t (j + 1)).toArray := by
  rcases (by omega : j = 0 ∨ j = 1 ∨ j = 2 ∨ j = 3) with rfl | rfl | rfl | rfl <;> rfl
structure BoxT (B : Nat) (t : Nat → ByteArray) (j : Nat) (u : World) : Prop where
  b : u.heap[B]? = some (.cells (rowT t j).toArray 77 (0, 0))
theorem BoxT.put {B j : Nat} {t : Nat → ByteArray} (h : BoxT B t j u) (hj : j < 4) : BoxT B t (j + 1) (u.setCell ⟨B, j, none⟩ (.string (t j))) :=
  ⟨by rw [← rowT_set t hj]; exact Joins.block_setCell (i := j) h.b _⟩
theorem BoxT.cell {B j i : Nat} {t : Nat → ByteArray} (h : BoxT B t j u) (hi : i < 4) : u.cell? ⟨B, i, none⟩ = some (.string (if i < j then t i else ⟨#[]⟩)) := by
  rw [Lib.cell_of_heap h.b]
  unfold rowT
  rw [List.getElem?_toArray, List.getElem?_map, List.getElem?_range hi]
  rfl
theorem BoxT.frozen {B j : Nat} {t : Nat → ByteArray} (h : BoxT B t j u) (i : Nat) : u.frozen? ⟨B, i, none⟩ = false := Lib.frozen_of_heap h.b i
theorem BoxT.stays {B j : Nat} {t : Nat → ByteArray} {u2 : World} (h : BoxT B t j u) (k : Below u.heap.size u u2) : BoxT B t j u2 := ⟨heap_stays h.b k⟩

def fourQ (s : ByteArray) : Value := .agg #[.string (quart s 0), .string (quart s 1), .string (quart s 2), .string (quart s 3)]
set_option maxHeartbeats 1600000 in
theorem pcut_any (s : ByteArray) (hs : s.size = 256) (u : World) : Calls Try.prog 45 #[.string s] u fun r u' => r = .returned (fourQ s) ∧ Below u.heap.size u u' := by
  have HS := Lib.hid hs
  clear hs
  have Z1 := heap_alloc_new u (.cells #[.string ⟨#[]⟩, .string ⟨#[]⟩, .string ⟨#[]⟩, .string ⟨#[]⟩] 77)
  have B1 := balloc u (.cells #[.string ⟨#[]⟩, .string ⟨#[]⟩, .string ⟨#[]⟩, .string ⟨#[]⟩] 77)
  have Z2 := heap_alloc_new (u.alloc (.cells #[.string ⟨#[]⟩, .string ⟨#[]⟩, .string ⟨#[]⟩, .string ⟨#[]⟩] 77)) (.cells #[.string ⟨#[]⟩, .string ⟨#[]⟩, .string ⟨#[]⟩, .string ⟨#[]⟩] 77)
  have B2 := balloc (u.alloc (.cells #[.string ⟨#[]⟩, .string ⟨#[]⟩, .string ⟨#[]⟩, .string ⟨#[]⟩] 77)) (.cells #[.string ⟨#[]⟩, .string ⟨#[]⟩, .string ⟨#[]⟩, .string ⟨#[]⟩] 77)
  have B3 := Lib.hid (bthen B1 B2)
  have Y1 := heap_stays Z1 B2
  rw [World.size_alloc] at Z2
  obtain ⟨C, hC⟩ : ∃ C, C = u.heap.size := ⟨_, rfl⟩
  obtain ⟨D, hD⟩ : ∃ D, D = u.heap.size + 1 := ⟨_, rfl⟩
  have HC : Hid (u.heap.size ≤ C) := Lib.hid (by omega)
  have HD : Hid (u.heap.size ≤ D) := Lib.hid (by omega)
  have CD : Hid (C ≠ D) := Lib.hid (by omega)
  rw [← hC] at Y1
  rw [← hD] at Z2
  have T2 : Hid (BoxT D (quart s) 0 ((u.alloc (.cells #[.string ⟨#[]⟩, .string ⟨#[]⟩, .string ⟨#[]⟩, .string ⟨#[]⟩] 77)).alloc (.cells #[.string ⟨#[]⟩, .string ⟨#[]⟩, .string ⟨#[]⟩, .string ⟨#[]⟩] 77))) := Lib.hid ⟨Z2⟩
  have Y2 := Lib.hid Y1
  clear Z1 Z2 B1 B2 Y1
  go_enter Try.func45, Try.ntmps45
  go_upto_region 2 with fail
  rw [← hD, ← hC]
  generalize (u.alloc (.cells #[.string ⟨#[]⟩, .string ⟨#[]⟩, .string ⟨#[]⟩, .string ⟨#[]⟩] 77)).alloc (.cells #[.string ⟨#[]⟩, .string ⟨#[]⟩, .string ⟨#[]⟩, .string ⟨#[]⟩] 77) = w2 at *
  clear hC hD
  go_wp2_with fail
  go_loopw [4, 5] (fun _ i wr => ∃ j : Nat, j ≤ 4 ∧ i = .int .i64 j ∧ Hid (BoxT D (quart s) j wr) ∧ Hid (wr.heap[C]? = some (.cells #[.string ⟨#[]⟩, .string ⟨#[]⟩, .string ⟨#[]⟩, .string ⟨#[]⟩] 77 (0, 0))) ∧ Hid (Below u.heap.size u wr)) (fun _ i _ => 4 - (intOf i).toNat)
  case atStart => exact ⟨0, Nat.zero_le _, rfl, T2, Y2, B3⟩
  case round =>
    obtain ⟨j, hj, rfl, HT, HY, HB⟩ := hrel
    by_cases hlt : j < 4
    · have d1 : decide ((j : Int) < 4) = true := by simp; omega
      have g0 : (0 : Int) ≤ (j : Int) := by omega
      have g1 : (j : Int) < 4 := by omega
      have g2 : 64 * (j : Int) + 64 ≤ (s.size : Int) := by have := HS.out; omega
      have e1 : (64 * (j : Int)).toNat = 64 * j := by omega
      have e2 : (64 * ((j : Int) + 1)).toNat = 64 * j + 64 := by omega
      have e3 : 64 * ((j : Int) + 1) = 64 * (j : Int) + 64 := by omega
      have e4 : (64 * (j : Int) + 64).toNat = 64 * j + 64 := by omega
      have hc := HT.out.cell (i := j) hlt
      have hf := HT.out.frozen j
      have F : Hid (BoxT D (quart s) (j + 1) (wr.setCell ⟨D, j, none⟩ (.string (s.extract (64 * j) (64 * j + 64))))) := Lib.hid (HT.out.put hlt)
      have FY := Lib.hid ((set_else (P := D) (o := j) (w := wr) (.string (s.extract (64 * j) (64 * j + 64))) CD.out).trans HY.out)
      have FB := Lib.hid (HB.out.trans ((Below.refl _ _).setCell (p := ⟨D, j, none⟩) HD.out (.string (s.extract (64 * j) (64 * j + 64)))))
      go_wp2_with fail
      go_roundw
      case rel => exact ⟨j + 1, hlt, by go_num, F, FY, FB⟩
      case measure => simp [intOf]; omega
    · obtain rfl : j = 4 := by omega
      have hT := HT.out
      have q0 : wr.cell? ⟨D, 0, none⟩ = some (.string (quart s 0)) := hT.cell (i := 0) (by omega)
      have q1 : wr.cell? ⟨D, 1, none⟩ = some (.string (quart s 1)) := hT.cell (i := 1) (by omega)
      have q2 : wr.cell? ⟨D, 2, none⟩ = some (.string (quart s 2)) := hT.cell (i := 2) (by omega)
      have q3 : wr.cell? ⟨D, 3, none⟩ = some (.string (quart s 3)) := hT.cell (i := 3) (by omega)
      obtain ⟨x0, x1, x2, x3⟩ := four_cells HY.out
      have xf : ∀ q, wr.frozen? ⟨C, q, none⟩ = false := fun q => Lib.frozen_of_heap HY.out q
      have HE : Hid (fourQ s = .agg #[.string (quart s 0), .string (quart s 1), .string (quart s 2), .string (quart s 3)]) := Lib.hid rfl
      generalize quart s 0 = a0 at *
      generalize quart s 1 = a1 at *
      generalize quart s 2 = a2 at *
      generalize quart s 3 = a3 at *
      clear hT HT
      go_wp2_with fail
      change bodyPost _ _ _ _ _ (World.setCells wr C 0 [.string a0, .string a1, .string a2, .string a3])
      obtain ⟨t0, t1, t2, t3⟩ := four_cells (put_four HY.out (.string a0) (.string a1) (.string a2) (.string a3))
      have LZ := Lib.hid (HB.out.trans (put_below HC.out [.string a0, .string a1, .string a2, .string a3] 0 wr))
      generalize World.setCells wr C 0 [.string a0, .string a1, .string a2, .string a3] = w9 at *
      exact bodyPost_ret (v := .agg #[.string a0, .string a1, .string a2, .string a3]) (by simp [results, Try.results45, go_sem, t0, t1, t2, t3]) rfl ⟨by rw [HE.out], LZ.out⟩

end Go.Proofs.Ytdmlmjmdpmmcgaa
namespace Go.Proofs.Ytdmlmjmdpmmcgaa
open Go.RowKit Go.Deep
set_option linter.unusedVariables false
set_option linter.unusedSimpArgs false
set_option maxRecDepth 100000

theorem wr_stop {d : Dk} {s : ByteArray} {a : Int} {i : Nat} (h : (wrN d s a i).2 ≠ 0) : ∀ k, wrN d s a (i + k) = wrN d s a i
  | 0 => rfl
  | k + 1 => by
    have ih := wr_stop h k
    show wrN d s a ((i + k) + 1) = _
    simp only [wrN]
    rw [ih, if_neg h]
theorem wr_next {d : Dk} {s : ByteArray} {a : Int} {i : Nat} (h : (wrN d s a i).2 = 0) : wrN d s a (i + 1) = (writeD (wrN d s a i).1 (a + (i : Int)) (quart s i), writeE (wrN d s a i).1 (a + (i : Int))) := by
  simp only [wrN]
  rw [if_pos h]
theorem run_index_four (q : Nat → ByteArray) (j : Nat) (hj : j < 4) (w : World) : (Instr.index 77 (.agg #[.string (q 0), .string (q 1), .string (q 2), .string (q 3)]) (.int .i64 (j : Int))).run Try.prog w = .ok (.string (q j)) w := by
  have h1 : (0 : Int) ≤ (j : Int) ∧ (j : Int) < 4 := by omega
  rcases (by omega : j = 0 ∨ j = 1 ∨ j = 2 ∨ j = 3) with rfl | rfl | rfl | rfl <;>
    simp [Instr.index, run_underlying Try.underlying77, asIntOf, h1, go_sem]
variable {base P bS bm cS : Nat} {d : Dk} {u : World}
theorem bd_wr (hn : d.n ≤ 4096) (hc : d.calls < 900000) (ha : d.arm ≤ 9223372036854775807) (s : ByteArray) (a : Int) {i : Nat} (hi : i ≤ 4) : BdD (wrN d s a i).1 := by
  have h := wr_bd d s a i
  exact ⟨by rw [wr_n]; exact hn, by omega, by omega⟩
set_option maxHeartbeats 6400000 in
theorem ppwrite_any (h : PDk base P bS bm cS d u) (hn : d.n ≤ 4096) (hc : d.calls < 900000) (ha : d.arm ≤ 9223372036854775807) (p : Pg) (hp : p.pay.size ≤ 9223372036854775807) : Calls Try.prog 19 #[.pointer (some ⟨P, 0, none⟩), .agg (pgV p).toArray] u fun r u' => r = .returned (.int .i64 (writeP d p).2) ∧ PDk base P bS bm cS (writeP d p).1 u' ∧ KpS (P3 P bS bm) u u' := by
  have HPut := Lib.hid (fun w => pput_any p w hp)
  have HR := Lib.hid (fun hq : putE p = 0 => (putE_zero.1 hq).1)
  have HS := Lib.hid (fun hq : putE p = 0 => putS_size hq)
  have EW : Hid (writeP d p = if putE p = 0 then (if manyP d.n ≤ p.id then (d, 3) else wrN d (putS p) (2 + 4 * p.id) 4) else (d, putE p)) := Lib.hid rfl
  unfold putRet at HPut
  obtain ⟨id, ep, kd, pay⟩ := p
  obtain ⟨wp, hwp⟩ : ∃ x, x = writeP d ⟨id, ep, kd, pay⟩ := ⟨_, rfl⟩
  rw [← hwp] at EW ⊢
  generalize putS ⟨id, ep, kd, pay⟩ = s at *
  have HR0 : Hid (putE ⟨id, ep, kd, pay⟩ = 0 → 0 ≤ id) := Lib.hid (fun hq => (HR.out hq).1)
  generalize putE ⟨id, ep, kd, pay⟩ = pe at *
  clear hwp HR hp
  unfold pgV at HPut ⊢
  dsimp only at HPut EW ⊢
  have X1 := Lib.hid (heap_alloc_new u (.cells #[.int .i64 id, .int .i64 ep, .int .i64 kd, .string pay] 23))
  have B1 := Lib.hid (balloc u (.cells #[.int .i64 id, .int .i64 ep, .int .i64 kd, .string pay] 23))
  have D1 := Lib.hid (h.below B1.out)
  obtain ⟨C, hC⟩ : ∃ C, C = u.heap.size := ⟨_, rfl⟩
  have NC : Hid (P3 P bS bm C = false) := Lib.hid (P3.no (by have := h.lt; omega) (by have := h.lt; omega) (by have := h.lt; omega))
  rw [← hC] at X1
  clear h
  go_enter Try.func19, Try.ntmps19
  go_upto_region 1 with fail
  rw [← hC]
  generalize u.alloc (.cells #[.int .i64 id, .int .i64 ep, .int .i64 kd, .string pay] 23) = w1 at *
  clear hC
  obtain ⟨x0, x1, x2, x3⟩ := four_cells X1.out
  by_cases he : pe = 0
  · subst he
    rw [if_pos rfl] at EW
    have id0 := HR0.out (by trivial)
    go_wp2_with fail
    refine (HPut.out _).mono ?_
    rintro e w2 ⟨rfl, hb⟩
    clear x0 x1 x2 x3
    have X2 := Lib.hid (heap_stays X1.out hb)
    have B2 := Lib.hid (bthen B1.out hb)
    have D2 := Lib.hid (D1.out.below hb)
    obtain ⟨x0, x1, x2, x3⟩ := four_cells X2.out
    have HH := Lib.hid (phas_any D2.out hn id)
    clear hb
    cases hb : hasB d id with
    | false =>
      rw [hb] at HH
      have hq := hasB_false hb
      rw [if_pos (show manyP (d.n : Int) ≤ id by omega)] at EW
      have K2 := Lib.hid (KpS.of B2.out : KpS (P3 P bS bm) u w2)
      clear hb hq
      go_wp2_with fail
      refine (HH.out).mono ?_
      rintro e w3 ⟨rfl, rfl⟩
      go_wp2_with fail
      go_ret
      rw [EW.out]
      exact ⟨rfl, D2.out, K2.out⟩
    | true =>
      rw [hb] at HH
      have hq := hasB_true hb
      rw [if_neg (show ¬ manyP (d.n : Int) ≤ id by omega)] at EW
      have hin := many_in hq.2 hq.1
      have id1 : id ≤ 4096 := by omega
      have HF := Lib.hid (fun w => pfirst_any id id0 id1 w)
      have HCut := Lib.hid (pcut_any s (HS.out (by trivial)) w2)
      unfold fourQ at HCut
      clear hb hq hin HS
      go_wp2_with fail
      refine (HH.out).mono ?_
      rintro e w3 ⟨rfl, rfl⟩
      go_wp2_with fail
      refine (HCut.out).mono ?_
      rintro e w3 ⟨rfl, hb⟩
      have X3 := Lib.hid (heap_stays X2.out hb)
      have K3 := Lib.hid (KpS.of (bthen B2.out hb) : KpS (P3 P bS bm) u w3)
      have D3 : Hid (PDk base P bS bm cS (wrN d s (2 + 4 * id) 0).1 w3) := Lib.hid (D2.out.below hb)
      clear hb x0 x1 x2 x3 HH HCut
      obtain ⟨q, hq⟩ : ∃ q : Nat → ByteArray, q = quart s := ⟨_, rfl⟩
      have HQ := Lib.hid hq
      rw [← hq]
      clear hq
      go_wp2_with fail
      go_loopw [7, 8, 9, 27] (fun _ _ _ i wr => ∃ j : Nat, j ≤ 4 ∧ i = .int .i64 j ∧ Hid ((wrN d s (2 + 4 * id) j).2 = 0) ∧ Hid (PDk base P bS bm cS (wrN d s (2 + 4 * id) j).1 wr) ∧ Hid (wr.heap[C]? = some (.cells #[.int .i64 id, .int .i64 ep, .int .i64 kd, .string pay] 23 (0, 0))) ∧ Hid (KpS (P3 P bS bm) u wr)) (fun _ _ _ i _ => 4 - (intOf i).toNat)
      case atStart => exact ⟨0, Nat.zero_le _, rfl, Lib.hid rfl, D3, X3, K3⟩
      case round =>
        obtain ⟨j, hj, rfl, HZ, HP, HX, HK⟩ := hrel
        by_cases hlt : j < 4
        · have d1 : decide ((j : Int) < 4) = true := by simp; omega
          have g0 : (0 : Int) ≤ (j : Int) := by omega
          have g1 : (j : Int) < 4 := by omega
          obtain ⟨x0, x1, x2, x3⟩ := four_cells HX.out
          have HW := Lib.hid (pwrite_any HP.out (bd_wr hn hc ha s (2 + 4 * id) (by omega)) (2 + 4 * id + (j : Int)) (quart s j))
          have EN := Lib.hid (wr_next HZ.out)
          rw [← HQ.out] at HW EN
          obtain ⟨ee, hee⟩ : ∃ x, x = writeE (wrN d s (2 + 4 * id) j).1 (2 + 4 * id + (j : Int)) := ⟨_, rfl⟩
          obtain ⟨dd, hdd⟩ : ∃ x, x = writeD (wrN d s (2 + 4 * id) j).1 (2 + 4 * id + (j : Int)) (q j) := ⟨_, rfl⟩
          rw [← hee, ← hdd] at HW EN
          clear hee hdd
          have qi : Hid (∀ w, (Instr.index 77 (.agg #[.string (q 0), .string (q 1), .string (q 2), .string (q 3)]) (.int .i64 (j : Int))).run Try.prog w = .ok (.string (q j)) w) := Lib.hid (run_index_four q j hlt)
          have FX := Lib.hid (fun (w4 : World) (k : KpS (P3 P bS bm) wr w4) => (k.blk (heap_lt HX.out) NC.out).trans HX.out)
          by_cases hz : ee = 0
          · subst hz
            focus
              (have qi2 := qi.out
               go_wp2_with fail
               refine (HF.out _).mono ?_
               rintro e w4 ⟨rfl, rfl⟩
               go_wp2_with fail
               refine (HW.out).mono ?_
               rintro e w5 ⟨rfl, r5, k5⟩
               have R5 := Lib.hid r5
               have K5 := Lib.hid k5
               have X5 := Lib.hid (FX.out w5 k5)
               clear r5 k5
               go_wp2_with fail
               go_roundw
               case rel => exact ⟨_, hlt, by go_num, Lib.hid (by rw [EN.out]), Lib.hid (by rw [EN.out]; exact R5.out), X5, Lib.hid (HK.out.trans K5.out)⟩
               case measure => simp [intOf]; try omega)
          · have hz2 : (ee != 0) = true := by simp [hz]
            have ES : Hid (wrN d s (2 + 4 * id) 4 = (dd, ee)) := Lib.hid (by
              have := wr_stop (d := d) (s := s) (a := 2 + 4 * id) (i := j + 1) (by rw [EN.out]; exact hz) (4 - (j + 1))
              rw [show j + 1 + (4 - (j + 1)) = 4 by omega, EN.out] at this
              exact this)
            focus
              (have qi2 := qi.out
               go_wp2_with fail
               refine (HF.out _).mono ?_
               rintro e w4 ⟨rfl, rfl⟩
               go_wp2_with fail
               refine (HW.out).mono ?_
               rintro e w5 ⟨rfl, r5, k5⟩
               have R5 := Lib.hid r5
               have K5 := Lib.hid (HK.out.trans k5)
               clear r5 k5
               go_wp2_with fail
               go_ret
               rw [EW.out, ES.out]
               exact ⟨rfl, R5.out, K5.out⟩)
        · obtain rfl : j = 4 := by omega
          have d1 : decide ((4 : Int) < 4) = false := by decide
          go_wp2_with fail
          go_ret
          rw [EW.out]
          exact ⟨by rw [HZ.out]; rfl, HP.out, HK.out⟩
  · rw [if_neg he] at EW
    have hz2 : (pe != 0) = true := by simp [he]
    go_wp2_with fail
    refine (HPut.out _).mono ?_
    rintro e w2 ⟨rfl, hb⟩
    have D2 := Lib.hid (D1.out.below hb)
    have K2 := Lib.hid (KpS.of (bthen B1.out hb) : KpS (P3 P bS bm) u w2)
    clear hb
    go_wp2_with fail
    go_ret
    rw [EW.out]
    exact ⟨rfl, D2.out, K2.out⟩

end Go.Proofs.Ytdmlmjmdpmmcgaa
namespace Go.Proofs.Ytdmlmjmdpmmcgaa
open Go.RowKit Go.Deep
set_option linter.unusedVariables false
set_option linter.unusedSimpArgs false
set_option maxRecDepth 100000

set_option maxHeartbeats 800000 in
theorem rmany_any (n : Nat) (hn : n ≤ 4096) (u : World) : Calls Try.prog 18 #[.int .i64 (n : Int)] u fun r u' => r = .returned (.int .i64 (manyP (n : Int))) ∧ u' = u := by
  have E : Hid (manyP (n : Int) = if (n : Int) < 2 then 0 else ((n : Int) - 2) / 4) := Lib.hid rfl
  have hn0 : (n : Int) ≤ 4096 := by omega
  have hn1 : (0 : Int) ≤ (n : Int) := by omega
  generalize (n : Int) = z at *
  by_cases h : z < 2
  · have d1 : decide (z < 2) = true := by simp [h]
    rw [if_pos h] at E
    go_enter Try.func18, Try.ntmps18
    go_wp2_with fail
    go_ret
    exact ⟨by rw [E.out]; rfl, rfl⟩
  · have d1 : decide (z < 2) = false := by simp; omega
    rw [if_neg h] at E
    go_enter Try.func18, Try.ntmps18
    go_wp2_with fail
    go_ret
    exact ⟨by rw [E.out]; rfl, rfl⟩

variable {base Q b1 b2 b3 c1 c2 c3 : Nat} {d : Dk} {u : World}
theorem swr_of {W : World} {C : Nat} {id ep kd : Int} {pay : ByteArray} (hC : W.heap[C]? = some (.cells #[.int .i64 id, .int .i64 ep, .int .i64 kd, .string pay] 23 (0, 0))) (hR : RDk base Q b1 b2 b3 c1 c2 c3 d W) :
    W.cell? ⟨C, 0, none⟩ = some (.int .i64 id) ∧ W.cell? ⟨Q, 0, none⟩ = some (.slice (some ⟨b1, 0, none⟩) d.n c1) :=
  ⟨(four_cells hC).1, hR.cells.1⟩
set_option maxHeartbeats 6400000 in
theorem rpwrite_any (h : RDk base Q b1 b2 b3 c1 c2 c3 d u) (hn : d.n ≤ 4096) (hc : d.calls < 900000) (ha : d.arm ≤ 9223372036854775807) (p : Pg) (hp : p.pay.size ≤ 1000000) (hid : p.id ≤ 9223372036854775807) : Calls Try.prog 20 #[.pointer (some ⟨Q, 0, none⟩), .agg (pgV p).toArray] u fun r u' => r = .returned (.int .i64 (writeP d p).2) ∧ RDk base Q b1 b2 b3 c1 c2 c3 (writeP d p).1 u' ∧ KpS (R4 Q b1 b2 b3) u u' := by
  have HPut := Lib.hid (fun w => rput_any p w hp)
  have HR := Lib.hid (fun hq : putE p = 0 => (putE_zero.1 hq).1)
  have HS := Lib.hid (fun hq : putE p = 0 => putS_size hq)
  have EW : Hid (writeP d p = if putE p = 0 then (if manyP d.n ≤ p.id then (d, 3) else wrN d (putS p) (2 + 4 * p.id) 4) else (d, putE p)) := Lib.hid rfl
  unfold putRet at HPut
  obtain ⟨id, ep, kd, pay⟩ := p
  obtain ⟨wp, hwp⟩ : ∃ x, x = writeP d ⟨id, ep, kd, pay⟩ := ⟨_, rfl⟩
  rw [← hwp] at EW ⊢
  generalize putS ⟨id, ep, kd, pay⟩ = s at *
  have HR0 : Hid (putE ⟨id, ep, kd, pay⟩ = 0 → 0 ≤ id) := Lib.hid (fun hq => (HR.out hq).1)
  generalize putE ⟨id, ep, kd, pay⟩ = pe at *
  clear hwp HR hp
  unfold pgV at HPut ⊢
  dsimp only at HPut EW hid ⊢
  have X1 := Lib.hid (heap_alloc_new u (.cells #[.int .i64 id, .int .i64 ep, .int .i64 kd, .string pay] 23))
  have B1 := Lib.hid (balloc u (.cells #[.int .i64 id, .int .i64 ep, .int .i64 kd, .string pay] 23))
  have D1 := Lib.hid (h.below B1.out)
  obtain ⟨C, hC⟩ : ∃ C, C = u.heap.size := ⟨_, rfl⟩
  have NC : Hid (R4 Q b1 b2 b3 C = false) := Lib.hid (R4.no (by have := h.lt; omega) (by have := h.lt; omega) (by have := h.lt; omega) (by have := h.lt; omega))
  rw [← hC] at X1
  clear h
  go_enter Try.func20, Try.ntmps20
  go_upto_region 1 with fail
  rw [← hC]
  generalize u.alloc (.cells #[.int .i64 id, .int .i64 ep, .int .i64 kd, .string pay] 23) = w1 at *
  clear hC
  obtain ⟨x0, x1, x2, x3⟩ := four_cells X1.out
  by_cases he : pe = 0
  · subst he
    rw [if_pos rfl] at EW
    have id0 := HR0.out (by trivial)
    have s256 := HS.out (by trivial)
    go_wp2_with fail
    refine (HPut.out _).mono ?_
    rintro e w2 ⟨rfl, hb⟩
    clear x0 x1 x2 x3
    have X2 := Lib.hid (heap_stays X1.out hb)
    have B2 := Lib.hid (bthen B1.out hb)
    have D2 := Lib.hid (D1.out.below hb)
    clear hb
    have HMy := Lib.hid (fun w => rmany_any d.n hn w)
    have hmb := many_bd hn
    go_upto_region 4 with fail
    refine wp_region_held_drew (S := (fun w' => w'.cell? ⟨C, 0, none⟩ = some (.int .i64 id) ∧ w'.cell? ⟨Q, 0, none⟩ = some (.slice (some ⟨b1, 0, none⟩) d.n c1))) (by kernel_rfl) ?_ (fun hHeld => ?_)
    · exact swr_of (heap_stays X2.out (bdrew w2)) (D2.out.below (bdrew w2))
    have X3 := Lib.hid (heap_stays X2.out (bdrew w2))
    have B3 := Lib.hid (bthen B2.out (bdrew w2))
    have D3 := Lib.hid (D2.out.below (bdrew w2))
    change wpAnyH _ _ _ _ _ _ _ _ (World.drew w2)
    generalize World.drew w2 = w3 at *
    first | refine tq0 0 rfl ?_ | refine tq1 0 rfl ?_
    try go_frame
    first | refine tq0 1 rfl ?_ | refine tq1 1 rfl ?_
    try go_frame
    first | refine tq0 2 rfl ?_ | refine tq1 2 rfl ?_
    try go_frame
    first | refine tq0 3 rfl ?_ | refine tq1 3 rfl ?_
    try go_frame
    first | refine tq0 4 rfl ?_ | refine tq1 4 rfl ?_
    try go_frame
    first | refine tq0 5 rfl ?_ | refine tq1 5 rfl ?_
    try go_frame
    first | refine tq0 6 rfl ?_ | refine tq1 6 rfl ?_
    try go_frame
    refine wpAnyH_ready (rs := [7]) (by kernel_rfl) (by simp) ?_
    refine AllReadyH.cons (o := ⟨_, _, _, _, _, _⟩) rfl (fun K hK => ?_) AllReadyH.nil
    go_simp
    refine (HMy.out _).mono ?_
    rintro e w4 ⟨rfl, hw4⟩
    subst w4
    refine hK.out _ _ ?_ (fun hHeld => ?_)
    · exact swr_of X3.out D3.out
    clear hK K
    try go_frame
    by_cases hm : manyP (d.n : Int) ≤ id
    · rw [if_pos hm] at EW
      have dm : decide (manyP (d.n : Int) ≤ id) = true := by simp [hm]
      have K2 := Lib.hid (KpS.of B3.out : KpS (R4 Q b1 b2 b3) u w3)
      first | refine tq0 8 rfl ?_ | refine tq1 8 rfl ?_
      try go_frame
      refine wpAnyH_done (by kernel_rfl) ?_ _
      go_wp2_with fail
      go_ret
      rw [EW.out]
      exact ⟨rfl, D3.out, K2.out⟩
    · rw [if_neg hm] at EW
      have dm : decide (manyP (d.n : Int) ≤ id) = false := by simp; omega
      have hin := many_in (n := d.n) (id := id) (by omega) id0
      have id1 : id ≤ 4096 := by omega
      have K3 := Lib.hid (KpS.of B3.out : KpS (R4 Q b1 b2 b3) u w3)
      have D30 : Hid (RDk base Q b1 b2 b3 c1 c2 c3 (wrN d s (2 + 4 * id) 0).1 w3) := Lib.hid D3.out
      first | refine tq0 8 rfl ?_ | refine tq1 8 rfl ?_
      try go_frame
      refine wpAnyH_done (by kernel_rfl) ?_ _
      have S256 := Lib.hid s256
      have HHm := Lib.hid hmb
      clear hin hm hmb dm s256
      go_wp2_with fail
      go_loopw [7, 8] (fun i _ wr => ∃ j : Nat, j ≤ 4 ∧ i = .int .i64 j ∧ Hid ((wrN d s (2 + 4 * id) j).2 = 0) ∧ Hid (RDk base Q b1 b2 b3 c1 c2 c3 (wrN d s (2 + 4 * id) j).1 wr) ∧ Hid (wr.heap[C]? = some (.cells #[.int .i64 id, .int .i64 ep, .int .i64 kd, .string pay] 23 (0, 0))) ∧ Hid (KpS (R4 Q b1 b2 b3) u wr)) (fun i _ _ => 4 - (intOf i).toNat)
      case atStart => exact ⟨0, Nat.zero_le _, rfl, Lib.hid rfl, D30, X3, K3⟩
      case round =>
        obtain ⟨j, hj, rfl, HZ, HP, HX, HK⟩ := hrel
        by_cases hlt : j < 4
        · have d1 : decide ((j : Int) < 4) = true := by simp; omega
          have g0 : (0 : Int) ≤ (j : Int) := by omega
          have g1 : (j : Int) < 4 := by omega
          have g2 : 64 * (j : Int) + 64 ≤ (s.size : Int) := by have := S256.out; omega
          have e1 : (64 * (j : Int)).toNat = 64 * j := by omega
          have e4 : (64 * (j : Int) + 64).toNat = 64 * j + 64 := by omega
          have q1 : IntKind.i64.wrap (4 * id) = 4 * id := by rw [IntKind.wrap_i64]; omega
          have q2 : IntKind.i64.wrap (2 + 4 * id) = 2 + 4 * id := by rw [IntKind.wrap_i64]; omega
          have q3 : IntKind.i64.wrap (2 + 4 * id + (j : Int)) = 2 + 4 * id + (j : Int) := by rw [IntKind.wrap_i64]; omega
          have q4 : IntKind.i64.wrap (64 * (j : Int)) = 64 * (j : Int) := by rw [IntKind.wrap_i64]; omega
          have q5 : IntKind.i64.wrap (64 * (j : Int) + 64) = 64 * (j : Int) + 64 := by rw [IntKind.wrap_i64]; omega
          have q6 : (0 : Int) ≤ 64 * (j : Int) + 64 := by omega
          have q7 : (0 : Int) ≤ 64 * (j : Int) := by omega
          have q8 : 64 * (j : Int) ≤ 64 * (j : Int) + 64 := by omega
          have HW := Lib.hid (fun w (h2 : RDk base Q b1 b2 b3 c1 c2 c3 (wrN d s (2 + 4 * id) j).1 w) => rwrite_any h2 (bd_wr hn hc ha s (2 + 4 * id) (by omega)) (2 + 4 * id + (j : Int)) (s.extract (64 * j) (64 * j + 64)) (by rw [ByteArray.size_extract]; omega))
          have EN : Hid (wrN d s (2 + 4 * id) (j + 1) = (writeD (wrN d s (2 + 4 * id) j).1 (2 + 4 * id + (j : Int)) (s.extract (64 * j) (64 * j + 64)), writeE (wrN d s (2 + 4 * id) j).1 (2 + 4 * id + (j : Int)))) := Lib.hid (wr_next HZ.out)
          obtain ⟨ee, hee⟩ : ∃ x, x = writeE (wrN d s (2 + 4 * id) j).1 (2 + 4 * id + (j : Int)) := ⟨_, rfl⟩
          obtain ⟨dd, hdd⟩ : ∃ x, x = writeD (wrN d s (2 + 4 * id) j).1 (2 + 4 * id + (j : Int)) (s.extract (64 * j) (64 * j + 64)) := ⟨_, rfl⟩
          rw [← hee, ← hdd] at HW EN
          clear hee hdd
          have FX := Lib.hid (fun (w3 w4 : World) (h3 : w3.heap[C]? = some (.cells #[.int .i64 id, .int .i64 ep, .int .i64 kd, .string pay] 23 (0, 0))) (k : KpS (R4 Q b1 b2 b3) w3 w4) => (k.blk (heap_lt h3) NC.out).trans h3)
          obtain ⟨tx, htx⟩ : ∃ x, x = s.extract (64 * j) (64 * j + 64) := ⟨_, rfl⟩
          rw [← htx] at HW
          have HTX := Lib.hid htx
          clear htx
          go_upto_region 9 with fail
          refine wp_region_held_drew (S := (fun w' => w'.cell? ⟨C, 0, none⟩ = some (.int .i64 id))) (by kernel_rfl) ?_ (fun hHeld => ?_)
          · exact (four_cells (heap_stays HX.out (bdrew wr))).1
          have X5 := Lib.hid (heap_stays HX.out (bdrew wr))
          have K5 := Lib.hid (HK.out.on (bdrew wr))
          have D5 := Lib.hid (HP.out.below (bdrew wr))
          change wpAnyH _ _ _ _ _ _ _ _ (World.drew wr)
          generalize World.drew wr = w5 at *
          first | refine tq0 0 rfl ?_ | refine tq1 0 rfl ?_
          try go_frame
          first | refine tq0 1 rfl ?_ | refine tq1 1 rfl ?_
          try go_frame
          first | refine tq0 2 rfl ?_ | refine tq1 2 rfl ?_
          try go_frame
          first | refine tq0 3 rfl ?_ | refine tq1 3 rfl ?_
          try go_frame
          first | refine tq0 4 rfl ?_ | refine tq1 4 rfl ?_
          try go_frame
          first | refine tq0 5 rfl ?_ | refine tq1 5 rfl ?_
          try go_frame
          first | refine tq0 6 rfl ?_ | refine tq1 6 rfl ?_
          try go_frame
          first | refine tq0 7 rfl ?_ | refine tq1 7 rfl ?_
          try go_frame
          first | refine tq0 8 rfl ?_ | refine tq1 8 rfl ?_
          try go_frame
          first | refine tq0 9 rfl ?_ | refine tq1 9 rfl ?_
          try go_frame
          first | refine tq0 10 rfl ?_ | refine tq1 10 rfl ?_
          try go_frame
          first | refine tq0 11 rfl ?_ | refine tq1 11 rfl ?_
          try go_frame
          first | refine tq0 12 rfl ?_ | refine tq1 12 rfl ?_
          try go_frame
          first | refine tq0 13 rfl ?_ | refine tq1 13 rfl ?_
          try go_frame
          refine wpAnyH_ready (rs := [14]) (by kernel_rfl) (by simp) ?_
          refine AllReadyH.cons (o := ⟨_, _, _, _, _, _⟩) rfl (fun K hK => ?_) AllReadyH.nil
          go_simp
          try rw [← HTX.out]
          refine (HW.out _ D5.out).mono ?_
          rintro e w6 ⟨rfl, r6, k6⟩
          have R6 := Lib.hid r6
          have K6 := Lib.hid (K5.out.trans k6)
          have X6 := Lib.hid (FX.out _ _ X5.out k6)
          refine hK.out _ _ ?_ (fun hHeld => ?_)
          · exact (four_cells X6.out).1
          clear hK K r6 k6
          try go_frame
          first | refine tq0 15 rfl ?_ | refine tq1 15 rfl ?_
          try go_frame
          refine wpAnyH_done (by kernel_rfl) ?_ _
          by_cases hz : ee = 0
          · subst hz
            go_wp2_with fail
            go_roundw
            case rel => exact ⟨j + 1, hlt, by go_num, Lib.hid (by rw [EN.out]), Lib.hid (by rw [EN.out]; exact R6.out), X6, K6⟩
            case measure => simp [intOf]; omega
          · have hz2 : (ee != 0) = true := by simp [hz]
            have ES : Hid (wrN d s (2 + 4 * id) 4 = (dd, ee)) := Lib.hid (by
              have := wr_stop (d := d) (s := s) (a := 2 + 4 * id) (i := j + 1) (by rw [EN.out]; exact hz) (4 - (j + 1))
              rw [show j + 1 + (4 - (j + 1)) = 4 by omega, EN.out] at this
              exact this)
            go_wp2_with fail
            go_ret
            rw [EW.out, ES.out]
            exact ⟨rfl, R6.out, K6.out⟩
        · obtain rfl : j = 4 := by omega
          have d1 : decide ((4 : Int) < 4) = false := by decide
          go_wp2_with fail
          go_ret
          rw [EW.out]
          exact ⟨by rw [HZ.out]; rfl, HP.out, HK.out⟩
  · rw [if_neg he] at EW
    have hz2 : (pe != 0) = true := by simp [he]
    go_wp2_with fail
    refine (HPut.out _).mono ?_
    rintro e w2 ⟨rfl, hb⟩
    have D2 := Lib.hid (D1.out.below hb)
    have K2 := Lib.hid (KpS.of (bthen B1.out hb) : KpS (R4 Q b1 b2 b3) u w2)
    clear hb
    go_wp2_with fail
    go_ret
    rw [EW.out]
    exact ⟨rfl, D2.out, K2.out⟩

end Go.Proofs.Ytdmlmjmdpmmcgaa
namespace Go.Proofs.Ytdmlmjmdpmmcgaa
open Go.RowKit
set_option linter.unusedVariables false
set_option maxRecDepth 100000

def readRet (d : Dk) (id : Int) : Ending := .returned (.tuple #[.agg (pgV (readPP d id)).toArray, .int .i64 (readPE d id)])
theorem readRet_bad {d : Dk} {id e : Int} (h : readPE d id = e) (hne : e ≠ 0) : readRet d id = .returned (.tuple #[.agg #[.int .i64 0, .int .i64 0, .int .i64 0, .string ⟨#[]⟩], .int .i64 e]) := by
  unfold readRet readPP
  rw [h, if_neg hne]
  rfl
theorem readRet_ok {d : Dk} {id : Int} (h : readPE d id = 0) : readRet d id = .returned (.tuple #[.agg (pgV (getP (pageS d id.toNat))).toArray, .int .i64 0]) := by
  unfold readRet readPP
  rw [h, if_pos rfl]

end Go.Proofs.Ytdmlmjmdpmmcgaa
