/- The contracts of the program's Many, has, first, cut and fetch. -/
import Derived.Test.YtdmlmjmdpmmcgaaPgLaws
import Derived.Test.YtdmlmjmdpmmcgaaPgCells
import Derived.Test.YtdmlmjmdpmmcgaaDkP2
import Derived.Test.YtdmlmjmdpmmcgaaStrJoin
namespace Go.Proofs.Ytdmlmjmdpmmcgaa
open Go.RowKit Go.Deep
set_option linter.unusedVariables false
set_option linter.unusedSimpArgs false
set_option maxRecDepth 100000

variable {base P bS bm cS : Nat} {d : Dk} {u : World}
theorem many_bd {n : Nat} (h : n ≤ 4096) : 0 ≤ manyP (n : Int) ∧ manyP (n : Int) ≤ 1024 := by unfold manyP; split <;> omega
set_option maxHeartbeats 800000 in
theorem pmany_of {v : Value} {n : Nat} (hn : n ≤ 4096) (H : Hid (Calls Try.prog 43 #[v] u fun r u' => r = .returned (.int .i64 (n : Int)) ∧ u' = u)) : Calls Try.prog 17 #[v] u fun r u' => r = .returned (.int .i64 (manyP (n : Int))) ∧ u' = u := by
  have E : Hid (manyP (n : Int) = if (n : Int) - 2 < 0 then 0 else ((n : Int) - 2) / 4) := Lib.hid (by unfold manyP; split <;> split <;> omega)
  have hn0 : (n : Int) ≤ 4096 := by omega
  have hn1 : (0 : Int) ≤ (n : Int) := by omega
  generalize (n : Int) = z at *
  by_cases h : z - 2 < 0
  · have d1 : decide (z - 2 < 0) = true := by simp [h]
    have d2 : ¬ 0 < z - 2 := by omega
    have d3 : decide (0 < z - 2) = false := by simp; omega
    have d4 : max (z - 2) 0 = 0 := by omega
    rw [if_pos h] at E
    go_enter Try.func17, Try.ntmps17
    go_wp2_with fail
    refine (H.out).mono ?_
    rintro e w1 ⟨rfl, rfl⟩
    go_wp2_with fail
    go_ret
    exact ⟨by rw [E.out]; first | rfl | (simp [d2, d4]), rfl⟩
  · have d1 : decide (z - 2 < 0) = false := by simp; omega
    have d4 : max (z - 2) 0 = z - 2 := by omega
    rw [if_neg h] at E
    go_enter Try.func17, Try.ntmps17
    go_wp2_with fail
    refine (H.out).mono ?_
    rintro e w1 ⟨rfl, rfl⟩
    go_wp2_with fail
    go_ret
    exact ⟨by rw [E.out]; first | rfl | (simp [d4]), rfl⟩
theorem pmany_any (h : PDk base P bS bm cS d u) (hn : d.n ≤ 4096) : Calls Try.prog 17 #[.pointer (some ⟨P, 0, none⟩)] u fun r u' => r = .returned (.int .i64 (manyP (d.n : Int))) ∧ u' = u :=
  pmany_of hn (psectors_any h)
theorem pmany_nil (u : World) : Calls Try.prog 17 #[.pointer none] u fun r u' => r = .returned (.int .i64 0) ∧ u' = u :=
  pmany_of (n := 0) (by omega) (psectors_nil u)
def hasB (d : Dk) (i : Int) : Bool := decide (0 ≤ i ∧ i < manyP (d.n : Int))
theorem hasB_true {d : Dk} {i : Int} (h : hasB d i = true) : 0 ≤ i ∧ i < manyP (d.n : Int) := of_decide_eq_true h
theorem hasB_false {d : Dk} {i : Int} (h : hasB d i = false) : i < 0 ∨ manyP (d.n : Int) ≤ i := by
  have := of_decide_eq_false h
  omega
set_option maxHeartbeats 800000 in
theorem phas_any (h : PDk base P bS bm cS d u) (hn : d.n ≤ 4096) (i : Int) : Calls Try.prog 44 #[.pointer (some ⟨P, 0, none⟩), .int .i64 i] u fun r u' => r = .returned (.bool (hasB d i)) ∧ u' = u := by
  have H := Lib.hid (pmany_any h hn)
  by_cases h0 : 0 ≤ i
  · have d1 : decide (0 ≤ i) = true := by simp [h0]
    have E : Hid (hasB d i = decide (i < manyP (d.n : Int))) := Lib.hid (by unfold hasB; simp [h0])
    clear h
    go_enter Try.func44, Try.ntmps44
    go_wp2_with fail
    refine (H.out).mono ?_
    rintro e w1 ⟨rfl, rfl⟩
    go_wp2_with fail
    go_ret
    exact ⟨by rw [E.out]; rfl, rfl⟩
  · have d1 : decide (0 ≤ i) = false := by simp; omega
    have E : Hid (hasB d i = false) := Lib.hid (by unfold hasB; simp [h0])
    clear h
    go_enter Try.func44, Try.ntmps44
    go_wp2_with fail
    go_ret
    exact ⟨by rw [E.out]; rfl, rfl⟩
theorem pfirst_any (i : Int) (h0 : 0 ≤ i) (h1 : i ≤ 4096) (u : World) : Calls Try.prog 46 #[.int .i64 i] u fun r u' => r = .returned (.int .i64 (2 + 4 * i)) ∧ u' = u := by
  go_enter Try.func46, Try.ntmps46
  go_wp2_with fail
  go_ret
  exact ⟨rfl, rfl⟩

/-- an array of four texts, the first j of them laid -/
def rowT (t : Nat → ByteArray) (j : Nat) : List Value := (List.range 4).map fun i => .string (if i < j then t i else ⟨#[]⟩)
theorem rowT_set (t : Nat → ByteArray) {j : Nat} (h : j < 4) : (rowT t j).toArray.setIfInBounds j (.string (t j)) = (rowT t (j + 1)).toArray := by
  rcases (by omega : j = 0 ∨ j = 1 ∨ j = 2 ∨ j = 3) with rfl | rfl | rfl | rfl <;> rfl
structure BoxT (B : Nat) (t : Nat → ByteArray) (j : Nat) (u : World) : Prop where
  b : u.heap[B]? = some (.cells (rowT t j).toArray 77 (0, 0))
theorem BoxT.put {B j : Nat} {t : Nat → ByteArray} (h : BoxT B t j u) (hj : j < 4) : BoxT B t (j + 1) (u.setCell ⟨B, j, none⟩ (.string (t j))) :=
  ⟨by rw [← rowT_set t hj]; exact Joins.block_setCell (i := j) h.b _⟩
theorem BoxT.cell {B j i : Nat} {t : Nat → ByteArray} (h : BoxT B t j u) (hi : i < 4) : u.cell? ⟨B, i, none⟩ = some (.string (if i < j then t i else ⟨#[]⟩)) := by
  rw [Lib.cell_of_heap h.b]
  unfold rowT
  rw [List.getElem?_toArray, List.getElem?_map, List.getElem?_range hi]
  rfl
theorem BoxT.frozen {B j : Nat} {t : Nat → ByteArray} (h : BoxT B t j u) (i : Nat) : u.frozen? ⟨B, i, none⟩ = false := Lib.frozen_of_heap h.b i
theorem BoxT.stays {B j : Nat} {t : Nat → ByteArray} {u2 : World} (h : BoxT B t j u) (k : Below u.heap.size u u2) : BoxT B t j u2 := ⟨heap_stays h.b k⟩

def fourQ (s : ByteArray) : Value := .agg #[.string (quart s 0), .string (quart s 1), .string (quart s 2), .string (quart s 3)]
set_option maxHeartbeats 1600000 in
theorem pcut_any (s : ByteArray) (hs : s.size = 256) (u : World) : Calls Try.prog 45 #[.string s] u fun r u' => r = .returned (fourQ s) ∧ Below u.heap.size u u' := by
  have HS := Lib.hid hs
  clear hs
  have Z1 := heap_alloc_new u (.cells #[.string ⟨#[]⟩, .string ⟨#[]⟩, .string ⟨#[]⟩, .string ⟨#[]⟩] 77)
  have B1 := balloc u (.cells #[.string ⟨#[]⟩, .string ⟨#[]⟩, .string ⟨#[]⟩, .string ⟨#[]⟩] 77)
  have Z2 := heap_alloc_new (u.alloc (.cells #[.string ⟨#[]⟩, .string ⟨#[]⟩, .string ⟨#[]⟩, .string ⟨#[]⟩] 77)) (.cells #[.string ⟨#[]⟩, .string ⟨#[]⟩, .string ⟨#[]⟩, .string ⟨#[]⟩] 77)
  have B2 := balloc (u.alloc (.cells #[.string ⟨#[]⟩, .string ⟨#[]⟩, .string ⟨#[]⟩, .string ⟨#[]⟩] 77)) (.cells #[.string ⟨#[]⟩, .string ⟨#[]⟩, .string ⟨#[]⟩, .string ⟨#[]⟩] 77)
  have B3 := Lib.hid (bthen B1 B2)
  have Y1 := heap_stays Z1 B2
  rw [World.size_alloc] at Z2
  obtain ⟨C, hC⟩ : ∃ C, C = u.heap.size := ⟨_, rfl⟩
  obtain ⟨D, hD⟩ : ∃ D, D = u.heap.size + 1 := ⟨_, rfl⟩
  have HC : Hid (u.heap.size ≤ C) := Lib.hid (by omega)
  have HD : Hid (u.heap.size ≤ D) := Lib.hid (by omega)
  have CD : Hid (C ≠ D) := Lib.hid (by omega)
  rw [← hC] at Y1
  rw [← hD] at Z2
  have T2 : Hid (BoxT D (quart s) 0 ((u.alloc (.cells #[.string ⟨#[]⟩, .string ⟨#[]⟩, .string ⟨#[]⟩, .string ⟨#[]⟩] 77)).alloc (.cells #[.string ⟨#[]⟩, .string ⟨#[]⟩, .string ⟨#[]⟩, .string ⟨#[]⟩] 77))) := Lib.hid ⟨Z2⟩
  have Y2 := Lib.hid Y1
  clear Z1 Z2 B1 B2 Y1
  go_enter Try.func45, Try.ntmps45
  go_upto_region 2 with fail
  rw [← hD, ← hC]
  generalize (u.alloc (.cells #[.string ⟨#[]⟩, .string ⟨#[]⟩, .string ⟨#[]⟩, .string ⟨#[]⟩] 77)).alloc (.cells #[.string ⟨#[]⟩, .string ⟨#[]⟩, .string ⟨#[]⟩, .string ⟨#[]⟩] 77) = w2 at *
  clear hC hD
  go_wp2_with fail
  go_loopw [4, 5] (fun _ i wr => ∃ j : Nat, j ≤ 4 ∧ i = .int .i64 j ∧ Hid (BoxT D (quart s) j wr) ∧ Hid (wr.heap[C]? = some (.cells #[.string ⟨#[]⟩, .string ⟨#[]⟩, .string ⟨#[]⟩, .string ⟨#[]⟩] 77 (0, 0))) ∧ Hid (Below u.heap.size u wr)) (fun _ i _ => 4 - (intOf i).toNat)
  case atStart => exact ⟨0, Nat.zero_le _, rfl, T2, Y2, B3⟩
  case round =>
    obtain ⟨j, hj, rfl, HT, HY, HB⟩ := hrel
    by_cases hlt : j < 4
    · have d1 : decide ((j : Int) < 4) = true := by simp; omega
      have g0 : (0 : Int) ≤ (j : Int) := by omega
      have g1 : (j : Int) < 4 := by omega
      have g2 : 64 * (j : Int) + 64 ≤ (s.size : Int) := by have := HS.out; omega
      have e1 : (64 * (j : Int)).toNat = 64 * j := by omega
      have e2 : (64 * ((j : Int) + 1)).toNat = 64 * j + 64 := by omega
      have e3 : 64 * ((j : Int) + 1) = 64 * (j : Int) + 64 := by omega
      have e4 : (64 * (j : Int) + 64).toNat = 64 * j + 64 := by omega
      have hc := HT.out.cell (i := j) hlt
      have hf := HT.out.frozen j
      have F : Hid (BoxT D (quart s) (j + 1) (wr.setCell ⟨D, j, none⟩ (.string (s.extract (64 * j) (64 * j + 64))))) := Lib.hid (HT.out.put hlt)
      have FY := Lib.hid ((set_else (P := D) (o := j) (w := wr) (.string (s.extract (64 * j) (64 * j + 64))) CD.out).trans HY.out)
      have FB := Lib.hid (HB.out.trans ((Below.refl _ _).setCell (p := ⟨D, j, none⟩) HD.out (.string (s.extract (64 * j) (64 * j + 64)))))
      go_wp2_with fail
      go_roundw
      case rel => exact ⟨j + 1, hlt, by go_num, F, FY, FB⟩
      case measure => simp [intOf]; omega
    · obtain rfl : j = 4 := by omega
      have hT := HT.out
      have q0 : wr.cell? ⟨D, 0, none⟩ = some (.string (quart s 0)) := hT.cell (i := 0) (by omega)
      have q1 : wr.cell? ⟨D, 1, none⟩ = some (.string (quart s 1)) := hT.cell (i := 1) (by omega)
      have q2 : wr.cell? ⟨D, 2, none⟩ = some (.string (quart s 2)) := hT.cell (i := 2) (by omega)
      have q3 : wr.cell? ⟨D, 3, none⟩ = some (.string (quart s 3)) := hT.cell (i := 3) (by omega)
      obtain ⟨x0, x1, x2, x3⟩ := four_cells HY.out
      have xf : ∀ q, wr.frozen? ⟨C, q, none⟩ = false := fun q => Lib.frozen_of_heap HY.out q
      have HE : Hid (fourQ s = .agg #[.string (quart s 0), .string (quart s 1), .string (quart s 2), .string (quart s 3)]) := Lib.hid rfl
      generalize quart s 0 = a0 at *
      generalize quart s 1 = a1 at *
      generalize quart s 2 = a2 at *
      generalize quart s 3 = a3 at *
      clear hT HT
      go_wp2_with fail
      change bodyPost _ _ _ _ _ (World.setCells wr C 0 [.string a0, .string a1, .string a2, .string a3])
      obtain ⟨t0, t1, t2, t3⟩ := four_cells (put_four HY.out (.string a0) (.string a1) (.string a2) (.string a3))
      have LZ := Lib.hid (HB.out.trans (put_below HC.out [.string a0, .string a1, .string a2, .string a3] 0 wr))
      generalize World.setCells wr C 0 [.string a0, .string a1, .string a2, .string a3] = w9 at *
      exact bodyPost_ret (v := .agg #[.string a0, .string a1, .string a2, .string a3]) (by simp [results, Try.results45, go_sem, t0, t1, t2, t3]) rfl ⟨by rw [HE.out], LZ.out⟩

end Go.Proofs.Ytdmlmjmdpmmcgaa
