/- The contracts of pack.lay at uint64 and int, and of pack.isSigned. The contracts of horologeref01.U, I and Two, and of pack.U and pack.I: the very bytes. The contracts of the program's may and of the document's Right, of layer, and of the function that layer makes. -/
import Derived.WalkKit
import Derived.WalkSpells
import Derived.WalkLawsBesides
import Derived.Laws.BytesArg
import Derived.Lib.Hide
import Derived.WalkSmall
import Derived.Laws.AppendOwnNone
import Derived.Deep.DeepCutAuto
import Derived.Test.YtdpmpmaepjgndaaGreatYZ0
import Derived.Test.YtdpmpmaepjgndaaGreatRows
import Derived.Test.YtdpmpmaepjgndaaGreatYZ1
import Derived.Test.YtdpmpmaepjgndaaGreatYZ4
import Derived.Test.YtdpmpmaepjgndaaGreatYZ12
namespace Go.Proofs.YtdpmpmaepjgndaaGreat
open Go.RowKit


theorem info_u8 : (Tryz.prog.info? 5).map (fun i => (i.zero, i.size, i.bytes)) = some (some (.int .u8 0), 1, 1) := by kernel_rfl

theorem isSigned_u64 (w : World) : Calls Tryz.prog 194 #[] w fun e w' => e = .returned (.bool false) ∧ w = w' := by
  go_enter Tryz.func194, Tryz.ntmps194
  go_wp2
  go_ret
  exact ⟨rfl, rfl⟩
theorem isSigned_int (w : World) : Calls Tryz.prog 175 #[] w fun e w' => e = .returned (.bool true) ∧ w = w' := by
  go_enter Tryz.func175, Tryz.ntmps175
  go_wp2
  go_ret
  exact ⟨rfl, rfl⟩
/-- the row after i rounds, in a world -/
def LayAt (w wr : World) (k i : Nat) (n : Int) : Prop :=
  wr.ownsRow w.heap.size 5 1 (.slice (some ⟨w.heap.size, 0, none⟩) k k) k ((layRow k i n).map (Value.int .u8)) ∧ Below w.heap.size w wr

theorem layAt_start {w wr : World} {k : Nat} (n : Int)
    (h : wr.ownsRow w.heap.size 5 1 (.slice (some ⟨w.heap.size, 0, none⟩) k k) k (madeCells #[Value.int .u8 0] k).toList) (hg : w.grownBy wr none) : LayAt w wr k 0 n := by
  refine ⟨?_, (Below.refl _ _).grown hg (Nat.le_refl _) (by simp)⟩
  rw [toList_madeCells_one] at h
  rw [layRow_zero, List.map_replicate]; exact h

theorem layAt_step {w wr : World} {k i : Nat} {n : Int} (hik : i < k) (h : LayAt w wr k i n) :
    LayAt w (wr.setCell ⟨w.heap.size, k - 1 - i, none⟩ (.int .u8 (n / 256 ^ i % 256))) k (i + 1) n := by
  obtain ⟨h1, h2⟩ := h
  have hs := h1.stored (k - 1 - i) (.int .u8 (n / 256 ^ i % 256))
  refine ⟨?_, h2.setCell (Nat.le_refl _) _⟩
  have := hs.1
  rw [← List.map_set, layRow_step k i n hik] at this
  exact this

theorem layAt_end {w wr : World} {k : Nat} {n : Int} (h : LayAt w wr k k n) :
    ∀ i, i < k → wr.cell? ⟨w.heap.size, 0 + i, none⟩ = some (.int .u8 ((beI k n).getD i 0)) := by
  intro i hi
  have := h.1.cellAt i (by omega)
  rw [Nat.zero_add, this, layRow_full]
  have hl := beI_len k n
  simp [List.getElem?_eq_getElem (show i < (beI k n).length by omega)]

theorem layAt_some {w wr : World} {k i : Nat} {n : Int} (hik : i < k) (h : LayAt w wr k i n) : ∃ v, wr.cell? ⟨w.heap.size, k - 1 - i, none⟩ = some v := by
  have := h.1.cellAt (k - 1 - i) (by omega)
  rw [this]
  have hl := layRow_len k i n (by omega)
  exact ⟨_, List.getElem?_eq_getElem (by simp; omega)⟩

set_option maxHeartbeats 400000 in
theorem lay_u64 (n : Int) (k : Nat) (hk : k ≤ 8) (w : World) :
    Calls Tryz.prog 189 #[.int .u64 n, .int .i64 k] w fun e w' => e = .returned (.string (strOfNums (beI k n))) ∧ Below w.heap.size w w' := by
  obtain ⟨i0, hi, hz0, hz1, hz2⟩ := info_parts info_u8
  go_enter Tryz.func189, Tryz.ntmps189
  go_wp2_with (first
    | (go_at_call 194; refine (isSigned_u64 _).mono ?_; rintro e w' ⟨rfl, rfl⟩)
    | (at_make; refine wpList_make_full _ rfl _ _ _ rfl w.heap.size 5 i0 (.int .u8 0) 1 Tryz.underlying97 hi hz0 hz1 .i64 .i64 _ _ k rfl rfl rfl rfl (by rw [hz2]; omega) (by unfold maxLen; omega) (by omega) ?_))
  intro w1 hown hgr
  obtain ⟨m, hm⟩ : ∃ m, m = n := ⟨_, rfl⟩
  rw [← hm]
  have HM := Lib.hid hm.symm
  clear hm
  have H1 : Hid (LayAt w w1 k 0 m) := layAt_start m hown hgr
  clear hown hgr hi hz0 hz1 hz2
  go_wp2_with fail
  go_loopw [5, 15] (fun b i wr => ∃ j : Nat, j ≤ k ∧ i = .int .i64 j ∧ b = .int .u64 (m / 256 ^ j) ∧ LayAt w wr k j m) (fun _ i _ => k - (intOf i).toNat)
  case atStart => exact ⟨0, Nat.zero_le _, rfl, by simp, H1.out⟩
  case round =>
    obtain ⟨j, hj, rfl, rfl, hl⟩ := hrel
    by_cases hlt : j < k
    · have hst := layAt_step hlt hl
      have hfz : wr.frozen? ⟨w.heap.size, k - 1 - j, none⟩ = false := hl.1.frozenAt _
      obtain ⟨v, hc⟩ := layAt_some hlt hl
      have HS := Lib.hid hst
      clear hst hl
      go_wp2
      go_roundw
      case rel => exact ⟨j + 1, by omega, by go_num, by rw [div_next], HS.out⟩
      case measure => simp [intOf]; omega
    · obtain rfl : j = k := by omega
      have hcv := run_convert_bytes_arg (P := Tryz.prog) wr 97 5 Tryz.underlying97 Tryz.underlying5 w.heap.size 0 j j (beI j m) (beI_len j m) (layAt_end hl) 9 Tryz.underlying9
      have HB := Lib.hid hl.2
      clear hl
      go_wp2
      go_ret
      exact ⟨by rw [HM.out]; rfl, HB.out⟩

set_option maxHeartbeats 400000 in
theorem lay_int (n : Int) (k : Nat) (hk : k ≤ 8) (w : World) :
    Calls Tryz.prog 151 #[.int .i64 n, .int .i64 k] w fun e w' => e = .returned (.string (strOfNums (beI k (flip63 n)))) ∧ Below w.heap.size w w' := by
  obtain ⟨i0, hi, hz0, hz1, hz2⟩ := info_parts info_u8
  go_enter Tryz.func151, Tryz.ntmps151
  go_wp2_with (first
    | (go_at_call 175; refine (isSigned_int _).mono ?_; rintro e w' ⟨rfl, rfl⟩)
    | (at_make; refine wpList_make_full _ rfl _ _ _ rfl w.heap.size 5 i0 (.int .u8 0) 1 Tryz.underlying97 hi hz0 hz1 .i64 .i64 _ _ k rfl rfl rfl rfl (by rw [hz2]; omega) (by unfold maxLen; omega) (by omega) ?_))
  intro w1 hown hgr
  generalize hm : IntKind.u64.wrap (IntKind.u64.wrap n + 9223372036854775808) = m
  have HM : Hid (flip63 n = m) := hm
  clear hm
  have H1 : Hid (LayAt w w1 k 0 m) := layAt_start m hown hgr
  clear hown hgr hi hz0 hz1 hz2
  go_wp2_with fail
  go_loopw [5, 16] (fun b i wr => ∃ j : Nat, j ≤ k ∧ i = .int .i64 j ∧ b = .int .u64 (m / 256 ^ j) ∧ LayAt w wr k j m) (fun _ i _ => k - (intOf i).toNat)
  case atStart => exact ⟨0, Nat.zero_le _, rfl, by simp, H1.out⟩
  case round =>
    obtain ⟨j, hj, rfl, rfl, hl⟩ := hrel
    by_cases hlt : j < k
    · have hst := layAt_step hlt hl
      have hfz : wr.frozen? ⟨w.heap.size, k - 1 - j, none⟩ = false := hl.1.frozenAt _
      obtain ⟨v, hc⟩ := layAt_some hlt hl
      have HS := Lib.hid hst
      clear hst hl
      go_wp2
      go_roundw
      case rel => exact ⟨j + 1, by omega, by go_num, by rw [div_next], HS.out⟩
      case measure => simp [intOf]; omega
    · obtain rfl : j = k := by omega
      have hcv := run_convert_bytes_arg (P := Tryz.prog) wr 97 5 Tryz.underlying97 Tryz.underlying5 w.heap.size 0 j j (beI j m) (beI_len j m) (layAt_end hl) 9 Tryz.underlying9
      have HB := Lib.hid hl.2
      clear hl
      go_wp2
      go_ret
      exact ⟨by rw [HM.out]; rfl, HB.out⟩

end Go.Proofs.YtdpmpmaepjgndaaGreat
namespace Go.Proofs.YtdpmpmaepjgndaaGreat
open Go.RowKit
set_option maxRecDepth 100000

theorem lay_u64_8 (n : Int) (w : World) :
    Calls Tryz.prog 189 #[.int .u64 n, .int .i64 8] w fun e w' => e = .returned (.string (strOfNums (beI 8 n))) ∧ Below w.heap.size w w' := lay_u64 n 8 (by omega) w
theorem lay_int_8 (n : Int) (w : World) :
    Calls Tryz.prog 151 #[.int .i64 n, .int .i64 8] w fun e w' => e = .returned (.string (strOfNums (beI 8 (flip63 n)))) ∧ Below w.heap.size w w' := lay_int n 8 (by omega) w

theorem packU (n : Int) (w : World) :
    Calls Tryz.prog 178 #[.int .u64 n] w fun e w' => e = .returned (.string (strOfNums (beI 8 n))) ∧ Below w.heap.size w w' := by
  go_enter Tryz.func178, Tryz.ntmps178
  go_wp2_with (go_at_call 189; refine (lay_u64_8 _ _).mono ?_; rintro e w' ⟨rfl, hb⟩)
  go_ret
  exact ⟨rfl, hb⟩
theorem packI (n : Int) (w : World) :
    Calls Tryz.prog 114 #[.int .i64 n] w fun e w' => e = .returned (.string (strOfNums (beI 8 (flip63 n)))) ∧ Below w.heap.size w w' := by
  go_enter Tryz.func114, Tryz.ntmps114
  go_wp2_with (go_at_call 151; refine (lay_int_8 _ _).mono ?_; rintro e w' ⟨rfl, hb⟩)
  go_ret
  exact ⟨rfl, hb⟩

end Go.Proofs.YtdpmpmaepjgndaaGreat
namespace Go.Proofs.YtdpmpmaepjgndaaGreat
open Go.RowKit Go.Deep
set_option linter.unusedVariables false
set_option linter.unusedSimpArgs false
set_option maxRecDepth 100000

def pgV (p : Pg) : List Value := [.int .i64 p.id, .int .i64 p.ep, .int .i64 p.kd, .string p.pay]
def rightB (p : Pg) : Bool := decide (RightP p)
theorem rightB_true {p : Pg} (h : rightB p = true) : RightP p := of_decide_eq_true h
theorem rightB_false {p : Pg} (h : rightB p = false) : ¬ RightP p := of_decide_eq_false h
theorem rightB_yes {p : Pg} (h : RightP p) : rightB p = true := decide_eq_true h
theorem rightB_no {p : Pg} (h : ¬ RightP p) : rightB p = false := decide_eq_false h

set_option maxHeartbeats 1600000 in
theorem pmay_any (p : Pg) (u : World) : Calls Tryz.prog 145 #[.agg (pgV p).toArray] u fun e w' => e = .returned (.bool (rightB p)) ∧ Below u.heap.size u w' := by
  obtain ⟨id, ep, kd, pay⟩ := p
  change Calls _ _ #[.agg #[.int .i64 id, .int .i64 ep, .int .i64 kd, .string pay]] _ _
  have X1 := Lib.hid (heap_alloc_new u (.cells #[.int .i64 id, .int .i64 ep, .int .i64 kd, .string pay] 41))
  have B1 := Lib.hid (balloc u (.cells #[.int .i64 id, .int .i64 ep, .int .i64 kd, .string pay] 41))
  obtain ⟨C, hC⟩ : ∃ C, C = u.heap.size := ⟨_, rfl⟩
  rw [← hC] at X1
  go_enter Tryz.func145, Tryz.ntmps145
  go_upto_region 1 with fail
  rw [← hC]
  generalize u.alloc (.cells #[.int .i64 id, .int .i64 ep, .int .i64 kd, .string pay] 41) = w1 at *
  clear hC
  have x0 : w1.cell? ⟨C, 0, none⟩ = some (.int .i64 id) := by rw [Lib.cell_of_heap X1.out]; rfl
  have x1 : w1.cell? ⟨C, 1, none⟩ = some (.int .i64 ep) := by rw [Lib.cell_of_heap X1.out]; rfl
  have x2 : w1.cell? ⟨C, 2, none⟩ = some (.int .i64 kd) := by rw [Lib.cell_of_heap X1.out]; rfl
  by_cases h1 : 0 ≤ id
  · have d1 : decide (0 ≤ id) = true := by simp [h1]
    by_cases h2 : 0 ≤ ep
    · have d2 : decide (0 ≤ ep) = true := by simp [h2]
      by_cases h3 : ep ≤ 1099511627776
      · have d3 : decide (ep ≤ 1099511627776) = true := by simp [h3]
        by_cases h4 : 0 ≤ kd
        · have d4 : decide (0 ≤ kd) = true := by simp [h4]
          by_cases h5 : kd ≤ 2147483647
          · have d5 : decide (kd ≤ 2147483647) = true := by simp [h5]
            have E := Lib.hid (rightB_yes (p := ⟨id, ep, kd, pay⟩) ⟨h1, h2, h3, h4, h5⟩)
            clear h1 h2 h3 h4 h5
            go_wp2_with fail
            go_ret
            exact ⟨by rw [E.out]; rfl, B1.out⟩
          · have d5 : decide (kd ≤ 2147483647) = false := by simp; omega
            have E := Lib.hid (rightB_no (p := ⟨id, ep, kd, pay⟩) fun h => h5 h.2.2.2.2)
            clear h1 h2 h3 h4 h5
            go_wp2_with fail
            go_ret
            exact ⟨by rw [E.out]; rfl, B1.out⟩
        · have d4 : decide (0 ≤ kd) = false := by simp; omega
          have E := Lib.hid (rightB_no (p := ⟨id, ep, kd, pay⟩) fun h => h4 h.2.2.2.1)
          clear h1 h2 h3 h4
          go_wp2_with fail
          go_ret
          exact ⟨by rw [E.out]; rfl, B1.out⟩
      · have d3 : decide (ep ≤ 1099511627776) = false := by simp; omega
        have E := Lib.hid (rightB_no (p := ⟨id, ep, kd, pay⟩) fun h => h3 h.2.2.1)
        clear h1 h2 h3
        go_wp2_with fail
        go_ret
        exact ⟨by rw [E.out]; rfl, B1.out⟩
    · have d2 : decide (0 ≤ ep) = false := by simp; omega
      have E := Lib.hid (rightB_no (p := ⟨id, ep, kd, pay⟩) fun h => h2 h.2.1)
      clear h1 h2
      go_wp2_with fail
      go_ret
      exact ⟨by rw [E.out]; rfl, B1.out⟩
  · have d1 : decide (0 ≤ id) = false := by simp; omega
    have E := Lib.hid (rightB_no (p := ⟨id, ep, kd, pay⟩) fun h => h1 h.1)
    clear h1
    go_wp2_with fail
    go_ret
    exact ⟨by rw [E.out]; rfl, B1.out⟩

set_option maxHeartbeats 1600000 in
theorem rright_any (p : Pg) (u : World) : Calls Tryz.prog 53 #[.agg (pgV p).toArray] u fun e w' => e = .returned (.bool (rightB p)) ∧ Below u.heap.size u w' := by
  obtain ⟨id, ep, kd, pay⟩ := p
  change Calls _ _ #[.agg #[.int .i64 id, .int .i64 ep, .int .i64 kd, .string pay]] _ _
  have X1 := Lib.hid (heap_alloc_new u (.cells #[.int .i64 id, .int .i64 ep, .int .i64 kd, .string pay] 41))
  have B1 := Lib.hid (balloc u (.cells #[.int .i64 id, .int .i64 ep, .int .i64 kd, .string pay] 41))
  obtain ⟨C, hC⟩ : ∃ C, C = u.heap.size := ⟨_, rfl⟩
  rw [← hC] at X1
  go_enter Tryz.func53, Tryz.ntmps53
  go_upto_region 1 with fail
  rw [← hC]
  generalize u.alloc (.cells #[.int .i64 id, .int .i64 ep, .int .i64 kd, .string pay] 41) = w1 at *
  clear hC
  have x0 : w1.cell? ⟨C, 0, none⟩ = some (.int .i64 id) := by rw [Lib.cell_of_heap X1.out]; rfl
  have x1 : w1.cell? ⟨C, 1, none⟩ = some (.int .i64 ep) := by rw [Lib.cell_of_heap X1.out]; rfl
  have x2 : w1.cell? ⟨C, 2, none⟩ = some (.int .i64 kd) := by rw [Lib.cell_of_heap X1.out]; rfl
  by_cases h1 : 0 ≤ id
  · have d1 : decide (0 ≤ id) = true := by simp [h1]
    by_cases h2 : 0 ≤ ep
    · have d2 : decide (0 ≤ ep) = true := by simp [h2]
      by_cases h3 : ep ≤ 1099511627776
      · have d3 : decide (ep ≤ 1099511627776) = true := by simp [h3]
        by_cases h4 : 0 ≤ kd
        · have d4 : decide (0 ≤ kd) = true := by simp [h4]
          by_cases h5 : kd ≤ 2147483647
          · have d5 : decide (kd ≤ 2147483647) = true := by simp [h5]
            have E := Lib.hid (rightB_yes (p := ⟨id, ep, kd, pay⟩) ⟨h1, h2, h3, h4, h5⟩)
            clear h1 h2 h3 h4 h5
            go_wp2_with fail
            go_ret
            exact ⟨by rw [E.out]; rfl, B1.out⟩
          · have d5 : decide (kd ≤ 2147483647) = false := by simp; omega
            have E := Lib.hid (rightB_no (p := ⟨id, ep, kd, pay⟩) fun h => h5 h.2.2.2.2)
            clear h1 h2 h3 h4 h5
            go_wp2_with fail
            go_ret
            exact ⟨by rw [E.out]; rfl, B1.out⟩
        · have d4 : decide (0 ≤ kd) = false := by simp; omega
          have E := Lib.hid (rightB_no (p := ⟨id, ep, kd, pay⟩) fun h => h4 h.2.2.2.1)
          clear h1 h2 h3 h4
          go_wp2_with fail
          go_ret
          exact ⟨by rw [E.out]; rfl, B1.out⟩
      · have d3 : decide (ep ≤ 1099511627776) = false := by simp; omega
        have E := Lib.hid (rightB_no (p := ⟨id, ep, kd, pay⟩) fun h => h3 h.2.2.1)
        clear h1 h2 h3
        go_wp2_with fail
        go_ret
        exact ⟨by rw [E.out]; rfl, B1.out⟩
    · have d2 : decide (0 ≤ ep) = false := by simp; omega
      have E := Lib.hid (rightB_no (p := ⟨id, ep, kd, pay⟩) fun h => h2 h.2.1)
      clear h1 h2
      go_wp2_with fail
      go_ret
      exact ⟨by rw [E.out]; rfl, B1.out⟩
  · have d1 : decide (0 ≤ id) = false := by simp; omega
    have E := Lib.hid (rightB_no (p := ⟨id, ep, kd, pay⟩) fun h => h1 h.1)
    clear h1
    go_wp2_with fail
    go_ret
    exact ⟨by rw [E.out]; rfl, B1.out⟩

theorem player_any (B : Nat) (u : World) : Calls Tryz.prog 186 #[.pointer (some ⟨B, 0, none⟩)] u fun e w' => e = .returned (.func (.func 192) #[] #[.pointer (some ⟨u.heap.size + 1, 0, none⟩), .pointer (some ⟨u.heap.size, 0, none⟩)]) ∧
    w' = (u.alloc (.cells #[.pointer (some ⟨B, 0, none⟩)] 216)).alloc (.cells #[.int .i64 0] 3) := by
  go_enter Tryz.func186, Tryz.ntmps186
  go_wp2_with fail
  go_ret
  exact ⟨rfl, rfl⟩

/-- 252 bytes: a text's, zeros behind it -/
def row252 (t : ByteArray) : List Value := (List.range 252).map fun j => .int .u8 (byD t j)
theorem row252_len (t : ByteArray) : (row252 t).length = 252 := by simp [row252]
theorem row252_at (t : ByteArray) {j : Nat} (h : j < 252) : (row252 t)[j]? = some (.int .u8 (byD t j)) := by
  unfold row252
  rw [List.getElem?_map, List.getElem?_range h]
  rfl
theorem row252_put (t s : ByteArray) (h : t.size + s.size ≤ 252) : (row252 t).take t.size ++ Lib.byteCells s.data.toList ++ (row252 t).drop (t.size + s.size) = row252 (t ++ s) := by
  have hb : (Lib.byteCells s.data.toList).length = s.size := by rw [Lib.byteCells_length]; simp
  have ht : ((row252 t).take t.size).length = t.size := by rw [List.length_take, row252_len]; omega
  apply List.ext_getElem?
  intro j
  rcases Nat.lt_or_ge j 252 with h2 | h2
  · rw [row252_at _ h2, byD_app]
    rcases Nat.lt_or_ge j t.size with h3 | h3
    · rw [if_pos h3, List.append_assoc, List.getElem?_append_left (by rw [ht]; exact h3), List.getElem?_take, if_pos h3, row252_at _ h2]
    · rw [if_neg (by omega)]
      rcases Nat.lt_or_ge j (t.size + s.size) with h4 | h4
      · rw [List.getElem?_append_left (by rw [List.length_append, ht, hb]; exact h4), List.getElem?_append_right (by rw [ht]; exact h3), ht]
        exact byD_cell s (by omega)
      · rw [List.getElem?_append_right (by rw [List.length_append, ht, hb]; exact h4), List.length_append, ht, hb, List.getElem?_drop, show t.size + s.size + (j - (t.size + s.size)) = j by omega, row252_at _ h2, byD_out (by omega), byD_out (by omega)]
  · rw [List.getElem?_eq_none (by rw [List.length_append, List.length_append, ht, hb, List.length_drop, row252_len]; omega), List.getElem?_eq_none (by rw [row252_len]; exact h2)]
/-- what a page's function has laid -/
structure LayS (A X B : Nat) (t : ByteArray) (u : World) : Prop where
  at0 : u.heap[A]? = some (.cells #[.int .i64 (t.size : Int)] 3 (0, 0))
  bx : u.heap[X]? = some (.cells #[.pointer (some ⟨B, 0, none⟩)] 216 (0, 0))
  row : u.heap[B]? = some (.cells (row252 t).toArray 213 (0, 0))
theorem LayS.lt {A X B : Nat} {t : ByteArray} {u : World} (h : LayS A X B t u) : A < u.heap.size ∧ X < u.heap.size ∧ B < u.heap.size :=
  ⟨(Array.getElem?_eq_some_iff.1 h.at0).1, (Array.getElem?_eq_some_iff.1 h.bx).1, (Array.getElem?_eq_some_iff.1 h.row).1⟩
theorem LayS.below {A X B : Nat} {t : ByteArray} {u u2 : World} (h : LayS A X B t u) (k : Below u.heap.size u u2) : LayS A X B t u2 :=
  ⟨(k.block _ h.lt.1).trans h.at0, (k.block _ h.lt.2.1).trans h.bx, (k.block _ h.lt.2.2).trans h.row⟩
theorem set_elseP {u : World} {A q : Nat} (v : Value) (h : q ≠ A) : (u.setCell ⟨A, 0, none⟩ v).heap[q]? = u.heap[q]? := set_else v h

set_option maxHeartbeats 1600000 in
theorem player1_any {base A X B : Nat} {t : ByteArray} {u : World} (h : LayS A X B t u) (s : ByteArray) (ht : t.size < 252) (hs : t.size + s.size ≤ 252) (hA : base ≤ A) (hB : base ≤ B) :
    Calls Tryz.prog 192 #[.string s, .pointer (some ⟨A, 0, none⟩), .pointer (some ⟨X, 0, none⟩)] u fun e u' => e = .returned (.tuple #[]) ∧ LayS A X B (t ++ s) u' ∧ Below base u u' := by
  have nAB : A ≠ B := fun e => by have h1 := h.at0; rw [e, h.row] at h1; simp at h1
  have nXB : X ≠ B := fun e => by have h1 := h.bx; rw [e, h.row] at h1; simp at h1
  have nAX : A ≠ X := fun e => by have h1 := h.at0; rw [e, h.bx] at h1; simp at h1
  have R : (row252 t).toArray.size = 252 := by rw [List.size_toArray, row252_len]
  have hcp := Lib.run_copy_row_string (P := Tryz.prog) u.drew 97 9 3 5 B t.size (252 - t.size) (252 - t.size) s _ 213 Tryz.underlying97 size_byte h.row (by omega) (by rw [R]; exact hs)
  obtain ⟨w2, hw2⟩ : ∃ w2, w2 = u.drew.setRow B ((row252 t).toArray.toList.take t.size ++ Lib.byteCells s.data.toList ++ (row252 t).toArray.toList.drop (t.size + s.size)).toArray := ⟨_, rfl⟩
  rw [← hw2] at hcp
  have hrow : w2.heap[B]? = some (.cells (row252 (t ++ s)).toArray 213 (0, 0)) := by
    rw [hw2, setRow_heap u.drew B _ _ _ _ h.row, ← row252_put t s hs]
  have hA2 : w2.heap[A]? = some (.cells #[.int .i64 (t.size : Int)] 3 (0, 0)) := by rw [hw2, setRow_other _ _ _ _ nAB]; exact h.at0
  have hX2 : w2.heap[X]? = some (.cells #[.pointer (some ⟨B, 0, none⟩)] 216 (0, 0)) := by rw [hw2, setRow_other _ _ _ _ nXB]; exact h.bx
  have hb2 : Below base u w2 := by rw [hw2]; exact below_setRow ((Below.refl base u).drew) hB _
  clear hw2
  have c0 : u.cell? ⟨A, 0, none⟩ = some (.int .i64 (t.size : Int)) := by rw [Lib.cell_of_heap h.at0]; rfl
  have c1 : u.cell? ⟨X, 0, none⟩ = some (.pointer (some ⟨B, 0, none⟩)) := by rw [Lib.cell_of_heap h.bx]; rfl
  have c2 : w2.cell? ⟨A, 0, none⟩ = some (.int .i64 (t.size : Int)) := by rw [Lib.cell_of_heap hA2]; rfl
  have f2 : w2.frozen? ⟨A, 0, none⟩ = false := Lib.frozen_of_heap hA2 0
  have F : Hid (LayS A X B (t ++ s) (w2.setCell ⟨A, 0, none⟩ (.int .i64 ((t.size : Int) + (s.size : Int))))) := Lib.hid ⟨by
      rw [Joins.block_setCell (i := 0) hA2, ByteArray.size_append]
      rfl, by rw [set_elseP _ nAX.symm]; exact hX2, by rw [set_elseP _ nAB.symm]; exact hrow⟩
  have FB : Hid (Below base u (w2.setCell ⟨A, 0, none⟩ (.int .i64 ((t.size : Int) + (s.size : Int))))) := Lib.hid (hb2.setCell hA _)
  have b1 : (0 : Int) ≤ (t.size : Int) := by omega
  have b2 : (t.size : Int) ≤ 252 := by omega
  have b3 : (t.size : Int) < 252 := by omega
  have b4 : ((t.size : Int)).toNat = t.size := by omega
  have b5 : ¬ 252 = t.size := by omega
  clear hrow hA2 hX2 hb2 h R hA hB
  go_enter Tryz.func192, Tryz.ntmps192
  go_wp2_with fail
  go_region
  all_goals go_end0
  all_goals exact ⟨rfl, F.out, FB.out⟩

end Go.Proofs.YtdpmpmaepjgndaaGreat
