/- The contracts of pack.lay at uint64 and int, and of pack.isSigned. -/
import Derived.WalkKit
import Derived.WalkSpells
import Derived.WalkLawsBesides
import Derived.Laws.BytesArg
import Derived.Lib.Hide
import Derived.WalkSmall
import Derived.Test.YtaaagmcdbmppmaaYBase
import Derived.Test.YtaaagmcdbmppmaaRows
import Derived.Test.YtaaagmcdbmppmaaYZ0
namespace Go.Proofs.Ytaaagmcdbmppmaa
open Go.RowKit


theorem info_u8 : (Try.prog.info? 5).map (fun i => (i.zero, i.size, i.bytes)) = some (some (.int .u8 0), 1, 1) := by kernel_rfl

theorem isSigned_u64 (w : World) : Calls Try.prog 59 #[] w fun e w' => e = .returned (.bool false) ∧ w = w' := by
  go_enter Try.func59, Try.ntmps59
  go_wp2
  go_ret
  exact ⟨rfl, rfl⟩
theorem isSigned_int (w : World) : Calls Try.prog 46 #[] w fun e w' => e = .returned (.bool true) ∧ w = w' := by
  go_enter Try.func46, Try.ntmps46
  go_wp2
  go_ret
  exact ⟨rfl, rfl⟩
/-- the row after i rounds, in a world -/
def LayAt (w wr : World) (k i : Nat) (n : Int) : Prop :=
  wr.ownsRow w.heap.size 5 1 (.slice (some ⟨w.heap.size, 0, none⟩) k k) k ((layRow k i n).map (Value.int .u8)) ∧ Below w.heap.size w wr

theorem layAt_start {w wr : World} {k : Nat} (n : Int)
    (h : wr.ownsRow w.heap.size 5 1 (.slice (some ⟨w.heap.size, 0, none⟩) k k) k (madeCells #[Value.int .u8 0] k).toList) (hg : w.grownBy wr none) : LayAt w wr k 0 n := by
  refine ⟨?_, (Below.refl _ _).grown hg (Nat.le_refl _) (by simp)⟩
  rw [toList_madeCells_one] at h
  rw [layRow_zero, List.map_replicate]; exact h

theorem layAt_step {w wr : World} {k i : Nat} {n : Int} (hik : i < k) (h : LayAt w wr k i n) :
    LayAt w (wr.setCell ⟨w.heap.size, k - 1 - i, none⟩ (.int .u8 (n / 256 ^ i % 256))) k (i + 1) n := by
  obtain ⟨h1, h2⟩ := h
  have hs := h1.stored (k - 1 - i) (.int .u8 (n / 256 ^ i % 256))
  refine ⟨?_, h2.setCell (Nat.le_refl _) _⟩
  have := hs.1
  rw [← List.map_set, layRow_step k i n hik] at this
  exact this

theorem layAt_end {w wr : World} {k : Nat} {n : Int} (h : LayAt w wr k k n) :
    ∀ i, i < k → wr.cell? ⟨w.heap.size, 0 + i, none⟩ = some (.int .u8 ((beI k n).getD i 0)) := by
  intro i hi
  have := h.1.cellAt i (by omega)
  rw [Nat.zero_add, this, layRow_full]
  have hl := beI_len k n
  simp [List.getElem?_eq_getElem (show i < (beI k n).length by omega)]

theorem layAt_some {w wr : World} {k i : Nat} {n : Int} (hik : i < k) (h : LayAt w wr k i n) : ∃ v, wr.cell? ⟨w.heap.size, k - 1 - i, none⟩ = some v := by
  have := h.1.cellAt (k - 1 - i) (by omega)
  rw [this]
  have hl := layRow_len k i n (by omega)
  exact ⟨_, List.getElem?_eq_getElem (by simp; omega)⟩

set_option maxHeartbeats 400000 in
theorem lay_u64 (n : Int) (k : Nat) (hk : k ≤ 8) (w : World) :
    Calls Try.prog 53 #[.int .u64 n, .int .i64 k] w fun e w' => e = .returned (.string (strOfNums (beI k n))) ∧ Below w.heap.size w w' := by
  obtain ⟨i0, hi, hz0, hz1, hz2⟩ := info_parts info_u8
  go_enter Try.func53, Try.ntmps53
  go_wp2_with (first
    | (go_at_call 59; refine (isSigned_u64 _).mono ?_; rintro e w' ⟨rfl, rfl⟩)
    | (at_make; refine wpList_make_full _ rfl _ _ _ rfl w.heap.size 5 i0 (.int .u8 0) 1 Try.underlying56 hi hz0 hz1 .i64 .i64 _ _ k rfl rfl rfl rfl (by rw [hz2]; omega) (by unfold maxLen; omega) (by omega) ?_))
  intro w1 hown hgr
  obtain ⟨m, hm⟩ : ∃ m, m = n := ⟨_, rfl⟩
  rw [← hm]
  have HM := Lib.hid hm.symm
  clear hm
  have H1 : Hid (LayAt w w1 k 0 m) := layAt_start m hown hgr
  clear hown hgr hi hz0 hz1 hz2
  go_wp2_with fail
  go_loopw [5, 15] (fun b i wr => ∃ j : Nat, j ≤ k ∧ i = .int .i64 j ∧ b = .int .u64 (m / 256 ^ j) ∧ LayAt w wr k j m) (fun _ i _ => k - (intOf i).toNat)
  case atStart => exact ⟨0, Nat.zero_le _, rfl, by simp, H1.out⟩
  case round =>
    obtain ⟨j, hj, rfl, rfl, hl⟩ := hrel
    by_cases hlt : j < k
    · have hst := layAt_step hlt hl
      have hfz : wr.frozen? ⟨w.heap.size, k - 1 - j, none⟩ = false := hl.1.frozenAt _
      obtain ⟨v, hc⟩ := layAt_some hlt hl
      have HS := Lib.hid hst
      clear hst hl
      go_wp2
      go_roundw
      case rel => exact ⟨j + 1, by omega, by go_num, by rw [div_next], HS.out⟩
      case measure => simp [intOf]; omega
    · obtain rfl : j = k := by omega
      have hcv := run_convert_bytes_arg (P := Try.prog) wr 56 5 Try.underlying56 Try.underlying5 w.heap.size 0 j j (beI j m) (beI_len j m) (layAt_end hl) 9 Try.underlying9
      have HB := Lib.hid hl.2
      clear hl
      go_wp2
      go_ret
      exact ⟨by rw [HM.out]; rfl, HB.out⟩

set_option maxHeartbeats 400000 in
theorem lay_int (n : Int) (k : Nat) (hk : k ≤ 8) (w : World) :
    Calls Try.prog 35 #[.int .i64 n, .int .i64 k] w fun e w' => e = .returned (.string (strOfNums (beI k (flip63 n)))) ∧ Below w.heap.size w w' := by
  obtain ⟨i0, hi, hz0, hz1, hz2⟩ := info_parts info_u8
  go_enter Try.func35, Try.ntmps35
  go_wp2_with (first
    | (go_at_call 46; refine (isSigned_int _).mono ?_; rintro e w' ⟨rfl, rfl⟩)
    | (at_make; refine wpList_make_full _ rfl _ _ _ rfl w.heap.size 5 i0 (.int .u8 0) 1 Try.underlying56 hi hz0 hz1 .i64 .i64 _ _ k rfl rfl rfl rfl (by rw [hz2]; omega) (by unfold maxLen; omega) (by omega) ?_))
  intro w1 hown hgr
  generalize hm : IntKind.u64.wrap (IntKind.u64.wrap n + 9223372036854775808) = m
  have HM : Hid (flip63 n = m) := hm
  clear hm
  have H1 : Hid (LayAt w w1 k 0 m) := layAt_start m hown hgr
  clear hown hgr hi hz0 hz1 hz2
  go_wp2_with fail
  go_loopw [5, 16] (fun b i wr => ∃ j : Nat, j ≤ k ∧ i = .int .i64 j ∧ b = .int .u64 (m / 256 ^ j) ∧ LayAt w wr k j m) (fun _ i _ => k - (intOf i).toNat)
  case atStart => exact ⟨0, Nat.zero_le _, rfl, by simp, H1.out⟩
  case round =>
    obtain ⟨j, hj, rfl, rfl, hl⟩ := hrel
    by_cases hlt : j < k
    · have hst := layAt_step hlt hl
      have hfz : wr.frozen? ⟨w.heap.size, k - 1 - j, none⟩ = false := hl.1.frozenAt _
      obtain ⟨v, hc⟩ := layAt_some hlt hl
      have HS := Lib.hid hst
      clear hst hl
      go_wp2
      go_roundw
      case rel => exact ⟨j + 1, by omega, by go_num, by rw [div_next], HS.out⟩
      case measure => simp [intOf]; omega
    · obtain rfl : j = k := by omega
      have hcv := run_convert_bytes_arg (P := Try.prog) wr 56 5 Try.underlying56 Try.underlying5 w.heap.size 0 j j (beI j m) (beI_len j m) (layAt_end hl) 9 Try.underlying9
      have HB := Lib.hid hl.2
      clear hl
      go_wp2
      go_ret
      exact ⟨by rw [HM.out]; rfl, HB.out⟩

end Go.Proofs.Ytaaagmcdbmppmaa
