/- The contract of crc.checkOf: the four bytes of the check, as an array. -/
import Derived.Lib.Builder
import Derived.Laws.Tables
import Derived.Test.YtaaagmcdbmppmaaYCrcTake
namespace Go.Proofs.Ytaaagmcdbmppmaa
open Go.RowKit

/-- byte i of a check -/
def chkI (n : Nat) (i : Nat) : Int := ((n / 256 ^ i % 256 : Nat) : Int)
/-- the check's bytes when j of them have been laid -/
def chkRow (n j : Nat) : Array Value := #[.int .u8 (if 0 < j then chkI n 0 else 0), .int .u8 (if 1 < j then chkI n 1 else 0), .int .u8 (if 2 < j then chkI n 2 else 0), .int .u8 (if 3 < j then chkI n 3 else 0)]
def chkAgg (n : Nat) : Value := .agg #[.int .u8 (chkI n 0), .int .u8 (chkI n 1), .int .u8 (chkI n 2), .int .u8 (chkI n 3)]

/-- the two blocks of checkOf when j bytes have been laid -/
def ChkAt (w wr : World) (n j : Nat) : Prop :=
  wr.heap[w.heap.size]? = some (.cells (chkRow 0 0) 68 (0, 0)) ∧ wr.heap[w.heap.size + 1]? = some (.cells (chkRow n j) 68 (0, 0)) ∧ Below w.heap.size w wr

theorem chk_start (w : World) (n : Nat) : ChkAt w ((w.alloc (.cells #[.int .u8 0, .int .u8 0, .int .u8 0, .int .u8 0] 68)).alloc (.cells #[.int .u8 0, .int .u8 0, .int .u8 0, .int .u8 0] 68)) n 0 := by
  refine ⟨?_, ?_, ((Below.refl _ _).alloc (Nat.le_refl _) _).alloc (by simp) _⟩
  · rw [heap_alloc_old _ _ (by simp), heap_alloc_new]; rfl
  · have := heap_alloc_new (w.alloc (.cells #[.int .u8 0, .int .u8 0, .int .u8 0, .int .u8 0] 68)) (.cells #[.int .u8 0, .int .u8 0, .int .u8 0, .int .u8 0] 68)
    rw [World.size_alloc] at this
    exact this

theorem chk_set (n j : Nat) (h : j < 4) : (chkRow n j).setIfInBounds j (.int .u8 (chkI n j)) = chkRow n (j + 1) := by
  rcases (by omega : j = 0 ∨ j = 1 ∨ j = 2 ∨ j = 3) with rfl | rfl | rfl | rfl <;> simp [chkRow]
theorem chk_step {w wr : World} {n j : Nat} (h : j < 4) (k : ChkAt w wr n j) : ChkAt w (wr.setCell ⟨w.heap.size + 1, j, none⟩ (.int .u8 (chkI n j))) n (j + 1) := by
  obtain ⟨h1, h2, h3⟩ := k
  refine ⟨?_, ?_, h3.setCell (p := ⟨w.heap.size + 1, j, none⟩) (by simp) _⟩
  · rw [setCell_eq_setRow wr _ j _ _ _ _ h2, setRow_other _ _ _ _ (by omega)]; exact h1
  · rw [setCell_eq_setRow wr _ j _ _ _ _ h2, ← chk_set n j h]; exact setRow_heap wr _ _ _ _ _ h2

theorem shr_byte (n j : Nat) : (n : Int) / 2 ^ (8 * j) % 256 = chkI n j := by
  unfold chkI
  have e : (2 : Nat) ^ (8 * j) = 256 ^ j := by rw [Nat.pow_mul]
  have e1 : ((n : Int) / 2 ^ (8 * j)) = ((n / 2 ^ (8 * j) : Nat) : Int) := by simp
  rw [e1, e]
  omega

set_option maxHeartbeats 400000 in
theorem checkOf_any (s : ByteArray) (hs : s.size ≤ maxLen) (w : World) :
    Calls Try.prog 36 #[.string s] w fun e w' => e = .returned (chkAgg (crcN s.data.toList)) ∧ Below w.heap.size w w' := by
  have H := Lib.hid (sum_any s hs)
  have hn := crcN_lt s.data.toList
  generalize crcN s.data.toList = n at H hn ⊢
  clear hs
  go_enter Try.func36, Try.ntmps36
  go_wp2_with (go_at_call 47; refine (H.out _).mono ?_; rintro e w' ⟨rfl, rfl⟩)
  have H1 := Lib.hid (chk_start w n)
  go_loopw [8] (fun i wr => ∃ j : Nat, j ≤ 4 ∧ i = .int .i64 j ∧ ChkAt w wr n j) (fun i _ => 4 - (intOf i).toNat)
  case atStart => exact ⟨0, Nat.zero_le _, rfl, H1.out⟩
  case round =>
    obtain ⟨j, hj, rfl, hl⟩ := hrel
    by_cases hlt : j < 4
    · have HS := Lib.hid (chk_step hlt hl)
      have hfz : wr.frozen? ⟨w.heap.size + 1, j, none⟩ = false := Lib.frozen_of_heap hl.2.1 j
      obtain ⟨v, hc⟩ : ∃ v, wr.cell? ⟨w.heap.size + 1, j, none⟩ = some v := by
        rw [Lib.cell_of_heap hl.2.1]
        exact ⟨_, Array.getElem?_eq_getElem (by simp [chkRow]; omega)⟩
      have HE := Lib.hid (shr_byte n j)
      clear hl
      go_wp2_with fail
      go_roundw
      case rel => exact ⟨j + 1, by omega, by go_num, by rw [HE.out]; exact HS.out⟩
      case measure => simp [intOf]; omega
    · obtain rfl : j = 4 := by omega
      obtain ⟨h1, h2, h3⟩ := hl
      have c0 : wr.cell? ⟨w.heap.size + 1, 0, none⟩ = some (.int .u8 (chkI n 0)) := by rw [Lib.cell_of_heap h2]; rfl
      have c1 : wr.cell? ⟨w.heap.size + 1, 1, none⟩ = some (.int .u8 (chkI n 1)) := by rw [Lib.cell_of_heap h2]; rfl
      have c2 : wr.cell? ⟨w.heap.size + 1, 2, none⟩ = some (.int .u8 (chkI n 2)) := by rw [Lib.cell_of_heap h2]; rfl
      have c3 : wr.cell? ⟨w.heap.size + 1, 3, none⟩ = some (.int .u8 (chkI n 3)) := by rw [Lib.cell_of_heap h2]; rfl
      have d0 : wr.cell? ⟨w.heap.size, 0, none⟩ = some (.int .u8 0) := by rw [Lib.cell_of_heap h1]; rfl
      have d1 : wr.cell? ⟨w.heap.size, 1, none⟩ = some (.int .u8 0) := by rw [Lib.cell_of_heap h1]; rfl
      have d2 : wr.cell? ⟨w.heap.size, 2, none⟩ = some (.int .u8 0) := by rw [Lib.cell_of_heap h1]; rfl
      have d3 : wr.cell? ⟨w.heap.size, 3, none⟩ = some (.int .u8 0) := by rw [Lib.cell_of_heap h1]; rfl
      have f0 : wr.frozen? ⟨w.heap.size, 0, none⟩ = false := Lib.frozen_of_heap h1 0
      have f1 : wr.frozen? ⟨w.heap.size, 1, none⟩ = false := Lib.frozen_of_heap h1 1
      have f2 : wr.frozen? ⟨w.heap.size, 2, none⟩ = false := Lib.frozen_of_heap h1 2
      have f3 : wr.frozen? ⟨w.heap.size, 3, none⟩ = false := Lib.frozen_of_heap h1 3
      have HB := Lib.hid h3
      clear h1 h2 h3
      go_wp2_with fail
      exact bodyPost_ret (v := chkAgg n) (by simp [results, Try.results36, go_sem, d0, d1, d2, d3, chkAgg]) rfl ⟨rfl, (((HB.out.setCell (p := ⟨w.heap.size, 0, none⟩) (Nat.le_refl _) _).setCell (p := ⟨w.heap.size, 1, none⟩) (Nat.le_refl _) _).setCell (p := ⟨w.heap.size, 2, none⟩) (Nat.le_refl _) _).setCell (p := ⟨w.heap.size, 3, none⟩) (Nat.le_refl _) _⟩

end Go.Proofs.Ytaaagmcdbmppmaa
