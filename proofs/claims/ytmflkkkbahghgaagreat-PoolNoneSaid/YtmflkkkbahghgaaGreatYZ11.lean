/- The contracts of crc.Lay and of the document's own Lay. The contracts of pack.lay at uint64 and int, and of pack.isSigned. The contracts of horologeref01.U, I and Two, and of pack.U and pack.I: the very bytes. The contracts of the program's may and of the document's Right, of layer, and of the function that layer makes. A page in a block of its own. The contract of strings.Clone at this program. -/
import Derived.Laws.CopyOwn
import Derived.Lib.BufferWrite
import Derived.Laws.IdiomStrings
import Derived.Laws.BytesArg
import Derived.WalkKit
import Derived.WalkSpells
import Derived.WalkLawsBesides
import Derived.Lib.Hide
import Derived.WalkSmall
import Derived.Laws.AppendOwnNone
import Derived.Deep.DeepCutAuto
import Derived.Shelf.LaysM
import Derived.Shelf.Strconv.Clone
import Derived.Test.YtmflkkkbahghgaaGreatYZ10
import Derived.Test.YtmflkkkbahghgaaGreatYZ0
import Derived.Test.YtmflkkkbahghgaaGreatRows
import Derived.Test.YtmflkkkbahghgaaGreatYZ1
import Derived.Test.YtmflkkkbahghgaaGreatYZ9
namespace Go.Proofs.YtmflkkkbahghgaaGreat
open Go.RowKit

theorem info_byte : (Tryz.prog.info? 5).map (fun i => (i.zero, i.size, i.bytes)) = some (some (.int .u8 0), 1, 1) := by kernel_rfl
theorem size_byte : (Tryz.prog.info? 5).map (·.size) = some 1 := by kernel_rfl

theorem add_at (b o i : Nat) : (⟨b, o, none⟩ : Addr).add i = ⟨b, o + i, none⟩ := by unfold Addr.add; split <;> simp_all

/-- the four cells of a check -/
def chkCells (n : Nat) : List Value := [.int .u8 (chkI n 0), .int .u8 (chkI n 1), .int .u8 (chkI n 2), .int .u8 (chkI n 3)]
theorem chkCells_eq (n : Nat) : chkCells n = Lib.byteCells (le4 n) := by
  unfold chkCells Lib.byteCells le4 chkI
  simp
theorem chkCells_len (n : Nat) : (chkCells n).length = 4 := rfl

/-- the row that make gives, known whole -/
theorem made_row {w : World} {base g n : Nat} {e : TypeId} (h : w.ownsRow base e 1 (.slice (some ⟨g, 0, none⟩) n n) n (madeCells #[Value.int .u8 0] n).toList) :
    w.heap[g]? = some (.cells (List.replicate n (Value.int .u8 0)).toArray e (0, 0)) := by
  rcases h.2 with ⟨h1, _⟩ | ⟨g', cap, cur, h1, _, h2, h3, _, h4, h5⟩
  · simp at h1
  · simp only [Value.slice.injEq, Option.some.injEq, Addr.mk.injEq, and_true, true_and] at h1
    obtain ⟨rfl, rfl⟩ := h1
    rw [h2]
    rw [toList_madeCells_one, Nat.mul_one] at h5
    have e : cur.toList = List.replicate n (Value.int .u8 0) := by
      rw [← h5]
      exact (List.take_of_length_le (by simp; omega)).symm
    rw [← e]

theorem lay_row1 (n k : Nat) : splice (List.replicate (4 + k) (Value.int .u8 0)) 0 (chkCells n) = chkCells n ++ List.replicate k (Value.int .u8 0) := by
  unfold splice
  rw [chkCells_len]
  simp
theorem lay_row2 (n : Nat) (l : List UInt8) (z : Value) :
    ((chkCells n ++ List.replicate l.length z).toArray.toList.take 4 ++ Lib.byteCells l ++ (chkCells n ++ List.replicate l.length z).toArray.toList.drop (4 + l.length)) = Lib.byteCells (le4 n ++ l) := by
  have h4 := chkCells_len n
  have e1 : (chkCells n ++ List.replicate l.length z).take 4 = chkCells n := by rw [← h4]; exact List.take_left
  have e2 : (chkCells n ++ List.replicate l.length z).drop (4 + l.length) = [] := List.drop_of_length_le (by simp [h4])
  simp only [e1, e2, List.append_nil]
  rw [chkCells_eq]
  simp [Lib.byteCells]

/-- the cells of a row of bytes -/
theorem bytes_cells {w : World} {g : Nat} {e : TypeId} {fz : Nat × Nat} {l : List UInt8} (h : w.heap[g]? = some (.cells (Lib.byteCells l).toArray e fz)) :
    ∀ j (hj : j < l.length), w.cell? ((⟨g, 0, none⟩ : Addr).add j) = some (.int .u8 (l[j].toNat : Int)) := by
  intro j hj
  rw [add_at, Nat.zero_add, Lib.cell_of_heap h]
  simp [Lib.byteCells, List.getElem?_eq_getElem hj]

theorem chk_cells {w : World} {g n : Nat} {e : TypeId} {fz : Nat × Nat} {r : List Value} (h : w.heap[g]? = some (.cells (chkCells n ++ r).toArray e fz)) :
    ∀ j (hj : j < (le4 n).length), w.cell? ((⟨g, 0, none⟩ : Addr).add j) = some (.int .u8 ((le4 n)[j].toNat : Int)) := by
  intro j hj
  rw [add_at, Nat.zero_add, Lib.cell_of_heap h, chkCells_eq]
  rw [List.getElem?_toArray, List.getElem?_append_left (by simpa [Lib.byteCells] using hj)]
  simp [Lib.byteCells, List.getElem?_eq_getElem hj]

/-- 'copy(b, check[:])' -/
theorem copy_chk {w2 : World} {g c n k base : Nat} (K : w2.heap[g]? = some (.cells (List.replicate (4 + k) (Value.int .u8 0)).toArray 5 (0, 0)))
    (C : w2.heap[c]? = some (.cells (chkCells n).toArray 156 (0, 0))) (hbg : base ≤ g) :
    ∃ w3, (Builtin.copy_ #[71, 71] 3 #[.slice (some ⟨g, 0, none⟩) (4 + k) (4 + k), .slice (some ⟨c, 0, none⟩) 4 4]).run Tryz.prog w2 = .ok (.int .i64 4) w3 ∧
      w3.heap[g]? = some (.cells (chkCells n ++ List.replicate k (Value.int .u8 0)).toArray 5 (0, 0)) ∧ Below base w2 w3 := by
  have h := run_copy_row (P := Tryz.prog) w2 71 71 3 5 g 0 (4 + k) (4 + k) ⟨c, 0, none⟩ 4 4 _ 5 (chkCells n) Tryz.underlying71 size_byte K
    (by rw [chkCells_len]; exact (Nat.min_eq_left (by omega)).symm)
    (fun j v hj => by rw [add_at, Nat.zero_add, Lib.cell_of_heap C]; simpa using hj)
    (by rw [chkCells_len]; simp)
    (by intro v hv; simp only [chkCells, List.mem_cons, List.not_mem_nil, or_false] at hv; rcases hv with rfl | rfl | rfl | rfl <;> rfl)
  refine ⟨_, h, ?_, below_setRow (Below.refl _ _) hbg _⟩
  rw [setRow_heap w2 g _ _ _ _ K, ← lay_row1 n k]
  rfl

/-- 'copy(b[4:], s)' -/
theorem copy_str {w3 : World} {g n base : Nat} (s : ByteArray) (K : w3.heap[g]? = some (.cells (chkCells n ++ List.replicate s.size (Value.int .u8 0)).toArray 5 (0, 0))) (hbg : base ≤ g) :
    ∃ w4, (Builtin.copy_ #[71, 9] 3 #[.slice (some ⟨g, 4, none⟩) s.size s.size, .string s]).run Tryz.prog w3 = .ok (.int .i64 s.size) w4 ∧
      w4.heap[g]? = some (.cells (Lib.byteCells (le4 n ++ s.data.toList)).toArray 5 (0, 0)) ∧ Below base w3 w4 := by
  have hl : s.data.toList.length = s.size := by simp
  have h := Lib.run_copy_row_string (P := Tryz.prog) w3 71 9 3 5 g 4 s.size s.size s _ 5 Tryz.underlying71 size_byte K (Nat.le_refl _) (by simp [chkCells_len])
  refine ⟨_, h, ?_, below_setRow (Below.refl _ _) hbg _⟩
  rw [setRow_heap w3 g _ _ _ _ K]
  have e := lay_row2 n s.data.toList (Value.int .u8 0)
  rw [hl] at e
  rw [e]

set_option maxRecDepth 100000 in
set_option maxHeartbeats 400000 in
theorem lay_any (s : ByteArray) (hs : s.size ≤ 140737488355328) (w : World) :
    Calls Tryz.prog 109 #[.string s] w fun e w' => e = .returned (.string ⟨(laidL s.data.toList).toArray⟩) ∧ Below w.heap.size w w' := by
  obtain ⟨i0, hi, hz0, hz1, hz2⟩ := info_parts info_byte
  have H := Lib.hid (checkOf_any s (by unfold maxLen; omega))
  obtain ⟨n, hn⟩ : ∃ n, n = crcN s.data.toList := ⟨_, rfl⟩
  rw [← hn] at H
  have HN := Lib.hid hn
  clear hn
  unfold chkAgg at H
  go_enter Tryz.func109, Tryz.ntmps109
  go_wp2_with fail
  refine (H.out _).mono ?_
  rintro e w1 ⟨rfl, hb1⟩
  go_wp2_with (at_make; refine wpList_make_full _ rfl _ _ _ rfl w.heap.size 5 i0 (.int .u8 0) 1 Tryz.underlying71 hi hz0 hz1 .i64 .i64 _ _ (4 + s.size) rfl rfl (by omega) (by omega) (by rw [hz2]; omega) (by unfold maxLen; omega) (by have := hb1.size; simp; omega) ?_)
  intro w2 hown hgr
  have K := made_row hown
  have C : w2.heap[w1.heap.size]? = some (.cells (chkCells n).toArray 156 (0, 0)) := by
    rw [hgr.block w1.heap.size (by simp) (by simp), heap_alloc_new]
    rfl
  have hB2 : Below w.heap.size w w2 := (hb1.alloc hb1.size _).grown hgr (by have := hb1.size; simp; omega) (by simp)
  have HZ : w.heap.size ≤ w1.heap.size + 1 := by have := hb1.size; omega
  obtain ⟨w3, hr3, K3, hB3⟩ := copy_chk K C HZ
  obtain ⟨w4, hr4, K4, hB4⟩ := copy_str s K3 HZ
  have hcv := run_convert_bytes_back (P := Tryz.prog) w4 71 9 5 ⟨w1.heap.size + 1, 0, none⟩ (4 + s.size) (le4 n ++ s.data.toList) Tryz.underlying71 Tryz.underlying5 Tryz.underlying9 (bytes_cells K4)
  have HB := Lib.hid ((hB2.trans hB3).trans hB4)
  have HB3 := Lib.hid (hB2.trans hB3)
  have hr5 := Lib.run_copy_empty_string (P := Tryz.prog) w3 71 9 3 5 (some ⟨w1.heap.size + 1, 0, none⟩) 0 0 ByteArray.empty Tryz.underlying71 (by rw [size_byte]; rfl) rfl
  have hcv3 := run_convert_bytes_back (P := Tryz.prog) w3 71 9 5 ⟨w1.heap.size + 1, 0, none⟩ 4 (le4 n) Tryz.underlying71 Tryz.underlying5 Tryz.underlying9 (chk_cells K3)
  rw [le4_len] at hcv3
  rw [show (le4 n ++ s.data.toList).length = 4 + s.size from by simp [le4_len]] at hcv
  clear hown hgr hi hz0 hz1 hz2 hb1 K C hB2 K3 hB3 K4 hB4
  go_wp2_with fail
  · go_ret
    exact ⟨by unfold laidL; rw [← HN.out, h, show ByteArray.empty.data.toList = [] from rfl, List.append_nil]; rfl, HB3.out⟩
  · go_ret
    exact ⟨by unfold laidL; rw [← HN.out]; rfl, HB.out⟩

end Go.Proofs.YtmflkkkbahghgaaGreat
namespace Go.Proofs.YtmflkkkbahghgaaGreat
open Go.RowKit


theorem info_u8 : (Tryz.prog.info? 5).map (fun i => (i.zero, i.size, i.bytes)) = some (some (.int .u8 0), 1, 1) := by kernel_rfl

theorem isSigned_u64 (w : World) : Calls Tryz.prog 204 #[] w fun e w' => e = .returned (.bool false) ∧ w = w' := by
  go_enter Tryz.func204, Tryz.ntmps204
  go_wp2
  go_ret
  exact ⟨rfl, rfl⟩
theorem isSigned_int (w : World) : Calls Tryz.prog 173 #[] w fun e w' => e = .returned (.bool true) ∧ w = w' := by
  go_enter Tryz.func173, Tryz.ntmps173
  go_wp2
  go_ret
  exact ⟨rfl, rfl⟩
/-- the row after i rounds, in a world -/
def LayAt (w wr : World) (k i : Nat) (n : Int) : Prop :=
  wr.ownsRow w.heap.size 5 1 (.slice (some ⟨w.heap.size, 0, none⟩) k k) k ((layRow k i n).map (Value.int .u8)) ∧ Below w.heap.size w wr

theorem layAt_start {w wr : World} {k : Nat} (n : Int)
    (h : wr.ownsRow w.heap.size 5 1 (.slice (some ⟨w.heap.size, 0, none⟩) k k) k (madeCells #[Value.int .u8 0] k).toList) (hg : w.grownBy wr none) : LayAt w wr k 0 n := by
  refine ⟨?_, (Below.refl _ _).grown hg (Nat.le_refl _) (by simp)⟩
  rw [toList_madeCells_one] at h
  rw [layRow_zero, List.map_replicate]; exact h

theorem layAt_step {w wr : World} {k i : Nat} {n : Int} (hik : i < k) (h : LayAt w wr k i n) :
    LayAt w (wr.setCell ⟨w.heap.size, k - 1 - i, none⟩ (.int .u8 (n / 256 ^ i % 256))) k (i + 1) n := by
  obtain ⟨h1, h2⟩ := h
  have hs := h1.stored (k - 1 - i) (.int .u8 (n / 256 ^ i % 256))
  refine ⟨?_, h2.setCell (Nat.le_refl _) _⟩
  have := hs.1
  rw [← List.map_set, layRow_step k i n hik] at this
  exact this

theorem layAt_end {w wr : World} {k : Nat} {n : Int} (h : LayAt w wr k k n) :
    ∀ i, i < k → wr.cell? ⟨w.heap.size, 0 + i, none⟩ = some (.int .u8 ((beI k n).getD i 0)) := by
  intro i hi
  have := h.1.cellAt i (by omega)
  rw [Nat.zero_add, this, layRow_full]
  have hl := beI_len k n
  simp [List.getElem?_eq_getElem (show i < (beI k n).length by omega)]

theorem layAt_some {w wr : World} {k i : Nat} {n : Int} (hik : i < k) (h : LayAt w wr k i n) : ∃ v, wr.cell? ⟨w.heap.size, k - 1 - i, none⟩ = some v := by
  have := h.1.cellAt (k - 1 - i) (by omega)
  rw [this]
  have hl := layRow_len k i n (by omega)
  exact ⟨_, List.getElem?_eq_getElem (by simp; omega)⟩

set_option maxHeartbeats 400000 in
theorem lay_u64 (n : Int) (k : Nat) (hk : k ≤ 8) (w : World) :
    Calls Tryz.prog 192 #[.int .u64 n, .int .i64 k] w fun e w' => e = .returned (.string (strOfNums (beI k n))) ∧ Below w.heap.size w w' := by
  obtain ⟨i0, hi, hz0, hz1, hz2⟩ := info_parts info_u8
  go_enter Tryz.func192, Tryz.ntmps192
  go_wp2_with (first
    | (go_at_call 204; refine (isSigned_u64 _).mono ?_; rintro e w' ⟨rfl, rfl⟩)
    | (at_make; refine wpList_make_full _ rfl _ _ _ rfl w.heap.size 5 i0 (.int .u8 0) 1 Tryz.underlying71 hi hz0 hz1 .i64 .i64 _ _ k rfl rfl rfl rfl (by rw [hz2]; omega) (by unfold maxLen; omega) (by omega) ?_))
  intro w1 hown hgr
  obtain ⟨m, hm⟩ : ∃ m, m = n := ⟨_, rfl⟩
  rw [← hm]
  have HM := Lib.hid hm.symm
  clear hm
  have H1 : Hid (LayAt w w1 k 0 m) := layAt_start m hown hgr
  clear hown hgr hi hz0 hz1 hz2
  go_wp2_with fail
  go_loopw [5, 15] (fun b i wr => ∃ j : Nat, j ≤ k ∧ i = .int .i64 j ∧ b = .int .u64 (m / 256 ^ j) ∧ LayAt w wr k j m) (fun _ i _ => k - (intOf i).toNat)
  case atStart => exact ⟨0, Nat.zero_le _, rfl, by simp, H1.out⟩
  case round =>
    obtain ⟨j, hj, rfl, rfl, hl⟩ := hrel
    by_cases hlt : j < k
    · have hst := layAt_step hlt hl
      have hfz : wr.frozen? ⟨w.heap.size, k - 1 - j, none⟩ = false := hl.1.frozenAt _
      obtain ⟨v, hc⟩ := layAt_some hlt hl
      have HS := Lib.hid hst
      clear hst hl
      go_wp2
      go_roundw
      case rel => exact ⟨j + 1, by omega, by go_num, by rw [div_next], HS.out⟩
      case measure => simp [intOf]; omega
    · obtain rfl : j = k := by omega
      have hcv := run_convert_bytes_arg (P := Tryz.prog) wr 71 5 Tryz.underlying71 Tryz.underlying5 w.heap.size 0 j j (beI j m) (beI_len j m) (layAt_end hl) 9 Tryz.underlying9
      have HB := Lib.hid hl.2
      clear hl
      go_wp2
      go_ret
      exact ⟨by rw [HM.out]; rfl, HB.out⟩

set_option maxHeartbeats 400000 in
theorem lay_int (n : Int) (k : Nat) (hk : k ≤ 8) (w : World) :
    Calls Tryz.prog 147 #[.int .i64 n, .int .i64 k] w fun e w' => e = .returned (.string (strOfNums (beI k (flip63 n)))) ∧ Below w.heap.size w w' := by
  obtain ⟨i0, hi, hz0, hz1, hz2⟩ := info_parts info_u8
  go_enter Tryz.func147, Tryz.ntmps147
  go_wp2_with (first
    | (go_at_call 173; refine (isSigned_int _).mono ?_; rintro e w' ⟨rfl, rfl⟩)
    | (at_make; refine wpList_make_full _ rfl _ _ _ rfl w.heap.size 5 i0 (.int .u8 0) 1 Tryz.underlying71 hi hz0 hz1 .i64 .i64 _ _ k rfl rfl rfl rfl (by rw [hz2]; omega) (by unfold maxLen; omega) (by omega) ?_))
  intro w1 hown hgr
  generalize hm : IntKind.u64.wrap (IntKind.u64.wrap n + 9223372036854775808) = m
  have HM : Hid (flip63 n = m) := hm
  clear hm
  have H1 : Hid (LayAt w w1 k 0 m) := layAt_start m hown hgr
  clear hown hgr hi hz0 hz1 hz2
  go_wp2_with fail
  go_loopw [5, 16] (fun b i wr => ∃ j : Nat, j ≤ k ∧ i = .int .i64 j ∧ b = .int .u64 (m / 256 ^ j) ∧ LayAt w wr k j m) (fun _ i _ => k - (intOf i).toNat)
  case atStart => exact ⟨0, Nat.zero_le _, rfl, by simp, H1.out⟩
  case round =>
    obtain ⟨j, hj, rfl, rfl, hl⟩ := hrel
    by_cases hlt : j < k
    · have hst := layAt_step hlt hl
      have hfz : wr.frozen? ⟨w.heap.size, k - 1 - j, none⟩ = false := hl.1.frozenAt _
      obtain ⟨v, hc⟩ := layAt_some hlt hl
      have HS := Lib.hid hst
      clear hst hl
      go_wp2
      go_roundw
      case rel => exact ⟨j + 1, by omega, by go_num, by rw [div_next], HS.out⟩
      case measure => simp [intOf]; omega
    · obtain rfl : j = k := by omega
      have hcv := run_convert_bytes_arg (P := Tryz.prog) wr 71 5 Tryz.underlying71 Tryz.underlying5 w.heap.size 0 j j (beI j m) (beI_len j m) (layAt_end hl) 9 Tryz.underlying9
      have HB := Lib.hid hl.2
      clear hl
      go_wp2
      go_ret
      exact ⟨by rw [HM.out]; rfl, HB.out⟩

end Go.Proofs.YtmflkkkbahghgaaGreat
namespace Go.Proofs.YtmflkkkbahghgaaGreat
open Go.RowKit
set_option maxRecDepth 100000

theorem lay_u64_8 (n : Int) (w : World) :
    Calls Tryz.prog 192 #[.int .u64 n, .int .i64 8] w fun e w' => e = .returned (.string (strOfNums (beI 8 n))) ∧ Below w.heap.size w w' := lay_u64 n 8 (by omega) w
theorem lay_int_8 (n : Int) (w : World) :
    Calls Tryz.prog 147 #[.int .i64 n, .int .i64 8] w fun e w' => e = .returned (.string (strOfNums (beI 8 (flip63 n)))) ∧ Below w.heap.size w w' := lay_int n 8 (by omega) w

theorem packU (n : Int) (w : World) :
    Calls Tryz.prog 176 #[.int .u64 n] w fun e w' => e = .returned (.string (strOfNums (beI 8 n))) ∧ Below w.heap.size w w' := by
  go_enter Tryz.func176, Tryz.ntmps176
  go_wp2_with (go_at_call 192; refine (lay_u64_8 _ _).mono ?_; rintro e w' ⟨rfl, hb⟩)
  go_ret
  exact ⟨rfl, hb⟩
theorem packI (n : Int) (w : World) :
    Calls Tryz.prog 108 #[.int .i64 n] w fun e w' => e = .returned (.string (strOfNums (beI 8 (flip63 n)))) ∧ Below w.heap.size w w' := by
  go_enter Tryz.func108, Tryz.ntmps108
  go_wp2_with (go_at_call 147; refine (lay_int_8 _ _).mono ?_; rintro e w' ⟨rfl, hb⟩)
  go_ret
  exact ⟨rfl, hb⟩

end Go.Proofs.YtmflkkkbahghgaaGreat
namespace Go.Proofs.YtmflkkkbahghgaaGreat
open Go.RowKit Go.Deep
set_option linter.unusedVariables false
set_option linter.unusedSimpArgs false
set_option maxRecDepth 100000

def pgV (p : Pg) : List Value := [.int .i64 p.id, .int .i64 p.ep, .int .i64 p.kd, .string p.pay]
def rightB (p : Pg) : Bool := decide (RightP p)
theorem rightB_true {p : Pg} (h : rightB p = true) : RightP p := of_decide_eq_true h
theorem rightB_false {p : Pg} (h : rightB p = false) : ¬ RightP p := of_decide_eq_false h
theorem rightB_yes {p : Pg} (h : RightP p) : rightB p = true := decide_eq_true h
theorem rightB_no {p : Pg} (h : ¬ RightP p) : rightB p = false := decide_eq_false h

set_option maxHeartbeats 1600000 in
theorem pmay_any (p : Pg) (u : World) : Calls Tryz.prog 201 #[.agg (pgV p).toArray] u fun e w' => e = .returned (.bool (rightB p)) ∧ Below u.heap.size u w' := by
  obtain ⟨id, ep, kd, pay⟩ := p
  change Calls _ _ #[.agg #[.int .i64 id, .int .i64 ep, .int .i64 kd, .string pay]] _ _
  have X1 := Lib.hid (heap_alloc_new u (.cells #[.int .i64 id, .int .i64 ep, .int .i64 kd, .string pay] 181))
  have B1 := Lib.hid (balloc u (.cells #[.int .i64 id, .int .i64 ep, .int .i64 kd, .string pay] 181))
  obtain ⟨C, hC⟩ : ∃ C, C = u.heap.size := ⟨_, rfl⟩
  rw [← hC] at X1
  go_enter Tryz.func201, Tryz.ntmps201
  go_upto_region 1 with fail
  rw [← hC]
  generalize u.alloc (.cells #[.int .i64 id, .int .i64 ep, .int .i64 kd, .string pay] 181) = w1 at *
  clear hC
  have x0 : w1.cell? ⟨C, 0, none⟩ = some (.int .i64 id) := by rw [Lib.cell_of_heap X1.out]; rfl
  have x1 : w1.cell? ⟨C, 1, none⟩ = some (.int .i64 ep) := by rw [Lib.cell_of_heap X1.out]; rfl
  have x2 : w1.cell? ⟨C, 2, none⟩ = some (.int .i64 kd) := by rw [Lib.cell_of_heap X1.out]; rfl
  by_cases h1 : 0 ≤ id
  · have d1 : decide (0 ≤ id) = true := by simp [h1]
    by_cases h2 : 0 ≤ ep
    · have d2 : decide (0 ≤ ep) = true := by simp [h2]
      by_cases h3 : ep ≤ 1099511627776
      · have d3 : decide (ep ≤ 1099511627776) = true := by simp [h3]
        by_cases h4 : 0 ≤ kd
        · have d4 : decide (0 ≤ kd) = true := by simp [h4]
          by_cases h5 : kd ≤ 2147483647
          · have d5 : decide (kd ≤ 2147483647) = true := by simp [h5]
            have E := Lib.hid (rightB_yes (p := ⟨id, ep, kd, pay⟩) ⟨h1, h2, h3, h4, h5⟩)
            clear h1 h2 h3 h4 h5
            go_wp2_with fail
            go_ret
            exact ⟨by rw [E.out]; rfl, B1.out⟩
          · have d5 : decide (kd ≤ 2147483647) = false := by simp; omega
            have E := Lib.hid (rightB_no (p := ⟨id, ep, kd, pay⟩) fun h => h5 h.2.2.2.2)
            clear h1 h2 h3 h4 h5
            go_wp2_with fail
            go_ret
            exact ⟨by rw [E.out]; rfl, B1.out⟩
        · have d4 : decide (0 ≤ kd) = false := by simp; omega
          have E := Lib.hid (rightB_no (p := ⟨id, ep, kd, pay⟩) fun h => h4 h.2.2.2.1)
          clear h1 h2 h3 h4
          go_wp2_with fail
          go_ret
          exact ⟨by rw [E.out]; rfl, B1.out⟩
      · have d3 : decide (ep ≤ 1099511627776) = false := by simp; omega
        have E := Lib.hid (rightB_no (p := ⟨id, ep, kd, pay⟩) fun h => h3 h.2.2.1)
        clear h1 h2 h3
        go_wp2_with fail
        go_ret
        exact ⟨by rw [E.out]; rfl, B1.out⟩
    · have d2 : decide (0 ≤ ep) = false := by simp; omega
      have E := Lib.hid (rightB_no (p := ⟨id, ep, kd, pay⟩) fun h => h2 h.2.1)
      clear h1 h2
      go_wp2_with fail
      go_ret
      exact ⟨by rw [E.out]; rfl, B1.out⟩
  · have d1 : decide (0 ≤ id) = false := by simp; omega
    have E := Lib.hid (rightB_no (p := ⟨id, ep, kd, pay⟩) fun h => h1 h.1)
    clear h1
    go_wp2_with fail
    go_ret
    exact ⟨by rw [E.out]; rfl, B1.out⟩


theorem player_any (B : Nat) (u : World) : Calls Tryz.prog 202 #[.pointer (some ⟨B, 0, none⟩)] u fun e w' => e = .returned (.func (.func 209) #[] #[.pointer (some ⟨u.heap.size + 1, 0, none⟩), .pointer (some ⟨u.heap.size, 0, none⟩)]) ∧
    w' = (u.alloc (.cells #[.pointer (some ⟨B, 0, none⟩)] 217)).alloc (.cells #[.int .i64 0] 3) := by
  go_enter Tryz.func202, Tryz.ntmps202
  go_wp2_with fail
  go_ret
  exact ⟨rfl, rfl⟩

/-- 252 bytes: a text's, zeros behind it -/
def row252 (t : ByteArray) : List Value := (List.range 252).map fun j => .int .u8 (byD t j)
theorem row252_len (t : ByteArray) : (row252 t).length = 252 := by simp [row252]
theorem row252_at (t : ByteArray) {j : Nat} (h : j < 252) : (row252 t)[j]? = some (.int .u8 (byD t j)) := by
  unfold row252
  rw [List.getElem?_map, List.getElem?_range h]
  rfl
theorem row252_put (t s : ByteArray) (h : t.size + s.size ≤ 252) : (row252 t).take t.size ++ Lib.byteCells s.data.toList ++ (row252 t).drop (t.size + s.size) = row252 (t ++ s) := by
  have hb : (Lib.byteCells s.data.toList).length = s.size := by rw [Lib.byteCells_length]; simp
  have ht : ((row252 t).take t.size).length = t.size := by rw [List.length_take, row252_len]; omega
  apply List.ext_getElem?
  intro j
  rcases Nat.lt_or_ge j 252 with h2 | h2
  · rw [row252_at _ h2, byD_app]
    rcases Nat.lt_or_ge j t.size with h3 | h3
    · rw [if_pos h3, List.append_assoc, List.getElem?_append_left (by rw [ht]; exact h3), List.getElem?_take, if_pos h3, row252_at _ h2]
    · rw [if_neg (by omega)]
      rcases Nat.lt_or_ge j (t.size + s.size) with h4 | h4
      · rw [List.getElem?_append_left (by rw [List.length_append, ht, hb]; exact h4), List.getElem?_append_right (by rw [ht]; exact h3), ht]
        exact byD_cell s (by omega)
      · rw [List.getElem?_append_right (by rw [List.length_append, ht, hb]; exact h4), List.length_append, ht, hb, List.getElem?_drop, show t.size + s.size + (j - (t.size + s.size)) = j by omega, row252_at _ h2, byD_out (by omega), byD_out (by omega)]
  · rw [List.getElem?_eq_none (by rw [List.length_append, List.length_append, ht, hb, List.length_drop, row252_len]; omega), List.getElem?_eq_none (by rw [row252_len]; exact h2)]
/-- what a page's function has laid -/
structure LayS (A X B : Nat) (t : ByteArray) (u : World) : Prop where
  at0 : u.heap[A]? = some (.cells #[.int .i64 (t.size : Int)] 3 (0, 0))
  bx : u.heap[X]? = some (.cells #[.pointer (some ⟨B, 0, none⟩)] 217 (0, 0))
  row : u.heap[B]? = some (.cells (row252 t).toArray 215 (0, 0))
theorem LayS.lt {A X B : Nat} {t : ByteArray} {u : World} (h : LayS A X B t u) : A < u.heap.size ∧ X < u.heap.size ∧ B < u.heap.size :=
  ⟨(Array.getElem?_eq_some_iff.1 h.at0).1, (Array.getElem?_eq_some_iff.1 h.bx).1, (Array.getElem?_eq_some_iff.1 h.row).1⟩
theorem LayS.below {A X B : Nat} {t : ByteArray} {u u2 : World} (h : LayS A X B t u) (k : Below u.heap.size u u2) : LayS A X B t u2 :=
  ⟨(k.block _ h.lt.1).trans h.at0, (k.block _ h.lt.2.1).trans h.bx, (k.block _ h.lt.2.2).trans h.row⟩
theorem set_elseP {u : World} {A q : Nat} (v : Value) (h : q ≠ A) : (u.setCell ⟨A, 0, none⟩ v).heap[q]? = u.heap[q]? := set_else v h

set_option maxHeartbeats 1600000 in
theorem player1_any {base A X B : Nat} {t : ByteArray} {u : World} (h : LayS A X B t u) (s : ByteArray) (ht : t.size < 252) (hs : t.size + s.size ≤ 252) (hA : base ≤ A) (hB : base ≤ B) :
    Calls Tryz.prog 209 #[.string s, .pointer (some ⟨A, 0, none⟩), .pointer (some ⟨X, 0, none⟩)] u fun e u' => e = .returned (.tuple #[]) ∧ LayS A X B (t ++ s) u' ∧ Below base u u' := by
  have nAB : A ≠ B := fun e => by have h1 := h.at0; rw [e, h.row] at h1; simp at h1
  have nXB : X ≠ B := fun e => by have h1 := h.bx; rw [e, h.row] at h1; simp at h1
  have nAX : A ≠ X := fun e => by have h1 := h.at0; rw [e, h.bx] at h1; simp at h1
  have R : (row252 t).toArray.size = 252 := by rw [List.size_toArray, row252_len]
  have hcp := Lib.run_copy_row_string (P := Tryz.prog) u.drew 71 9 3 5 B t.size (252 - t.size) (252 - t.size) s _ 215 Tryz.underlying71 size_byte h.row (by omega) (by rw [R]; exact hs)
  obtain ⟨w2, hw2⟩ : ∃ w2, w2 = u.drew.setRow B ((row252 t).toArray.toList.take t.size ++ Lib.byteCells s.data.toList ++ (row252 t).toArray.toList.drop (t.size + s.size)).toArray := ⟨_, rfl⟩
  rw [← hw2] at hcp
  have hrow : w2.heap[B]? = some (.cells (row252 (t ++ s)).toArray 215 (0, 0)) := by
    rw [hw2, setRow_heap u.drew B _ _ _ _ h.row, ← row252_put t s hs]
  have hA2 : w2.heap[A]? = some (.cells #[.int .i64 (t.size : Int)] 3 (0, 0)) := by rw [hw2, setRow_other _ _ _ _ nAB]; exact h.at0
  have hX2 : w2.heap[X]? = some (.cells #[.pointer (some ⟨B, 0, none⟩)] 217 (0, 0)) := by rw [hw2, setRow_other _ _ _ _ nXB]; exact h.bx
  have hb2 : Below base u w2 := by rw [hw2]; exact below_setRow ((Below.refl base u).drew) hB _
  clear hw2
  have c0 : u.cell? ⟨A, 0, none⟩ = some (.int .i64 (t.size : Int)) := by rw [Lib.cell_of_heap h.at0]; rfl
  have c1 : u.cell? ⟨X, 0, none⟩ = some (.pointer (some ⟨B, 0, none⟩)) := by rw [Lib.cell_of_heap h.bx]; rfl
  have c2 : w2.cell? ⟨A, 0, none⟩ = some (.int .i64 (t.size : Int)) := by rw [Lib.cell_of_heap hA2]; rfl
  have f2 : w2.frozen? ⟨A, 0, none⟩ = false := Lib.frozen_of_heap hA2 0
  have F : Hid (LayS A X B (t ++ s) (w2.setCell ⟨A, 0, none⟩ (.int .i64 ((t.size : Int) + (s.size : Int))))) := Lib.hid ⟨by
      rw [Joins.block_setCell (i := 0) hA2, ByteArray.size_append]
      rfl, by rw [set_elseP _ nAX.symm]; exact hX2, by rw [set_elseP _ nAB.symm]; exact hrow⟩
  have FB : Hid (Below base u (w2.setCell ⟨A, 0, none⟩ (.int .i64 ((t.size : Int) + (s.size : Int))))) := Lib.hid (hb2.setCell hA _)
  have b1 : (0 : Int) ≤ (t.size : Int) := by omega
  have b2 : (t.size : Int) ≤ 252 := by omega
  have b3 : (t.size : Int) < 252 := by omega
  have b4 : ((t.size : Int)).toNat = t.size := by omega
  have b5 : ¬ 252 = t.size := by omega
  clear hrow hA2 hX2 hb2 h R hA hB
  go_enter Tryz.func209, Tryz.ntmps209
  go_wp2_with fail
  go_region
  all_goals go_end0
  all_goals exact ⟨rfl, F.out, FB.out⟩

end Go.Proofs.YtmflkkkbahghgaaGreat
namespace Go.Proofs.YtmflkkkbahghgaaGreat
open Go.RowKit Go.Deep
set_option linter.unusedVariables false
set_option linter.unusedSimpArgs false
set_option maxRecDepth 100000

theorem four_cells {W : World} {B : Nat} {c0 c1 c2 c3 : Value} {T : TypeId} (h : W.heap[B]? = some (.cells #[c0, c1, c2, c3] T (0, 0))) :
    W.cell? ⟨B, 0, none⟩ = some c0 ∧ W.cell? ⟨B, 1, none⟩ = some c1 ∧ W.cell? ⟨B, 2, none⟩ = some c2 ∧ W.cell? ⟨B, 3, none⟩ = some c3 := by
  refine ⟨?_, ?_, ?_, ?_⟩ <;> (rw [Lib.cell_of_heap h]; rfl)
theorem put_four {W : World} {B : Nat} {c0 c1 c2 c3 : Value} {T : TypeId} (h : W.heap[B]? = some (.cells #[c0, c1, c2, c3] T (0, 0))) (u0 u1 u2 u3 : Value) :
    (W.setCells B 0 [u0, u1, u2, u3]).heap[B]? = some (.cells #[u0, u1, u2, u3] T (0, 0)) :=
  Joins.block_setCell (Joins.block_setCell (Joins.block_setCell (Joins.block_setCell h u0) u1) u2) u3
theorem put_below {base B : Nat} (hB : base ≤ B) : ∀ (l : List Value) (o : Nat) (W : World), Below base W (W.setCells B o l)
  | [], _, W => Below.refl _ _
  | v :: l, o, W => ((Below.refl base W).setCell (p := ⟨B, o, none⟩) hB v).trans (put_below hB l (o + 1) _)
theorem heap_lt {u : World} {B : Nat} {o : Obj} (h : u.heap[B]? = some o) : B < u.heap.size := (Array.getElem?_eq_some_iff.1 h).1
theorem heap_stays {u u2 : World} {B : Nat} {o : Obj} (h : u.heap[B]? = some o) (k : Below u.heap.size u u2) : u2.heap[B]? = some o := (k.block _ (heap_lt h)).trans h
def getRet (s : ByteArray) : Ending := .returned (.tuple #[.agg (pgV (getP s)).toArray, .int .i64 (getE s)])
theorem getRet_bad {s : ByteArray} {e : Int} (h : getE s = e) (hne : e ≠ 0) : getRet s = .returned (.tuple #[.agg #[.int .i64 0, .int .i64 0, .int .i64 0, .string ⟨#[]⟩], .int .i64 e]) := by
  unfold getRet getP
  rw [h, if_neg hne]
  rfl
theorem getRet_ok {s : ByteArray} (h : getE s = 0) : getRet s = .returned (.tuple #[.agg (pgV (tellP s)).toArray, .int .i64 0]) := by
  unfold getRet getP
  rw [h, if_pos rfl]

def readRet (d : Dk) (id : Int) : Ending := .returned (.tuple #[.agg (pgV (readPP d id)).toArray, .int .i64 (readPE d id)])
theorem readRet_bad {d : Dk} {id e : Int} (h : readPE d id = e) (hne : e ≠ 0) : readRet d id = .returned (.tuple #[.agg #[.int .i64 0, .int .i64 0, .int .i64 0, .string ⟨#[]⟩], .int .i64 e]) := by
  unfold readRet readPP
  rw [h, if_neg hne]
  rfl
theorem readRet_ok {d : Dk} {id : Int} (h : readPE d id = 0) : readRet d id = .returned (.tuple #[.agg (pgV (getP (pageS d id.toNat))).toArray, .int .i64 0]) := by
  unfold readRet readPP
  rw [h, if_pos rfl]

end Go.Proofs.YtmflkkkbahghgaaGreat
namespace Go.Proofs.YtmflkkkbahghgaaGreat
open Go.Shelf Go.RowKit

def renClone : Go.Shelf.Ren := ⟨fun | 316 => 210 | n => n, fun | 9 => 9 | 3 => 3 | 4 => 4 | 37 => 71 | 0 => 0 | 127 => 192 | 5 => 5 | n => n, fun | n => n⟩
theorem laysClone : Go.Proofs.LaysM.n316 Tryz.prog renClone := {
  mixed := by kernel_rfl
  f316 := Tryz.func210.trans (congrArg some (by kernel_rfl))
  t0 := Tryz.underlying0
  a0 := Tryz.isAgg0
  z0 := Tryz.sizeOf0
  v0 := Tryz.zeroValue0
  t3 := Tryz.underlying3
  a3 := Tryz.isAgg3
  z3 := Tryz.sizeOf3
  v3 := Tryz.zeroValue3
  t4 := Tryz.underlying4
  a4 := Tryz.isAgg4
  z4 := Tryz.sizeOf4
  v4 := Tryz.zeroValue4
  t9 := Tryz.underlying9
  a9 := Tryz.isAgg9
  z9 := Tryz.sizeOf9
  v9 := Tryz.zeroValue9
  t37 := Tryz.underlying71
  a37 := Tryz.isAgg71
  z37 := Tryz.sizeOf71
  v37 := Tryz.zeroValue71
  t127 := Tryz.underlying192
  a127 := Tryz.isAgg192
  z127 := Tryz.sizeOf192
  v127 := Tryz.zeroValue192
  t5 := Tryz.underlying5
  a5 := Tryz.isAgg5
  z5 := Tryz.sizeOf5
  v5 := Tryz.zeroValue5
  i0 := by kernel_rfl
  i3 := by kernel_rfl
  i4 := by kernel_rfl
  i5 := by kernel_rfl
  i9 := by kernel_rfl
  i37 := by kernel_rfl
  i127 := by kernel_rfl }
theorem liteClone (s : ByteArray) (w : World) (hlim : s.size ≤ 281474976710656) :
    Calls Tryz.prog 210 #[.string s] w fun e w' => e = .returned (.string s) ∧ Below w.heap.size w w' := Any.stringslite_Clone laysClone s w hlim
theorem strClone (s : ByteArray) (w : World) (hlim : s.size ≤ 281474976710656) :
    Calls Tryz.prog 206 #[.string s] w fun e w' => e = .returned (.string s) ∧ Below w.heap.size w w' := by
  go_enter Tryz.func206, Tryz.ntmps206
  go_wp2_with (go_at_call 210; refine (liteClone _ _ hlim).mono ?_; rintro e w' ⟨rfl, hb⟩)
  go_ret
  exact ⟨rfl, hb⟩

end Go.Proofs.YtmflkkkbahghgaaGreat
