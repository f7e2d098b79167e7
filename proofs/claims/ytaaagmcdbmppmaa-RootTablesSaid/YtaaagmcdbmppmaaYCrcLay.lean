/- The contracts of crc.Lay and of the document's own Lay. -/
import Derived.Laws.CopyOwn
import Derived.Lib.BufferWrite
import Derived.Laws.IdiomStrings
import Derived.Laws.BytesArg
import Derived.Test.YtaaagmcdbmppmaaYCrcCheck
namespace Go.Proofs.Ytaaagmcdbmppmaa
open Go.RowKit

theorem info_byte : (Try.prog.info? 5).map (fun i => (i.zero, i.size, i.bytes)) = some (some (.int .u8 0), 1, 1) := by kernel_rfl
theorem size_byte : (Try.prog.info? 5).map (·.size) = some 1 := by kernel_rfl

theorem add_at (b o i : Nat) : (⟨b, o, none⟩ : Addr).add i = ⟨b, o + i, none⟩ := by unfold Addr.add; split <;> simp_all

/-- the four cells of a check -/
def chkCells (n : Nat) : List Value := [.int .u8 (chkI n 0), .int .u8 (chkI n 1), .int .u8 (chkI n 2), .int .u8 (chkI n 3)]
theorem chkCells_eq (n : Nat) : chkCells n = Lib.byteCells (le4 n) := by
  unfold chkCells Lib.byteCells le4 chkI
  simp
theorem chkCells_len (n : Nat) : (chkCells n).length = 4 := rfl

/-- the row that make gives, known whole -/
theorem made_row {w : World} {base g n : Nat} {e : TypeId} (h : w.ownsRow base e 1 (.slice (some ⟨g, 0, none⟩) n n) n (madeCells #[Value.int .u8 0] n).toList) :
    w.heap[g]? = some (.cells (List.replicate n (Value.int .u8 0)).toArray e (0, 0)) := by
  rcases h.2 with ⟨h1, _⟩ | ⟨g', cap, cur, h1, _, h2, h3, _, h4, h5⟩
  · simp at h1
  · simp only [Value.slice.injEq, Option.some.injEq, Addr.mk.injEq, and_true, true_and] at h1
    obtain ⟨rfl, rfl⟩ := h1
    rw [h2]
    rw [toList_madeCells_one, Nat.mul_one] at h5
    have e : cur.toList = List.replicate n (Value.int .u8 0) := by
      rw [← h5]
      exact (List.take_of_length_le (by simp; omega)).symm
    rw [← e]

theorem lay_row1 (n k : Nat) : splice (List.replicate (4 + k) (Value.int .u8 0)) 0 (chkCells n) = chkCells n ++ List.replicate k (Value.int .u8 0) := by
  unfold splice
  rw [chkCells_len]
  simp
theorem lay_row2 (n : Nat) (l : List UInt8) (z : Value) :
    ((chkCells n ++ List.replicate l.length z).toArray.toList.take 4 ++ Lib.byteCells l ++ (chkCells n ++ List.replicate l.length z).toArray.toList.drop (4 + l.length)) = Lib.byteCells (le4 n ++ l) := by
  have h4 := chkCells_len n
  have e1 : (chkCells n ++ List.replicate l.length z).take 4 = chkCells n := by rw [← h4]; exact List.take_left
  have e2 : (chkCells n ++ List.replicate l.length z).drop (4 + l.length) = [] := List.drop_of_length_le (by simp [h4])
  simp only [e1, e2, List.append_nil]
  rw [chkCells_eq]
  simp [Lib.byteCells]

/-- the cells of a row of bytes -/
theorem bytes_cells {w : World} {g : Nat} {e : TypeId} {fz : Nat × Nat} {l : List UInt8} (h : w.heap[g]? = some (.cells (Lib.byteCells l).toArray e fz)) :
    ∀ j (hj : j < l.length), w.cell? ((⟨g, 0, none⟩ : Addr).add j) = some (.int .u8 (l[j].toNat : Int)) := by
  intro j hj
  rw [add_at, Nat.zero_add, Lib.cell_of_heap h]
  simp [Lib.byteCells, List.getElem?_eq_getElem hj]

theorem chk_cells {w : World} {g n : Nat} {e : TypeId} {fz : Nat × Nat} {r : List Value} (h : w.heap[g]? = some (.cells (chkCells n ++ r).toArray e fz)) :
    ∀ j (hj : j < (le4 n).length), w.cell? ((⟨g, 0, none⟩ : Addr).add j) = some (.int .u8 ((le4 n)[j].toNat : Int)) := by
  intro j hj
  rw [add_at, Nat.zero_add, Lib.cell_of_heap h, chkCells_eq]
  rw [List.getElem?_toArray, List.getElem?_append_left (by simpa [Lib.byteCells] using hj)]
  simp [Lib.byteCells, List.getElem?_eq_getElem hj]

/-- 'copy(b, check[:])' -/
theorem copy_chk {w2 : World} {g c n k base : Nat} (K : w2.heap[g]? = some (.cells (List.replicate (4 + k) (Value.int .u8 0)).toArray 5 (0, 0)))
    (C : w2.heap[c]? = some (.cells (chkCells n).toArray 68 (0, 0))) (hbg : base ≤ g) :
    ∃ w3, (Builtin.copy_ #[56, 56] 3 #[.slice (some ⟨g, 0, none⟩) (4 + k) (4 + k), .slice (some ⟨c, 0, none⟩) 4 4]).run Try.prog w2 = .ok (.int .i64 4) w3 ∧
      w3.heap[g]? = some (.cells (chkCells n ++ List.replicate k (Value.int .u8 0)).toArray 5 (0, 0)) ∧ Below base w2 w3 := by
  have h := run_copy_row (P := Try.prog) w2 56 56 3 5 g 0 (4 + k) (4 + k) ⟨c, 0, none⟩ 4 4 _ 5 (chkCells n) Try.underlying56 size_byte K
    (by rw [chkCells_len]; exact (Nat.min_eq_left (by omega)).symm)
    (fun j v hj => by rw [add_at, Nat.zero_add, Lib.cell_of_heap C]; simpa using hj)
    (by rw [chkCells_len]; simp)
    (by intro v hv; simp only [chkCells, List.mem_cons, List.not_mem_nil, or_false] at hv; rcases hv with rfl | rfl | rfl | rfl <;> rfl)
  refine ⟨_, h, ?_, below_setRow (Below.refl _ _) hbg _⟩
  rw [setRow_heap w2 g _ _ _ _ K, ← lay_row1 n k]
  rfl

/-- 'copy(b[4:], s)' -/
theorem copy_str {w3 : World} {g n base : Nat} (s : ByteArray) (K : w3.heap[g]? = some (.cells (chkCells n ++ List.replicate s.size (Value.int .u8 0)).toArray 5 (0, 0))) (hbg : base ≤ g) :
    ∃ w4, (Builtin.copy_ #[56, 9] 3 #[.slice (some ⟨g, 4, none⟩) s.size s.size, .string s]).run Try.prog w3 = .ok (.int .i64 s.size) w4 ∧
      w4.heap[g]? = some (.cells (Lib.byteCells (le4 n ++ s.data.toList)).toArray 5 (0, 0)) ∧ Below base w3 w4 := by
  have hl : s.data.toList.length = s.size := by simp
  have h := Lib.run_copy_row_string (P := Try.prog) w3 56 9 3 5 g 4 s.size s.size s _ 5 Try.underlying56 size_byte K (Nat.le_refl _) (by simp [chkCells_len])
  refine ⟨_, h, ?_, below_setRow (Below.refl _ _) hbg _⟩
  rw [setRow_heap w3 g _ _ _ _ K]
  have e := lay_row2 n s.data.toList (Value.int .u8 0)
  rw [hl] at e
  rw [e]

set_option maxRecDepth 100000 in
set_option maxHeartbeats 400000 in
theorem lay_any (s : ByteArray) (hs : s.size ≤ 140737488355328) (w : World) :
    Calls Try.prog 23 #[.string s] w fun e w' => e = .returned (.string ⟨(laidL s.data.toList).toArray⟩) ∧ Below w.heap.size w w' := by
  obtain ⟨i0, hi, hz0, hz1, hz2⟩ := info_parts info_byte
  have H := Lib.hid (checkOf_any s (by unfold maxLen; omega))
  obtain ⟨n, hn⟩ : ∃ n, n = crcN s.data.toList := ⟨_, rfl⟩
  rw [← hn] at H
  have HN := Lib.hid hn
  clear hn
  unfold chkAgg at H
  go_enter Try.func23, Try.ntmps23
  go_wp2_with fail
  refine (H.out _).mono ?_
  rintro e w1 ⟨rfl, hb1⟩
  go_wp2_with (at_make; refine wpList_make_full _ rfl _ _ _ rfl w.heap.size 5 i0 (.int .u8 0) 1 Try.underlying56 hi hz0 hz1 .i64 .i64 _ _ (4 + s.size) rfl rfl (by omega) (by omega) (by rw [hz2]; omega) (by unfold maxLen; omega) (by have := hb1.size; simp; omega) ?_)
  intro w2 hown hgr
  have K := made_row hown
  have C : w2.heap[w1.heap.size]? = some (.cells (chkCells n).toArray 68 (0, 0)) := by
    rw [hgr.block w1.heap.size (by simp) (by simp), heap_alloc_new]
    rfl
  have hB2 : Below w.heap.size w w2 := (hb1.alloc hb1.size _).grown hgr (by have := hb1.size; simp; omega) (by simp)
  have HZ : w.heap.size ≤ w1.heap.size + 1 := by have := hb1.size; omega
  obtain ⟨w3, hr3, K3, hB3⟩ := copy_chk K C HZ
  obtain ⟨w4, hr4, K4, hB4⟩ := copy_str s K3 HZ
  have hcv := run_convert_bytes_back (P := Try.prog) w4 56 9 5 ⟨w1.heap.size + 1, 0, none⟩ (4 + s.size) (le4 n ++ s.data.toList) Try.underlying56 Try.underlying5 Try.underlying9 (bytes_cells K4)
  have HB := Lib.hid ((hB2.trans hB3).trans hB4)
  have HB3 := Lib.hid (hB2.trans hB3)
  have hr5 := Lib.run_copy_empty_string (P := Try.prog) w3 56 9 3 5 (some ⟨w1.heap.size + 1, 0, none⟩) 0 0 ByteArray.empty Try.underlying56 (by rw [size_byte]; rfl) rfl
  have hcv3 := run_convert_bytes_back (P := Try.prog) w3 56 9 5 ⟨w1.heap.size + 1, 0, none⟩ 4 (le4 n) Try.underlying56 Try.underlying5 Try.underlying9 (chk_cells K3)
  rw [le4_len] at hcv3
  rw [show (le4 n ++ s.data.toList).length = 4 + s.size from by simp [le4_len]] at hcv
  clear hown hgr hi hz0 hz1 hz2 hb1 K C hB2 K3 hB3 K4 hB4
  go_wp2_with fail
  · go_ret
    exact ⟨by unfold laidL; rw [← HN.out, h, show ByteArray.empty.data.toList = [] from rfl, List.append_nil]; rfl, HB3.out⟩
  · go_ret
    exact ⟨by unfold laidL; rw [← HN.out]; rfl, HB.out⟩

theorem laid_size (l : List UInt8) : (ByteArray.mk (laidL l).toArray).size = 4 + l.length := by
  show (laidL l).toArray.size = _
  simp [laidL, le4_len]
theorem bytes_append (a : List UInt8) (s : ByteArray) : (⟨(a ++ s.data.toList).toArray⟩ : ByteArray) = ⟨a.toArray⟩ ++ s := by
  apply ByteArray.ext
  simp
/-- the four bytes, as the document's own way divides them out -/
theorem le4_nums (n : Nat) (h : n < 4294967296) : strOfNums [(n : Int) % 256, (n : Int) / 256 % 256, (n : Int) / 65536 % 256, (n : Int) / 16777216] = ⟨(le4 n).toArray⟩ := by
  unfold strOfNums le4
  simp only [List.map_cons, List.map_nil]
  have e0 : ((n : Int) % 256).toNat = n % 256 := by omega
  have e1 : ((n : Int) / 256 % 256).toNat = n / 256 % 256 := by omega
  have e2 : ((n : Int) / 65536 % 256).toNat = n / 65536 % 256 := by omega
  have e3 : ((n : Int) / 16777216).toNat = n / 16777216 % 256 := by omega
  rw [e0, e1, e2, e3]


end Go.Proofs.Ytaaagmcdbmppmaa
