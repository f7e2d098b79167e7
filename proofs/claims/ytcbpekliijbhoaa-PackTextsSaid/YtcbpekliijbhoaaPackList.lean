/- The contracts of pack.ReadList and of the document's own ReadList and Ints. -/
import Derived.Test.YtcbpekliijbhoaaPackRefText
namespace Go.Proofs.Ytcbpekliijbhoaa
open Go.RowKit

theorem info_int : (Try.prog.info? 3).map (fun i => (i.zero, i.size, i.bytes)) = some (some (.int .i64 0), 1, 8) := by kernel_rfl

/-- number i of the list that begins at p -/
def rlNum (s : ByteArray) (p i : Nat) : Int := unflip63 (rdI s (p + 8 * i) 8)
def rlNums (s : ByteArray) (p n : Nat) : List Int := (List.range n).map (rlNum s p)
/-- what the row of n holds when j numbers have been read -/
def rlRow (s : ByteArray) (p n j : Nat) : List Int := (List.range n).map fun i => if i < j then rlNum s p i else 0
theorem rlRow_len (s : ByteArray) (p n j : Nat) : (rlRow s p n j).length = n := by simp [rlRow]
theorem rlRow_zero (s : ByteArray) (p n : Nat) : rlRow s p n 0 = List.replicate n 0 := by
  apply List.ext_getElem
  · simp [rlRow]
  · intro i h1 h2; simp [rlRow]
theorem rlRow_full (s : ByteArray) (p n : Nat) : rlRow s p n n = rlNums s p n := by
  apply List.ext_getElem
  · simp [rlRow, rlNums]
  · intro i h1 h2; simp [rlRow] at h1; simp [rlRow, rlNums, h1]
theorem rlRow_step (s : ByteArray) (p n j : Nat) (_h : j < n) : (rlRow s p n j).set j (rlNum s p j) = rlRow s p n (j + 1) := by
  apply List.ext_getElem
  · simp [rlRow]
  · intro i h1 h2
    simp only [List.getElem_set, rlRow, List.getElem_map, List.getElem_range]
    by_cases e : j = i
    · subst e; simp
    · simp [e]; by_cases h3 : i < j
      · simp [h3, show i < j + 1 by omega]
      · simp [h3, show ¬ i < j + 1 by omega]
theorem rlNums_succ (s : ByteArray) (p n : Nat) : rlNums s p (n + 1) = rlNums s p n ++ [rlNum s p n] := by
  simp [rlNums, List.range_succ]
theorem rlNums_len (s : ByteArray) (p n : Nat) : (rlNums s p n).length = n := by simp [rlNums]

/-- what stands at a place, read as a list -/
def rlOf (s : ByteArray) (x : Int × Int × Int) : List Int × Int × Int :=
  if x.2.2 ≠ 0 then ([], 0, x.2.2) else (rlNums s x.2.1.toNat x.1.toNat, x.2.1 + 8 * x.1, 0)
def rlSpec (s : ByteArray) (a : Int) : List Int × Int × Int := rlOf s (rcSpec s a 512 8)

/-- a list in new memory is handed back, its place and its error -/
def ListRet (w : World) (x : List Int × Int × Int) (e : Ending) (w' : World) : Prop :=
  ∃ v, e = .returned (.tuple #[v, .int .i64 x.2.1, .int .i64 x.2.2]) ∧ w'.ownsRow w.heap.size 3 1 v x.1.length (x.1.map (Value.int .i64)) ∧ Below w.heap.size w w'

/-- the reading of number j -/
theorem rdI_num (s : ByteArray) (p j : Nat) (h : p + 8 * j + 8 ≤ s.size) : rdISpec (rdSpec s ((p : Int) + 8 * (j : Int)) 8) = (rlNum s p j, (p : Int) + 8 * (j : Int) + 8, 0) := by
  unfold rdSpec
  rw [if_neg (by omega), if_neg (by omega), show ((p : Int) + 8 * (j : Int)).toNat = p + 8 * j from by omega]
  unfold rdISpec
  rw [if_pos rfl]
  rfl

def RlAt (w wr : World) (s : ByteArray) (p n j : Nat) : Prop :=
  wr.ownsRow w.heap.size 3 1 (.slice (some ⟨w.heap.size, 0, none⟩) n n) n ((rlRow s p n j).map (Value.int .i64)) ∧ Below w.heap.size w wr
theorem rlAt_start {w wr : World} (s : ByteArray) (p : Nat) {n : Nat}
    (h : wr.ownsRow w.heap.size 3 1 (.slice (some ⟨w.heap.size, 0, none⟩) n n) n (madeCells #[Value.int .i64 0] n).toList) (hg : w.grownBy wr none) : RlAt w wr s p n 0 := by
  refine ⟨?_, (Below.refl _ _).grown hg (Nat.le_refl _) (by simp)⟩
  rw [toList_madeCells_one] at h
  rw [rlRow_zero, List.map_replicate]; exact h
theorem rlAt_step {w wr : World} {s : ByteArray} {p n j : Nat} (hj : j < n) (h : RlAt w wr s p n j) :
    RlAt w (wr.setCell ⟨w.heap.size, j, none⟩ (.int .i64 (rlNum s p j))) s p n (j + 1) := by
  obtain ⟨h1, h2⟩ := h
  have hs := (h1.stored j (.int .i64 (rlNum s p j))).1
  refine ⟨?_, h2.setCell (Nat.le_refl _) _⟩
  rw [← List.map_set, rlRow_step s p n j hj] at hs
  exact hs
theorem rlAt_some {w wr : World} {s : ByteArray} {p n j : Nat} (hj : j < n) (h : RlAt w wr s p n j) : ∃ v, wr.cell? ⟨w.heap.size, j, none⟩ = some v := by
  have := h.1.cellAt j (by omega)
  rw [this]
  have hl := rlRow_len s p n j
  exact ⟨_, List.getElem?_eq_getElem (by simp; omega)⟩

set_option maxHeartbeats 400000 in
theorem readList_ok (s : ByteArray) (a : Int) (n p : Nat) (hs : s.size ≤ maxLen) (hn : n ≤ 512) (hp : p + 8 * n ≤ s.size) (w : World)
    (H : Hid (∀ w, Calls Try.prog 34 #[.string s, .int .i64 a, .int .i64 512, .int .i64 8] w fun e w' => e = .returned (.tuple #[.int .i64 (n : Int), .int .i64 (p : Int), .int .i64 0]) ∧ w = w')) :
    Calls Try.prog 24 #[.string s, .int .i64 a] w (ListRet w (rlNums s p n, (p : Int) + 8 * (n : Int), 0)) := by
  obtain ⟨i0, hi, hz0, hz1, hz2⟩ := info_parts info_int
  have HS := Lib.hid hs
  unfold maxLen at hs
  go_enter Try.func24, Try.ntmps24
  go_wp2_with fail
  refine (H.out _).mono ?_
  rintro e w' ⟨rfl, rfl⟩
  go_wp2_with (at_make; refine wpList_make_full _ rfl _ _ _ rfl w.heap.size 3 i0 (.int .i64 0) 1 Try.underlying27 hi hz0 hz1 .i64 .i64 _ _ n rfl rfl rfl rfl (by rw [hz2]; omega) (by unfold maxLen; omega) (by omega) ?_)
  intro w1 hown hgr
  have H1 : Hid (RlAt w w1 s p n 0) := rlAt_start s p hown hgr
  clear hown hgr hi hz0 hz1 hz2
  go_wp2_with fail
  go_loopw [8, 25] (fun b i wr => ∃ j : Nat, j ≤ n ∧ i = .int .i64 j ∧ b = .int .i64 ((p : Int) + 8 * (j : Int)) ∧ RlAt w wr s p n j) (fun _ i _ => n - (intOf i).toNat)
  case atStart => exact ⟨0, Nat.zero_le _, rfl, by simp, H1.out⟩
  case round =>
    obtain ⟨j, hj, rfl, rfl, hl⟩ := hrel
    by_cases hlt : j < n
    · have hst := rlAt_step hlt hl
      have hfz : wr.frozen? ⟨w.heap.size, j, none⟩ = false := hl.1.frozenAt _
      obtain ⟨v, hc⟩ := rlAt_some hlt hl
      have HT := Lib.hid hst
      have h2 := readI_any s ((p : Int) + 8 * (j : Int)) HS.out (by omega)
      rw [rdI_num s p j (by omega)] at h2
      unfold rdIRet at h2
      have H2 := Lib.hid h2
      clear hst hl h2
      go_wp2_with fail
      refine (H2.out _).mono ?_
      rintro e w2 ⟨rfl, rfl⟩
      go_wp2_with fail
      go_roundw
      case rel => exact ⟨j + 1, by omega, by go_num, by go_num, HT.out⟩
      case measure => simp [intOf]; omega
    · obtain rfl : j = n := by omega
      have hr := hl.1
      rw [rlRow_full] at hr
      have HR := Lib.hid hr
      have HB := Lib.hid hl.2
      clear hl hr
      go_wp2_with fail
      go_ret3
      exact ⟨.slice (some ⟨w.heap.size, 0, none⟩) j j, rfl, by simpa only [rlNums_len] using HR.out, HB.out⟩

set_option maxHeartbeats 400000 in
theorem readList_any (s : ByteArray) (a : Int) (hs : s.size ≤ maxLen) (hw : -9223372036854775808 ≤ a ∧ a ≤ 9223372036854775807) (w : World) :
    Calls Try.prog 24 #[.string s, .int .i64 a] w (ListRet w (rlSpec s a)) := by
  have H := Lib.hid (readCount_list s a hs hw)
  have hb := rcSpec_bd s a 512 8
  unfold rlSpec
  generalize rcSpec s a 512 8 = x at H hb ⊢
  obtain ⟨x0, x1, x2⟩ := x
  unfold rdIRet at H
  simp only at hb H ⊢
  clear hw
  by_cases h0 : x2 = 0
  · subst h0
    obtain ⟨b1, b2, b3, b4, b5⟩ := hb rfl
    obtain ⟨n, rfl⟩ := Int.eq_ofNat_of_zero_le b1
    obtain ⟨p, rfl⟩ := Int.eq_ofNat_of_zero_le b2
    have E : rlOf s ((n : Int), (p : Int), 0) = (rlNums s p n, (p : Int) + 8 * (n : Int), 0) := by
      unfold rlOf; rw [if_neg (by simp)]; simp
    rw [E]
    exact readList_ok s a n p hs (by omega) (by omega) w H
  · have hne : (x2 != 0) = true := by simp [h0]
    have E : rlOf s (x0, x1, x2) = ([], 0, x2) := by unfold rlOf; rw [if_pos h0]
    rw [E]
    clear hb E hs
    go_enter Try.func24, Try.ntmps24
    go_wp2_with (go_at_call 34; refine (H.out _).mono ?_; rintro e w' ⟨rfl, rfl⟩)
    go_ret3
    exact ⟨_, rfl, World.ownsRow_nil _ _ _ _, Below.refl _ _⟩

end Go.Proofs.Ytcbpekliijbhoaa
