/- The contracts of horologeref01.U, I and Two, and of pack.U and pack.I: the very bytes. -/
import Derived.Test.YtdmlmjmdpmmcgaaPackLay
import Derived.Laws.AppendOwnNone
namespace Go.Proofs.Ytdmlmjmdpmmcgaa
open Go.RowKit
set_option maxRecDepth 100000

/-- what is gathered after j rounds -/
def RefAt (w wr : World) (v : Value) (j : Nat) (n : Int) : Prop :=
  wr.ownsRow w.heap.size 5 1 v j ((beI j n).map (Value.int .u8)) ∧ Below w.heap.size w wr

theorem refAt_start (w : World) (n : Int) : RefAt w w (.slice none 0 0) 0 n := ⟨World.ownsRow_nil _ _ _ _, Below.refl _ _⟩

theorem refAt_cases {w wr : World} {v : Value} {j : Nat} {n : Int} (h : RefAt w wr v j n) :
    (v = .slice none 0 0 ∧ j = 0) ∨ ∃ g cap, v = .slice (some ⟨g, 0, none⟩) j cap ∧ w.heap.size ≤ g ∧ g < wr.heap.size ∧ ∀ i, i < j → wr.cell? ⟨g, 0 + i, none⟩ = some (.int .u8 ((beI j n).getD i 0)) := by
  obtain ⟨h1, h2⟩ := h
  rcases h1.2 with ⟨rfl, rfl⟩ | ⟨g, cap, cur, rfl, hb, hg, _⟩
  · exact .inl ⟨rfl, rfl⟩
  · refine .inr ⟨g, cap, rfl, hb, (Array.getElem?_eq_some_iff.1 hg).1, fun i hi => ?_⟩
    have := h1.cellAt i (by omega)
    rw [Nat.zero_add, this]
    have hl := beI_len j n
    simp [List.getElem?_eq_getElem (show i < (beI j n).length by omega)]

theorem refAt_first {w wr : World} {n : Int} (h : RefAt w wr (.slice none 0 0) 0 n) :
    RefAt w (wr.alloc (.cells #[.int .u8 (n % 256)] 5)) (.slice (some ⟨wr.heap.size, 0, none⟩) 1 1) 1 n := by
  obtain ⟨h1, h2⟩ := h
  refine ⟨?_, h2.alloc h2.size _⟩
  have := World.ownsRow_lit (base := w.heap.size) (e := 5) (size := 1) wr #[.int .u8 (n % 256)] 1 h2.size (by unfold maxLen; omega) rfl
  simpa [beI] using this

theorem refAt_next {w wr w' : World} {v : Value} {j : Nat} {n : Int} (hb : Below w.heap.size w wr)
    (hown : w'.ownsRow w.heap.size 5 1 v (1 + j) ([.int .u8 (n / 256 ^ j % 256)] ++ (beI j n).map (Value.int .u8)))
    (hg : (wr.alloc (.cells #[.int .u8 (n / 256 ^ j % 256)] 5)).grownBy w' (some wr.heap.size)) : RefAt w w' v (j + 1) n := by
  refine ⟨?_, (hb.alloc hb.size _).grown hg (by have := hb.size; simp; omega) (by intro k hk; simp at hk; subst hk; exact hb.size)⟩
  rw [Nat.add_comm 1 j] at hown
  exact hown

theorem cells_past {wr : World} {g j : Nat} {l : List Int} (h : ∀ i, i < j → wr.cell? ⟨g, 0 + i, none⟩ = some (.int .u8 (l.getD i 0))) (hg : g < wr.heap.size) (o : Obj) (hl : l.length = j := by exact beI_len _ _) :
    ∀ i u, (l.map (Value.int .u8))[i]? = some u → (wr.alloc o).cell? ((⟨g, 0, none⟩ : Addr).add i) = some u := by
  intro i u hu
  have hi : i < j := by
    rcases Nat.lt_or_ge i j with h | h
    · exact h
    · rw [List.getElem?_eq_none (by simp; omega)] at hu; cases hu
  have e : (⟨g, 0, none⟩ : Addr).add i = ⟨g, 0 + i, none⟩ := by unfold Addr.add; split <;> simp_all
  rw [e]
  have := (Below.refl wr.heap.size wr).alloc (Nat.le_refl _) o
  rw [this.cell (p := ⟨g, 0 + i, none⟩) hg, h i hi]
  rw [List.getElem?_map, List.getElem?_eq_getElem (by omega)] at hu
  simp at hu
  subst hu
  simp [List.getD, List.getElem?_eq_getElem (show i < l.length by omega)]

set_option maxHeartbeats 400000 in
theorem refU (n : Int) (hn : 0 ≤ n) (hn2 : n ≤ 18446744073709551615) (w : World) :
    Calls Try.prog 61 #[.int .u64 n] w fun e w' => e = .returned (.string (strOfNums (beI 8 n))) ∧ Below w.heap.size w w' := by
  obtain ⟨i0, hi, hz0, hz1, hz2⟩ := info_parts info_u8
  go_enter Try.func61, Try.ntmps61
  go_wp2_with fail
  go_loopw [0, 3, 4] (fun b v i wr => ∃ j : Nat, j ≤ 8 ∧ i = .int .i64 j ∧ b = .int .u64 (n / 256 ^ j) ∧ RefAt w wr v j n) (fun _ _ i _ => 8 - (intOf i).toNat)
  case atStart => exact ⟨0, by omega, rfl, by simp, refAt_start w n⟩
  case round =>
    obtain ⟨j, hj, rfl, rfl, hl⟩ := hrel
    have hp : 0 ≤ n / 256 ^ j := Int.ediv_nonneg hn (Int.pow_nonneg (by omega))
    have hp2 : n / 256 ^ j ≤ 18446744073709551615 := Int.le_trans (Int.ediv_le_self _ hn) hn2
    by_cases hlt : j < 8
    · rcases refAt_cases hl with ⟨rfl, rfl⟩ | ⟨g, cap, rfl, hg1, hg2, hcell⟩
      · have HF := Lib.hid (refAt_first hl)
        clear hl
        go_wp2_with fail
        go_roundw
        case rel =>
          exact ⟨1, by omega, by go_num, by simp, HF.out⟩
        case measure => simp [intOf]
      · have hb := hl.2
        have HB := Lib.hid hb
        have hsz := hb.size
        have hlit := World.ownsRow_lit (base := w.heap.size) (e := 5) (size := 1) wr #[.int .u8 (n / 256 ^ j % 256)] 1 hb.size (by unfold maxLen; omega) rfl
        have HC := Lib.hid hcell
        clear hcell hl hb
        go_wp2_with (at_builtin; refine wpList_append_own _ rfl _ _ 69 rfl w.heap.size 5 i0 (.int .u8 0) 1 1 Try.underlying69 hi hz0 hz1 hz2 rfl (by decide) _ 1 _ rfl hlit ⟨g, 0, none⟩ j cap ((beI j n).map (Value.int .u8)) rfl (by simp [beI_len]) (cells_past HC.out hg2 _) (ints_oneCell _ _) (by unfold maxLen; omega) (by omega) (by simp; omega) ?_)
        intro v1 w1 hown hgr hnn
        have R := Lib.hid (refAt_next HB.out hown hgr)
        clear hown hgr hnn hlit
        go_wp2_with fail
        go_roundw
        case rel => exact ⟨j + 1, by omega, by go_num, by rw [div_next], R.out⟩
        case measure => simp [intOf]; omega
    · obtain rfl : j = 8 := by omega
      rcases refAt_cases hl with ⟨_, h0⟩ | ⟨g, cap, rfl, hg1, hg2, hcell⟩
      · omega
      have hcv := run_convert_bytes_arg (P := Try.prog) wr 69 5 Try.underlying69 Try.underlying5 g 0 8 cap (beI 8 n) (beI_len 8 n) hcell 9 Try.underlying9
      have HB := Lib.hid hl.2
      clear hl hcell
      go_wp2_with fail
      go_ret
      exact ⟨rfl, HB.out⟩

theorem lay_u64_8 (n : Int) (w : World) :
    Calls Try.prog 58 #[.int .u64 n, .int .i64 8] w fun e w' => e = .returned (.string (strOfNums (beI 8 n))) ∧ Below w.heap.size w w' := lay_u64 n 8 (by omega) w
theorem lay_int_8 (n : Int) (w : World) :
    Calls Try.prog 57 #[.int .i64 n, .int .i64 8] w fun e w' => e = .returned (.string (strOfNums (beI 8 (flip63 n)))) ∧ Below w.heap.size w w' := lay_int n 8 (by omega) w

theorem packU (n : Int) (w : World) :
    Calls Try.prog 34 #[.int .u64 n] w fun e w' => e = .returned (.string (strOfNums (beI 8 n))) ∧ Below w.heap.size w w' := by
  go_enter Try.func34, Try.ntmps34
  go_wp2_with (go_at_call 58; refine (lay_u64_8 _ _).mono ?_; rintro e w' ⟨rfl, hb⟩)
  go_ret
  exact ⟨rfl, hb⟩
theorem packI (n : Int) (w : World) :
    Calls Try.prog 33 #[.int .i64 n] w fun e w' => e = .returned (.string (strOfNums (beI 8 (flip63 n)))) ∧ Below w.heap.size w w' := by
  go_enter Try.func33, Try.ntmps33
  go_wp2_with (go_at_call 57; refine (lay_int_8 _ _).mono ?_; rintro e w' ⟨rfl, hb⟩)
  go_ret
  exact ⟨rfl, hb⟩
theorem refI (n : Int) (w : World) :
    Calls Try.prog 37 #[.int .i64 n] w fun e w' => e = .returned (.string (strOfNums (beI 8 (flip63 n)))) ∧ Below w.heap.size w w' := by
  have h := refU (flip63 n) (flip63_lo n) (flip63_hi n)
  unfold flip63 at h
  have H := Lib.hid h
  clear h
  go_enter Try.func37, Try.ntmps37
  go_wp2_with (go_at_call 61; refine (H.out _).mono ?_; rintro e w' ⟨rfl, hb⟩)
  go_ret
  exact ⟨rfl, hb⟩

end Go.Proofs.Ytdmlmjmdpmmcgaa
