/- The contracts of horologeref01.U, I and Two, and of pack.U and pack.I: the very bytes. -/
import Derived.Laws.AppendOwnNone
import Derived.Test.YtaaagmcdbmppmaaYPackLay
namespace Go.Proofs.Ytaaagmcdbmppmaa
open Go.RowKit
set_option maxRecDepth 100000

/-- what is gathered after j rounds -/
def RefAt (w wr : World) (v : Value) (j : Nat) (n : Int) : Prop :=
  wr.ownsRow w.heap.size 5 1 v j ((beI j n).map (Value.int .u8)) ∧ Below w.heap.size w wr

theorem refAt_start (w : World) (n : Int) : RefAt w w (.slice none 0 0) 0 n := ⟨World.ownsRow_nil _ _ _ _, Below.refl _ _⟩

theorem refAt_cases {w wr : World} {v : Value} {j : Nat} {n : Int} (h : RefAt w wr v j n) :
    (v = .slice none 0 0 ∧ j = 0) ∨ ∃ g cap, v = .slice (some ⟨g, 0, none⟩) j cap ∧ w.heap.size ≤ g ∧ g < wr.heap.size ∧ ∀ i, i < j → wr.cell? ⟨g, 0 + i, none⟩ = some (.int .u8 ((beI j n).getD i 0)) := by
  obtain ⟨h1, h2⟩ := h
  rcases h1.2 with ⟨rfl, rfl⟩ | ⟨g, cap, cur, rfl, hb, hg, _⟩
  · exact .inl ⟨rfl, rfl⟩
  · refine .inr ⟨g, cap, rfl, hb, (Array.getElem?_eq_some_iff.1 hg).1, fun i hi => ?_⟩
    have := h1.cellAt i (by omega)
    rw [Nat.zero_add, this]
    have hl := beI_len j n
    simp [List.getElem?_eq_getElem (show i < (beI j n).length by omega)]

theorem refAt_first {w wr : World} {n : Int} (h : RefAt w wr (.slice none 0 0) 0 n) :
    RefAt w (wr.alloc (.cells #[.int .u8 (n % 256)] 5)) (.slice (some ⟨wr.heap.size, 0, none⟩) 1 1) 1 n := by
  obtain ⟨h1, h2⟩ := h
  refine ⟨?_, h2.alloc h2.size _⟩
  have := World.ownsRow_lit (base := w.heap.size) (e := 5) (size := 1) wr #[.int .u8 (n % 256)] 1 h2.size (by unfold maxLen; omega) rfl
  simpa [beI] using this

theorem refAt_next {w wr w' : World} {v : Value} {j : Nat} {n : Int} (hb : Below w.heap.size w wr)
    (hown : w'.ownsRow w.heap.size 5 1 v (1 + j) ([.int .u8 (n / 256 ^ j % 256)] ++ (beI j n).map (Value.int .u8)))
    (hg : (wr.alloc (.cells #[.int .u8 (n / 256 ^ j % 256)] 5)).grownBy w' (some wr.heap.size)) : RefAt w w' v (j + 1) n := by
  refine ⟨?_, (hb.alloc hb.size _).grown hg (by have := hb.size; simp; omega) (by intro k hk; simp at hk; subst hk; exact hb.size)⟩
  rw [Nat.add_comm 1 j] at hown
  exact hown

theorem cells_past {wr : World} {g j : Nat} {l : List Int} (h : ∀ i, i < j → wr.cell? ⟨g, 0 + i, none⟩ = some (.int .u8 (l.getD i 0))) (hg : g < wr.heap.size) (o : Obj) (hl : l.length = j := by exact beI_len _ _) :
    ∀ i u, (l.map (Value.int .u8))[i]? = some u → (wr.alloc o).cell? ((⟨g, 0, none⟩ : Addr).add i) = some u := by
  intro i u hu
  have hi : i < j := by
    rcases Nat.lt_or_ge i j with h | h
    · exact h
    · rw [List.getElem?_eq_none (by simp; omega)] at hu; cases hu
  have e : (⟨g, 0, none⟩ : Addr).add i = ⟨g, 0 + i, none⟩ := by unfold Addr.add; split <;> simp_all
  rw [e]
  have := (Below.refl wr.heap.size wr).alloc (Nat.le_refl _) o
  rw [this.cell (p := ⟨g, 0 + i, none⟩) hg, h i hi]
  rw [List.getElem?_map, List.getElem?_eq_getElem (by omega)] at hu
  simp at hu
  subst hu
  simp [List.getD, List.getElem?_eq_getElem (show i < l.length by omega)]


theorem lay_u64_8 (n : Int) (w : World) :
    Calls Try.prog 53 #[.int .u64 n, .int .i64 8] w fun e w' => e = .returned (.string (strOfNums (beI 8 n))) ∧ Below w.heap.size w w' := lay_u64 n 8 (by omega) w
theorem lay_int_8 (n : Int) (w : World) :
    Calls Try.prog 35 #[.int .i64 n, .int .i64 8] w fun e w' => e = .returned (.string (strOfNums (beI 8 (flip63 n)))) ∧ Below w.heap.size w w' := lay_int n 8 (by omega) w

theorem packU (n : Int) (w : World) :
    Calls Try.prog 42 #[.int .u64 n] w fun e w' => e = .returned (.string (strOfNums (beI 8 n))) ∧ Below w.heap.size w w' := by
  go_enter Try.func42, Try.ntmps42
  go_wp2_with (go_at_call 53; refine (lay_u64_8 _ _).mono ?_; rintro e w' ⟨rfl, hb⟩)
  go_ret
  exact ⟨rfl, hb⟩
theorem packI (n : Int) (w : World) :
    Calls Try.prog 22 #[.int .i64 n] w fun e w' => e = .returned (.string (strOfNums (beI 8 (flip63 n)))) ∧ Below w.heap.size w w' := by
  go_enter Try.func22, Try.ntmps22
  go_wp2_with (go_at_call 35; refine (lay_int_8 _ _).mono ?_; rintro e w' ⟨rfl, hb⟩)
  go_ret
  exact ⟨rfl, hb⟩

end Go.Proofs.Ytaaagmcdbmppmaa
