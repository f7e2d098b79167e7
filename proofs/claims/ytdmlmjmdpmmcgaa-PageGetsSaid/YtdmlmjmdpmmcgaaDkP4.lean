/- The contracts of the program's chooser and Crash. -/
import Derived.Test.YtdmlmjmdpmmcgaaDkP3
namespace Go.Proofs.Ytdmlmjmdpmmcgaa
open Go.RowKit Go.Deep Go.Maps
set_option linter.unusedVariables false
set_option linter.unusedSimpArgs false
set_option maxRecDepth 100000

variable {base P bS bm cS : Nat} {d : Dk} {u : World}
/-- what a crash says: a slice of bools that lies below base, and two numbers -/
structure CrA (base : Nat) (keep : List Bool) (t b : Int) (v : Value) (u : World) : Prop where
  k : ∃ ao cap, v = .slice ao keep.length cap ∧ keep.length ≤ cap ∧ cap ≤ 9223372036854775807 ∧ (0 < keep.length → ∃ B o, ao = some ⟨B, o, none⟩ ∧ B < base ∧ ∀ i, i < keep.length → u.cell? ⟨B, o + i, none⟩ = some (.bool (keep.getD i false)))
  t : -9223372036854775808 ≤ t ∧ t ≤ 9223372036854775807
  b : -9223372036854775808 ≤ b ∧ b ≤ 9223372036854775807
theorem CrA.below {base : Nat} {keep : List Bool} {t b : Int} {v : Value} {u u2 : World} (h : CrA base keep t b v u) (k : Below base u u2) : CrA base keep t b v u2 := by
  obtain ⟨ao, cap, e, h1, h2, h3⟩ := h.k
  exact ⟨⟨ao, cap, e, h1, h2, fun hp => by
    obtain ⟨B, o, e2, hB, hc⟩ := h3 hp
    exact ⟨B, o, e2, hB, fun i hi => by rw [World.cell?_of_block (k.block B hB)]; exact hc i hi⟩⟩, h.t, h.b⟩
/-- how many bytes of the torn one stay -/
def tornB (b : Int) : Int := if 0 < b then b % 65 else 0
/-- the function that tells how many bytes stay -/
def fvC (B1 B2 : Nat) : Value := .func (.func 66) #[] #[.pointer (some ⟨B1, 0, none⟩), .pointer (some ⟨B2, 0, none⟩)]
structure ChA (base : Nat) (keep : List Bool) (t b : Int) (v : Value) (B1 B2 : Nat) (u : World) : Prop where
  a : CrA base keep t b v u
  x : u.heap[B1]? = some (.cells #[v, .int .i64 t, .int .i64 b] 44 (0, 0))
  y : u.heap[B2]? = some (.cells #[.int .i64 (tornB b)] 3 (0, 0))
theorem ChA.kept {base : Nat} {keep : List Bool} {t b : Int} {v : Value} {B1 B2 : Nat} {u u2 : World} (h : ChA base keep t b v B1 B2 u) (k : Below base u u2) (k1 : u2.heap[B1]? = u.heap[B1]?) (k2 : u2.heap[B2]? = u.heap[B2]?) : ChA base keep t b v B1 B2 u2 :=
  ⟨h.a.below k, k1.trans h.x, k2.trans h.y⟩
set_option maxHeartbeats 800000 in
theorem chooser_any {keep : List Bool} {t b : Int} {v : Value} {u : World} (h : CrA base keep t b v u) (hbase : base ≤ u.heap.size) : Calls Try.prog 52 #[.agg #[v, .int .i64 t, .int .i64 b]] u fun r u' => ∃ B1 B2, r = .returned (fvC B1 B2) ∧ u.heap.size ≤ B1 ∧ u.heap.size ≤ B2 ∧ ChA base keep t b v B1 B2 u' ∧ Below u.heap.size u u' := by
  have hmf : ∀ (fn : Fn) (first cap : Array Value) (w : World), (Instr.makeFunc fn first cap).run Try.prog w = .ok (.func fn first cap) w := fun _ _ _ _ => rfl
  have H := Lib.hid h
  obtain ⟨ht1, ht2⟩ := h.t
  obtain ⟨hb1, hb2⟩ := h.b
  clear h
  go_enter Try.func52, Try.ntmps52
  have X1 := Lib.hid (heap_alloc_new u (.cells #[v, .int .i64 t, .int .i64 b] 44))
  have B1 := Lib.hid (balloc u (.cells #[v, .int .i64 t, .int .i64 b] 44))
  have S1 : Hid ((u.alloc (.cells #[v, .int .i64 t, .int .i64 b] 44)).heap.size = u.heap.size + 1) := Lib.hid (World.size_alloc _ _)
  have X2 := Lib.hid (heap_alloc_new (u.alloc (.cells #[v, .int .i64 t, .int .i64 b] 44)) (.cells #[.int .i64 (tornB b)] 3))
  have B2 := Lib.hid (balloc (u.alloc (.cells #[v, .int .i64 t, .int .i64 b] 44)) (.cells #[.int .i64 (tornB b)] 3))
  have F : ∀ q : Int, q = tornB b → Hid (∃ B1 B2, Ending.returned (Value.func (.func 66) #[] #[.pointer (some ⟨u.heap.size, 0, none⟩), .pointer (some ⟨u.heap.size + 1, 0, none⟩)]) = Ending.returned (fvC B1 B2) ∧ u.heap.size ≤ B1 ∧ u.heap.size ≤ B2 ∧ ChA base keep t b v B1 B2 ((u.alloc (.cells #[v, .int .i64 t, .int .i64 b] 44)).alloc (.cells #[.int .i64 q] 3)) ∧ Below u.heap.size u ((u.alloc (.cells #[v, .int .i64 t, .int .i64 b] 44)).alloc (.cells #[.int .i64 q] 3))) := by
    rintro q rfl
    have X2' := X2.out
    have B2' := B2.out
    rw [S1.out] at X2' B2'
    refine Lib.hid ⟨_, _, rfl, Nat.le_refl _, by omega, ⟨(H.out.below (B1.out.mono hbase)).below (B2.out.mono (Nat.le_trans hbase B1.out.size)), ?_, X2'⟩, B1.out.trans (B2.out.mono B1.out.size)⟩
    rw [B2'.block _ (by omega)]; exact X1.out
  have F := Lib.hid F
  by_cases hb : 0 < b
  · have E := Lib.hid (show b % 65 = tornB b by simp [tornB, hb])
    go_wp2_with fail
    all_goals (go_ret; exact (F.out _ E.out).out)
  · have E := Lib.hid (show 0 = tornB b by simp [tornB, hb])
    go_wp2_with fail
    all_goals (go_ret; first | exact (F.out _ E.out).out | exact (F.out _ (by unfold tornB; split <;> omega)).out)

theorem chose_any {keep : List Bool} {t b : Int} {v : Value} {B1 B2 : Nat} {u : World} (h : ChA base keep t b v B1 B2 u) (j : Nat) (hj : j ≤ 1000000) : Calls Try.prog 66 #[.int .i64 (j : Int), .pointer (some ⟨B1, 0, none⟩), .pointer (some ⟨B2, 0, none⟩)] u fun r u' => r = .returned (.int .i64 (keepN keep t b j : Int)) ∧ u' = u := by
  have x0 : u.cell? ⟨B1, 0, none⟩ = some v := by rw [Lib.cell_of_heap h.x]; rfl
  have x1 : u.cell? ⟨B1, 1, none⟩ = some (.int .i64 t) := by rw [Lib.cell_of_heap h.x]; rfl
  have y0 : u.cell? ⟨B2, 0, none⟩ = some (.int .i64 (tornB b)) := by rw [Lib.cell_of_heap h.y]; rfl
  obtain ⟨ao, cap, rfl, h1, h2, h3⟩ := h.a.k
  have hj0 : (0 : Int) ≤ (j : Int) := by omega
  go_enter Try.func66, Try.ntmps66
  by_cases e : (j : Int) = t
  · have E : (keepN keep t b j : Int) = tornB b := by
      unfold keepN tornB
      rw [if_pos e]
      split <;> omega
    have d1 : ((j : Int) == t) = true := by simp [e]
    clear h h3 x0
    rw [E]
    go_wp2_with fail
    go_ret
    exact ⟨rfl, rfl⟩
  · have d1 : ((j : Int) == t) = false := by simp [e]
    by_cases hl : j < keep.length
    · have d2 : decide ((j : Int) < (keep.length : Int)) = true := by simp [hl]
      have hl2 : (j : Int) < (keep.length : Int) := by omega
      obtain ⟨B, o, rfl, hB, hc⟩ := h3 (by omega)
      have c := hc j hl
      cases hk : keep.getD j false with
      | true =>
        have E : (keepN keep t b j : Int) = 64 := by unfold keepN; rw [if_neg e, hk]; rfl
        rw [hk] at c
        clear h h3 hc y0
        rw [E]
        generalize keep.length = n at *
        go_wp2_with fail
        go_ret
        exact ⟨rfl, rfl⟩
      | false =>
        have E : (keepN keep t b j : Int) = 0 := by unfold keepN; rw [if_neg e, hk]; rfl
        rw [hk] at c
        clear h h3 hc y0
        rw [E]
        generalize keep.length = n at *
        go_wp2_with fail
        go_ret
        exact ⟨rfl, rfl⟩
    · have d2 : decide ((j : Int) < (keep.length : Int)) = false := by simp; omega
      have E : (keepN keep t b j : Int) = 0 := by
        unfold keepN
        rw [if_neg e, List.getD_eq_getElem?_getD, List.getElem?_eq_none (by omega)]; rfl
      clear h h3 y0
      rw [E]
      generalize keep.length = n at *
      go_wp2_with fail
      go_ret
      exact ⟨rfl, rfl⟩

end Go.Proofs.Ytdmlmjmdpmmcgaa
