/- The contracts of the small functions that Check asks. -/
import Derived.Test.YtemhbcjpgapjkaaModelMem
import Derived.Test.YtemhbcjpgapjkaaFloatBits
namespace Go.Proofs.Ytemhbcjpgapjkaa
open Go.RowKit
set_option linter.unusedVariables false

theorem isNaN_any (x : Nat) (w : World) :
    Calls Try.prog 40 #[.float .f64 x] w fun e w' => e = .returned (.bool (!numF x)) ∧ w = w' := by
  have E : Hid ((FloatKind.f64.format.order x x == some .eq) = numF x) := by have := ord_eq x x; simpa [Hid, numF] using this
  go_enter Try.func40, Try.ntmps40
  go_wp2_with fail
  go_ret
  exact ⟨by rw [← E.out]; rfl, rfl⟩

theorem delayMayBe_any (x : Nat) (w : World) :
    Calls Try.prog 42 #[.float .f64 x] w fun e w' => e = .returned (.bool (posF x)) ∧ w = w' := by
  have E : Hid ((FloatKind.f64.format.order x 0 == some .gt) = posF x) := by have := ord_gt x 0; simpa [Hid, posF, isNum_zero, ford_zero] using this
  go_enter Try.func42, Try.ntmps42
  go_wp2_with fail
  go_ret
  exact ⟨by rw [← E.out]; rfl, rfl⟩

theorem isFrom1To_any (most n : Nat) (w : World) :
    Calls Try.prog 72 #[.int .i64 most, .int .i64 n] w fun e w' => e = .returned (.bool (from1 most n)) ∧ w = w' := by
  have E : Hid (∀ b, (decide (1 ≤ n) && decide (n ≤ most)) = b → from1 most n = b) := fun b h => h
  generalize from1 most n = r at E ⊢
  go_enter Try.func72, Try.ntmps72
  go_wp2_with fail
  all_goals
    go_ret
    refine ⟨?_, rfl⟩
    rw [E.out _ rfl]
    simp [*]
    try omega

theorem isOneOf_any (count : Nat) (n : Int) (w : World) :
    Calls Try.prog 76 #[.int .i64 count, .int .i64 n] w fun e w' => e = .returned (.bool (oneOf count n)) ∧ w = w' := by
  have E : Hid (∀ b, (decide (0 ≤ n) && decide (n < count)) = b → oneOf count n = b) := fun b h => h
  generalize oneOf count n = r at E ⊢
  go_enter Try.func76, Try.ntmps76
  go_wp2_with fail
  all_goals
    go_ret
    refine ⟨?_, rfl⟩
    rw [E.out _ rfl]
    simp [*]
    try omega

theorem processMayBe_box (n : Nat) (w : World) :
    Calls Try.prog 46 #[.int .i64 n] w fun e w' => ∃ q, e = .returned (.func (.func 75) #[] #[.pointer (some ⟨q, 0, none⟩)]) ∧ BoxI n q w' ∧ Below w.heap.size w w' := by
  have hmf : ∀ (fn : Fn) (first cap : Array Value) (w : World), (Instr.makeFunc fn first cap).run Try.prog w = .ok (.func fn first cap) w := fun _ _ _ _ => rfl
  have hh := heap_alloc_new w (.cells #[.int .i64 n] 3)
  have HQ := Lib.hid (show BoxI n w.heap.size _ from ⟨by rw [Lib.cell_of_heap hh]; rfl, lt_of_block hh⟩)
  clear hh
  go_enter Try.func46, Try.ntmps46
  go_wp2_with fail
  go_ret
  exact ⟨_, rfl, HQ.out, balloc _ _⟩
theorem eventMayBe_box (n : Nat) (w : World) :
    Calls Try.prog 48 #[.int .i64 n] w fun e w' => ∃ q, e = .returned (.func (.func 77) #[] #[.pointer (some ⟨q, 0, none⟩)]) ∧ BoxI n q w' ∧ Below w.heap.size w w' := by
  have hmf : ∀ (fn : Fn) (first cap : Array Value) (w : World), (Instr.makeFunc fn first cap).run Try.prog w = .ok (.func fn first cap) w := fun _ _ _ _ => rfl
  have hh := heap_alloc_new w (.cells #[.int .i64 n] 3)
  have HQ := Lib.hid (show BoxI n w.heap.size _ from ⟨by rw [Lib.cell_of_heap hh]; rfl, lt_of_block hh⟩)
  clear hh
  go_enter Try.func48, Try.ntmps48
  go_wp2_with fail
  go_ret
  exact ⟨_, rfl, HQ.out, balloc _ _⟩

theorem processOne_any (np : Nat) (p : Int) (a : Option Addr) (n cap : Nat) (q : Nat) (w : World) (hq : BoxI np q w) :
    Calls Try.prog 75 #[.agg #[.int .i64 p, .slice a n cap], .pointer (some ⟨q, 0, none⟩)] w fun e w' => e = .returned (.bool (lpB np p n)) ∧ Below w.heap.size w w' := by
  have HO := Lib.hid (isOneOf_any np p)
  obtain ⟨c, hlt⟩ := hq
  have c2 : (w.alloc (.cells #[.int .i64 p, .slice a n cap] 43)).cell? ⟨q, 0, none⟩ = some (.int .i64 np) := by rw [World.cell?_alloc_lt _ _ _ hlt]; exact c
  have HB := Lib.hid (balloc w (.cells #[.int .i64 p, .slice a n cap] 43))
  have E : Hid (lpB np p n = (oneOf np p && decide (n ≤ 8))) := rfl
  generalize oneOf np p = r at *
  generalize lpB np p n = s at *
  clear c
  go_enter Try.func75, Try.ntmps75
  go_wp2_with (go_at_call 76; refine (HO.out _).mono ?_; rintro e w' ⟨rfl, rfl⟩)
  all_goals
    go_ret
    refine ⟨?_, HB.out⟩
    rw [E.out]
    simp_all
    try omega
theorem eventOne_any (nl : Nat) (x : Ev) (q : Nat) (w : World) (hq : BoxI nl q w) :
    Calls Try.prog 77 #[.agg #[.float .f64 x.t, .int .i64 x.dst, .int .i64 x.pay], .pointer (some ⟨q, 0, none⟩)] w fun e w' => e = .returned (.bool (evB nl x)) ∧ Below w.heap.size w w' := by
  have HO := Lib.hid (isOneOf_any nl x.dst)
  have HN := Lib.hid (isNaN_any x.t)
  obtain ⟨c, hlt⟩ := hq
  have c2 : (w.alloc (.cells #[.float .f64 x.t, .int .i64 x.dst, .int .i64 x.pay] 55)).cell? ⟨q, 0, none⟩ = some (.int .i64 nl) := by rw [World.cell?_alloc_lt _ _ _ hlt]; exact c
  have HB := Lib.hid (balloc w (.cells #[.float .f64 x.t, .int .i64 x.dst, .int .i64 x.pay] 55))
  have E : Hid (evB nl x = (numF x.t && oneOf nl x.dst)) := rfl
  generalize oneOf nl x.dst = r at *
  generalize numF x.t = k at *
  generalize evB nl x = s at *
  obtain ⟨t, dst, pay⟩ := x
  dsimp only at *
  clear c
  go_enter Try.func77, Try.ntmps77
  cases k
  all_goals
    go_wp2_with (first
      | (go_at_call 76; refine (HO.out _).mono ?_; rintro e w' ⟨rfl, rfl⟩)
      | (go_at_call 40; refine (HN.out _).mono ?_; rintro e w' ⟨rfl, rfl⟩))
    go_ret
    refine ⟨?_, HB.out⟩
    rw [E.out]
    simp

end Go.Proofs.Ytemhbcjpgapjkaa
