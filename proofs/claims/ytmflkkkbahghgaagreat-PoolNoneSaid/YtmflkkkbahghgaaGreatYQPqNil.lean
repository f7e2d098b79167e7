/- No pool: what its methods answer. -/
import Derived.Test.YtmflkkkbahghgaaGreatYZ22
import Derived.Test.YtmflkkkbahghgaaGreatYQShNil
namespace Go.Proofs.YtmflkkkbahghgaaGreat
open Go.RowKit Go.Deep
set_option linter.unusedVariables false
set_option linter.unusedSimpArgs false
set_option maxRecDepth 100000

theorem qnfirst (N : Nat) (caps : Array Value) (u : World) : Calls Tryz.prog 48 #[.pointer none, .func (.func N) #[] caps] u fun r u' => r = .returned (.pointer none) ∧ u' = u := by
  have H := Lib.hid (qall_nil u)
  go_enter Tryz.func48, Tryz.ntmps48
  go_wp2_with fail
  refine (H.out).mono ?_
  rintro r w1 ⟨rfl, hw⟩
  subst hw
  go_wp2_with fail
  go_loopw [11] (fun i wr => i = .int .i64 0 ∧ wr = w1) (fun i _ => 0)
  case atStart => exact ⟨rfl, rfl⟩
  case round =>
    obtain ⟨rfl, hw⟩ := hrel
    subst hw
    go_wp2_with fail
    go_ret
    exact ⟨rfl, rfl⟩
theorem qnmany (N : Nat) (caps : Array Value) (u : World) : Calls Tryz.prog 56 #[.pointer none, .func (.func N) #[] caps] u fun r u' => r = .returned (.int .i64 0) ∧ u' = u := by
  have H := Lib.hid (qall_nil u)
  go_enter Tryz.func56, Tryz.ntmps56
  go_wp2_with fail
  refine (H.out).mono ?_
  rintro r w1 ⟨rfl, hw⟩
  subst hw
  go_wp2_with fail
  go_loopw [5, 12] (fun m i wr => m = .int .i64 0 ∧ i = .int .i64 0 ∧ wr = w1) (fun _ i _ => 0)
  case atStart => exact ⟨rfl, rfl, rfl⟩
  case round =>
    obtain ⟨rfl, rfl, hw⟩ := hrel
    subst hw
    go_wp2_with fail
    go_ret
    exact ⟨rfl, rfl⟩
theorem qnof (l : Int) (u : World) : Calls Tryz.prog 70 #[.pointer none, .int .i64 l] u fun r u' => r = .returned (.pointer none) ∧ Below u.heap.size u u' := by
  have hmf : ∀ (fn : Fn) (first cap : Array Value) (w : World), (Instr.makeFunc fn first cap).run Tryz.prog w = .ok (.func fn first cap) w := fun _ _ _ _ => rfl
  have B1 := Lib.hid (balloc u (.cells #[.int .i64 l] 3))
  have H := Lib.hid (qnfirst 118 #[.pointer (some ⟨u.heap.size, 0, none⟩)] (u.alloc (.cells #[.int .i64 l] 3)))
  go_enter Tryz.func70, Tryz.ntmps70
  go_wp2_with fail
  refine (H.out).mono ?_
  rintro r w1 ⟨rfl, rfl⟩
  go_wp2_with fail
  go_ret
  exact ⟨rfl, B1.out⟩
theorem qnhold (l : Int) (u : World) : Calls Tryz.prog 58 #[.pointer none, .int .i64 l] u fun r u' => r = .returned (.tuple #[.pointer none, .int .i64 1]) ∧ Below u.heap.size u u' := by
  go_enter Tryz.func58, Tryz.ntmps58
  go_wp2_with fail
  go_ret2
  exact ⟨rfl, Below.refl _ _⟩
theorem qnpinned (l : Int) (u : World) : Calls Tryz.prog 69 #[.pointer none, .int .i64 l] u fun r u' => r = .returned (.tuple #[.pointer none, .int .i64 1]) ∧ Below u.heap.size u u' := by
  go_enter Tryz.func69, Tryz.ntmps69
  go_wp2_with fail
  go_ret2
  exact ⟨rfl, Below.refl _ _⟩
theorem qntakes (s : ByteArray) (u : World) : Calls Tryz.prog 40 #[.pointer none, .string s] u fun r u' => r = .returned (.int .i64 1) ∧ Below u.heap.size u u' := by
  go_enter Tryz.func40, Tryz.ntmps40
  go_wp2_with fail
  go_ret
  exact ⟨rfl, Below.refl _ _⟩
theorem qnStore (u : World) : Calls Tryz.prog 28 #[.pointer none] u fun r u' => r = .returned (.pointer none) ∧ Below u.heap.size u u' := by
  go_enter Tryz.func28, Tryz.ntmps28
  go_wp2_with fail
  go_ret
  exact ⟨rfl, Below.refl _ _⟩
theorem qnEvict (l : Int) (u : World) : Calls Tryz.prog 27 #[.pointer none, .int .i64 l] u fun r u' => r = .returned (.int .i64 1) ∧ Below u.heap.size u u' := by
  go_enter Tryz.func27, Tryz.ntmps27
  go_wp2_with fail
  go_ret
  exact ⟨rfl, Below.refl _ _⟩
theorem qnCommit (u : World) : Calls Tryz.prog 15 #[.pointer none] u fun r u' => r = .returned (.int .i64 1) ∧ Below u.heap.size u u' := by
  go_enter Tryz.func15, Tryz.ntmps15
  go_wp2_with fail
  go_ret
  exact ⟨rfl, Below.refl _ _⟩
theorem qnAbort (u : World) : Calls Tryz.prog 17 #[.pointer none] u fun r u' => r = .returned (.bool false) ∧ Below u.heap.size u u' := by
  go_enter Tryz.func17, Tryz.ntmps17
  go_wp2_with fail
  go_ret
  exact ⟨rfl, Below.refl _ _⟩
theorem qnHold (l : Int) (u : World) : Calls Tryz.prog 19 #[.pointer none, .int .i64 l] u fun r u' => r = .returned (.tuple #[.string ByteArray.empty, .int .i64 1]) ∧ Below u.heap.size u u' := by
  have H := Lib.hid (qnhold l u)
  go_enter Tryz.func19, Tryz.ntmps19
  go_wp2_with fail
  refine (H.out).mono ?_
  rintro r w1 ⟨rfl, hb⟩
  have B := Lib.hid hb
  clear hb
  go_wp2_with fail
  go_ret2
  exact ⟨rfl, B.out⟩
theorem qnLet (l : Int) (u : World) : Calls Tryz.prog 24 #[.pointer none, .int .i64 l] u fun r u' => r = .returned (.int .i64 1) ∧ Below u.heap.size u u' := by
  have H := Lib.hid (qnpinned l u)
  go_enter Tryz.func24, Tryz.ntmps24
  go_wp2_with fail
  refine (H.out).mono ?_
  rintro r w1 ⟨rfl, hb⟩
  have B := Lib.hid hb
  clear hb
  go_wp2_with fail
  go_ret
  exact ⟨rfl, B.out⟩
theorem qnSet (l : Int) (s : ByteArray) (u : World) : Calls Tryz.prog 25 #[.pointer none, .int .i64 l, .string s] u fun r u' => r = .returned (.int .i64 1) ∧ Below u.heap.size u u' := by
  have H := Lib.hid (qntakes s u)
  go_enter Tryz.func25, Tryz.ntmps25
  go_wp2_with fail
  refine (H.out).mono ?_
  rintro r w1 ⟨rfl, hb⟩
  have B := Lib.hid hb
  clear hb
  go_wp2_with fail
  go_ret
  exact ⟨rfl, B.out⟩
theorem qnwith (N : Nat) (caps : Array Value) (l : Int) (u : World) : Calls Tryz.prog 41 #[.pointer none, .int .i64 l, .func (.func N) #[] caps] u fun r u' => r = .returned (.int .i64 1) ∧ Below u.heap.size u u' := by
  have H := Lib.hid (qnhold l u)
  go_enter Tryz.func41, Tryz.ntmps41
  go_wp2_with fail
  refine (H.out).mono ?_
  rintro r w1 ⟨rfl, hb⟩
  have B := Lib.hid hb
  clear hb
  go_wp2_with fail
  go_ret
  exact ⟨rfl, B.out⟩
theorem qnGet (l : Int) (u : World) : Calls Tryz.prog 13 #[.pointer none, .int .i64 l] u fun r u' => r = .returned (.tuple #[.string ByteArray.empty, .int .i64 1]) ∧ Below u.heap.size u u' := by
  have hmf : ∀ (fn : Fn) (first cap : Array Value) (w : World), (Instr.makeFunc fn first cap).run Tryz.prog w = .ok (.func fn first cap) w := fun _ _ _ _ => rfl
  have B1 := Lib.hid (balloc u (.cells #[.string ⟨#[]⟩] 9))
  have X1 := Lib.hid (heap_alloc_new u (.cells #[.string ⟨#[]⟩] 9))
  have H := Lib.hid (qnwith 44 #[.pointer (some ⟨u.heap.size, 0, none⟩)] l (u.alloc (.cells #[.string ⟨#[]⟩] 9)))
  go_enter Tryz.func13, Tryz.ntmps13
  go_wp2_with fail
  refine (H.out).mono ?_
  rintro r w1 ⟨rfl, hb⟩
  have B := Lib.hid (bthen B1.out hb)
  have hx := (hb.block _ (lt_of_block X1.out)).trans X1.out
  have z0 : w1.cell? ⟨u.heap.size, 0, none⟩ = some (.string ⟨#[]⟩) := by rw [Lib.cell_of_heap hx]; rfl
  clear hb hx
  go_wp2_with fail
  go_ret2
  exact ⟨rfl, B.out⟩
theorem qnPut (l : Int) (s : ByteArray) (u : World) : Calls Tryz.prog 12 #[.pointer none, .int .i64 l, .string s] u fun r u' => r = .returned (.int .i64 1) ∧ Below u.heap.size u u' := by
  have B1 := Lib.hid (balloc u (.cells #[.string s] 9))
  have X1 := Lib.hid (heap_alloc_new u (.cells #[.string s] 9))
  have x0 : (u.alloc (.cells #[.string s] 9)).cell? ⟨u.heap.size, 0, none⟩ = some (.string s) := by rw [Lib.cell_of_heap X1.out]; rfl
  have H := Lib.hid (qntakes s (u.alloc (.cells #[.string s] 9)))
  generalize hbb : u.heap.size = b at *
  have HBB := Lib.hid hbb
  clear hbb
  go_enter Tryz.func12, Tryz.ntmps12
  go_upto_region 1 with fail
  rw [HBB.out]
  generalize u.alloc (.cells #[.string s] 9) = w0 at *
  go_wp2_with fail
  refine (H.out).mono ?_
  rintro r w1 ⟨rfl, hb⟩
  have B : Hid (Below b u w1) := Lib.hid (by
    have h := B1.out
    rw [← HBB.out] at h ⊢
    exact bthen h hb)
  clear hb
  go_wp2_with fail
  go_ret
  exact ⟨rfl, B.out⟩
theorem qnNew (s : ByteArray) (u : World) : Calls Tryz.prog 20 #[.pointer none, .string s] u fun r u' => r = .returned (.tuple #[.int .i64 0, .int .i64 1]) ∧ Below u.heap.size u u' := by
  have H := Lib.hid (qnStore u)
  have H2 := Lib.hid (fun w => snnew s w)
  go_enter Tryz.func20, Tryz.ntmps20
  go_wp2_with fail
  refine (H.out).mono ?_
  rintro r w1 ⟨rfl, hb⟩
  have B := Lib.hid hb
  clear hb
  go_wp2_with fail
  refine (H2.out _).mono ?_
  rintro r w2 ⟨rfl, hb⟩
  have B2 := Lib.hid (bthen B.out hb)
  clear hb
  go_wp2_with fail
  go_ret2
  exact ⟨rfl, B2.out⟩
theorem qnDrop (l : Int) (u : World) : Calls Tryz.prog 26 #[.pointer none, .int .i64 l] u fun r u' => r = .returned (.int .i64 1) ∧ Below u.heap.size u u' := by
  have H := Lib.hid (qnof l u)
  have H2 := Lib.hid (fun w => qnStore w)
  have H3 := Lib.hid (fun w => sndrop l w)
  go_enter Tryz.func26, Tryz.ntmps26
  go_wp2_with fail
  refine (H.out).mono ?_
  rintro r w1 ⟨rfl, hb⟩
  have B := Lib.hid hb
  clear hb
  go_wp2_with fail
  refine (H2.out _).mono ?_
  rintro r w2 ⟨rfl, hb⟩
  have B2 := Lib.hid (bthen B.out hb)
  clear hb
  go_wp2_with fail
  refine (H3.out _).mono ?_
  rintro r w3 ⟨rfl, hb⟩
  have B3 := Lib.hid (bthen B2.out hb)
  clear hb
  go_wp2_with fail
  go_ret
  exact ⟨rfl, B3.out⟩
theorem qnCount (u : World) : Calls Tryz.prog 18 #[.pointer none] u fun r u' => r = .returned (.tuple #[.int .i64 0, .int .i64 0, .int .i64 0]) ∧ Below u.heap.size u u' := by
  have HA := Lib.hid (qall_nil u)
  have H1 := Lib.hid (qnmany 57 #[] u)
  have H2 := Lib.hid (qnmany 49 #[] u)
  go_enter Tryz.func18, Tryz.ntmps18
  go_wp2_with fail
  refine (HA.out).mono ?_
  rintro r w1 ⟨rfl, hw⟩
  subst hw
  go_wp2_with fail
  refine (H1.out).mono ?_
  rintro r w1 ⟨rfl, hw⟩
  subst hw
  go_wp2_with fail
  refine (H2.out).mono ?_
  rintro r w1 ⟨rfl, hw⟩
  subst hw
  go_wp2_with fail
  go_ret3
  exact ⟨rfl, Below.refl _ _⟩
theorem qnPages (u : World) : Calls Tryz.prog 14 #[.pointer none] u fun r u' => (∃ a c, r = .returned (.slice a 0 c)) ∧ Below u.heap.size u u' := by
  have HA := Lib.hid (qall_nil u)
  have HS := Lib.hid (sort_any [] (w := u) (base := u.heap.size) (v := .slice none 0 0) ⟨rfl, .inl ⟨rfl, rfl⟩⟩ (by decide) (Nat.le_refl _))
  go_enter Tryz.func14, Tryz.ntmps14
  go_wp2_with fail
  refine (HA.out).mono ?_
  rintro r w1 ⟨rfl, hw⟩
  subst hw
  go_wp2_with fail
  go_loopw [3, 9] (fun v i wr => v = .slice none 0 0 ∧ i = .int .i64 0 ∧ wr = w1) (fun _ i _ => 0)
  case atStart => exact ⟨rfl, rfl, rfl⟩
  case round =>
    obtain ⟨rfl, rfl, hw⟩ := hrel
    subst hw
    go_wp2_with fail
    refine (HS.out).mono ?_
    rintro r w2 ⟨rfl, o2, b2⟩
    have B2 := Lib.hid b2
    clear o2 b2 HS
    go_wp2_with fail
    go_ret
    exact ⟨⟨_, _, rfl⟩, B2.out⟩
theorem qnew_nil (n : Int) (u : World) : Calls Tryz.prog 21 #[.pointer none, .int .i64 n] u fun r u' => r = .returned (.tuple #[.pointer none, .int .i64 1]) ∧ Below u.heap.size u u' := by
  go_enter Tryz.func21, Tryz.ntmps21
  go_wp2_with fail
  go_ret2
  exact ⟨rfl, Below.refl _ _⟩
theorem qnew_bad (P : Nat) (n : Int) (h : ¬ (1 ≤ n ∧ n ≤ 32)) (u : World) : Calls Tryz.prog 21 #[.pointer (some ⟨P, 0, none⟩), .int .i64 n] u fun r u' => r = .returned (.tuple #[.pointer none, .int .i64 2]) ∧ Below u.heap.size u u' := by
  by_cases h1 : n < 1
  · have d1 : decide (n < 1) = true := decide_eq_true h1
    clear h h1
    go_enter Tryz.func21, Tryz.ntmps21
    go_wp2_with fail
    go_ret2
    exact ⟨rfl, Below.refl _ _⟩
  · have d1 : decide (n < 1) = false := decide_eq_false h1
    have d2 : decide (32 < n) = true := decide_eq_true (by omega)
    clear h h1
    go_enter Tryz.func21, Tryz.ntmps21
    go_wp2_with fail
    go_ret2
    exact ⟨rfl, Below.refl _ _⟩
end Go.Proofs.YtmflkkkbahghgaaGreat
