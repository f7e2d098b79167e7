/- The walk of the law ActOrders, over whatever the program's Compare is known to answer. -/
import Derived.Test.YtplhkplfbcmbdaaYZ27
import Derived.Test.YtplhkplfbcmbdaaYZ3
namespace Go.Proofs.Ytplhkplfbcmbdaa
open Go.RowKit Go.Deep
set_option linter.unusedVariables false
set_option maxRecDepth 100000

set_option maxHeartbeats 6400000 in
theorem actOrders_core (HAW : Hid (∀ w, Calls Try.prog 10 #[] w fun e w' => e = .returned (.bool true) ∧ Below w.heap.size w w')) (HC : Hid CompareAny) (a b c : Evn) (w : World) :
    Calls Try.prog 6 #[eval8 a, eval8 b, eval8 c] w fun e w' => e = .returned (.bool true) ∧ Below w.heap.size w w' := by
  have ox := ordE_one a b
  have oy := ordE_one b c
  have oz := ordE_one a c
  have tr := ordE_tri a b c
  have HAB := Lib.hid (HC.out a b)
  have HBC := Lib.hid (HC.out b c)
  have HACC := Lib.hid (HC.out a c)
  have HAA := Lib.hid (HC.out a a)
  have HBA := Lib.hid (HC.out b a)
  have HRR := Lib.hid (refCompare8_ord a b)
  rw [ordE_self] at HAA
  rw [ordE_turn] at HBA
  unfold eval8 at HAB HBC HACC HAA HBA HRR ⊢
  generalize ordE a b = x at *
  generalize ordE b c = y at *
  generalize ordE a c = z at *
  clear HC
  have X1 : (((w.alloc (.cells #[.float .f64 a.t, .int .i64 a.src, .int .i64 a.n, .int .i64 a.dst, .int .i64 a.pay] 49)).alloc (.cells #[.float .f64 b.t, .int .i64 b.src, .int .i64 b.n, .int .i64 b.dst, .int .i64 b.pay] 49)).alloc (.cells #[.float .f64 c.t, .int .i64 c.src, .int .i64 c.n, .int .i64 c.dst, .int .i64 c.pay] 49)).heap[w.heap.size]? = some (.cells #[.float .f64 a.t, .int .i64 a.src, .int .i64 a.n, .int .i64 a.dst, .int .i64 a.pay] 49) := (Below.heap_alloc _ _ _ (by rw [World.size_alloc, World.size_alloc]; omega)).trans ((Below.heap_alloc _ _ _ (by rw [World.size_alloc]; omega)).trans (heap_alloc_new w _))
  have X2 : (((w.alloc (.cells #[.float .f64 a.t, .int .i64 a.src, .int .i64 a.n, .int .i64 a.dst, .int .i64 a.pay] 49)).alloc (.cells #[.float .f64 b.t, .int .i64 b.src, .int .i64 b.n, .int .i64 b.dst, .int .i64 b.pay] 49)).alloc (.cells #[.float .f64 c.t, .int .i64 c.src, .int .i64 c.n, .int .i64 c.dst, .int .i64 c.pay] 49)).heap[w.heap.size + 1]? = some (.cells #[.float .f64 b.t, .int .i64 b.src, .int .i64 b.n, .int .i64 b.dst, .int .i64 b.pay] 49) := by
    have := heap_alloc_new (w.alloc (.cells #[.float .f64 a.t, .int .i64 a.src, .int .i64 a.n, .int .i64 a.dst, .int .i64 a.pay] 49)) (.cells #[.float .f64 b.t, .int .i64 b.src, .int .i64 b.n, .int .i64 b.dst, .int .i64 b.pay] 49)
    rw [World.size_alloc] at this
    exact (Below.heap_alloc _ _ _ (by rw [World.size_alloc, World.size_alloc]; omega)).trans this
  have X3 : (((w.alloc (.cells #[.float .f64 a.t, .int .i64 a.src, .int .i64 a.n, .int .i64 a.dst, .int .i64 a.pay] 49)).alloc (.cells #[.float .f64 b.t, .int .i64 b.src, .int .i64 b.n, .int .i64 b.dst, .int .i64 b.pay] 49)).alloc (.cells #[.float .f64 c.t, .int .i64 c.src, .int .i64 c.n, .int .i64 c.dst, .int .i64 c.pay] 49)).heap[w.heap.size + 2]? = some (.cells #[.float .f64 c.t, .int .i64 c.src, .int .i64 c.n, .int .i64 c.dst, .int .i64 c.pay] 49) := by
    have := heap_alloc_new ((w.alloc (.cells #[.float .f64 a.t, .int .i64 a.src, .int .i64 a.n, .int .i64 a.dst, .int .i64 a.pay] 49)).alloc (.cells #[.float .f64 b.t, .int .i64 b.src, .int .i64 b.n, .int .i64 b.dst, .int .i64 b.pay] 49)) (.cells #[.float .f64 c.t, .int .i64 c.src, .int .i64 c.n, .int .i64 c.dst, .int .i64 c.pay] 49)
    rwa [World.size_alloc, World.size_alloc] at this
  have B1 := Lib.hid (bthen (bthen (balloc w (.cells #[.float .f64 a.t, .int .i64 a.src, .int .i64 a.n, .int .i64 a.dst, .int .i64 a.pay] 49)) (balloc _ (.cells #[.float .f64 b.t, .int .i64 b.src, .int .i64 b.n, .int .i64 b.dst, .int .i64 b.pay] 49))) (balloc _ (.cells #[.float .f64 c.t, .int .i64 c.src, .int .i64 c.n, .int .i64 c.dst, .int .i64 c.pay] 49)))
  have KX : Hid (∀ u2, Below (((w.alloc (.cells #[.float .f64 a.t, .int .i64 a.src, .int .i64 a.n, .int .i64 a.dst, .int .i64 a.pay] 49)).alloc (.cells #[.float .f64 b.t, .int .i64 b.src, .int .i64 b.n, .int .i64 b.dst, .int .i64 b.pay] 49)).alloc (.cells #[.float .f64 c.t, .int .i64 c.src, .int .i64 c.n, .int .i64 c.dst, .int .i64 c.pay] 49)).heap.size (((w.alloc (.cells #[.float .f64 a.t, .int .i64 a.src, .int .i64 a.n, .int .i64 a.dst, .int .i64 a.pay] 49)).alloc (.cells #[.float .f64 b.t, .int .i64 b.src, .int .i64 b.n, .int .i64 b.dst, .int .i64 b.pay] 49)).alloc (.cells #[.float .f64 c.t, .int .i64 c.src, .int .i64 c.n, .int .i64 c.dst, .int .i64 c.pay] 49)) u2 → u2.cell? ⟨w.heap.size, 0, none⟩ = some (.float .f64 a.t) ∧ u2.cell? ⟨w.heap.size, 1, none⟩ = some (.int .i64 a.src) ∧ u2.cell? ⟨w.heap.size, 2, none⟩ = some (.int .i64 a.n) ∧ u2.cell? ⟨w.heap.size, 3, none⟩ = some (.int .i64 a.dst) ∧ u2.cell? ⟨w.heap.size, 4, none⟩ = some (.int .i64 a.pay) ∧ u2.cell? ⟨w.heap.size + 1, 0, none⟩ = some (.float .f64 b.t) ∧ u2.cell? ⟨w.heap.size + 1, 1, none⟩ = some (.int .i64 b.src) ∧ u2.cell? ⟨w.heap.size + 1, 2, none⟩ = some (.int .i64 b.n) ∧ u2.cell? ⟨w.heap.size + 1, 3, none⟩ = some (.int .i64 b.dst) ∧ u2.cell? ⟨w.heap.size + 1, 4, none⟩ = some (.int .i64 b.pay) ∧ u2.cell? ⟨w.heap.size + 2, 0, none⟩ = some (.float .f64 c.t) ∧ u2.cell? ⟨w.heap.size + 2, 1, none⟩ = some (.int .i64 c.src) ∧ u2.cell? ⟨w.heap.size + 2, 2, none⟩ = some (.int .i64 c.n) ∧ u2.cell? ⟨w.heap.size + 2, 3, none⟩ = some (.int .i64 c.dst) ∧ u2.cell? ⟨w.heap.size + 2, 4, none⟩ = some (.int .i64 c.pay)) := fun u2 k => by
    obtain ⟨a0, a1, a2, a3, a4⟩ := five_cells8 ((k.block _ (lt_of_block X1)).trans X1)
    obtain ⟨b0, b1, b2, b3, b4⟩ := five_cells8 ((k.block _ (lt_of_block X2)).trans X2)
    obtain ⟨c0, c1, c2, c3, c4⟩ := five_cells8 ((k.block _ (lt_of_block X3)).trans X3)
    exact ⟨a0, a1, a2, a3, a4, b0, b1, b2, b3, b4, c0, c1, c2, c3, c4⟩
  clear X1 X2 X3
  generalize hu : (((w.alloc (.cells #[.float .f64 a.t, .int .i64 a.src, .int .i64 a.n, .int .i64 a.dst, .int .i64 a.pay] 49)).alloc (.cells #[.float .f64 b.t, .int .i64 b.src, .int .i64 b.n, .int .i64 b.dst, .int .i64 b.pay] 49)).alloc (.cells #[.float .f64 c.t, .int .i64 c.src, .int .i64 c.n, .int .i64 c.dst, .int .i64 c.pay] 49)) = u at *
  go_enter Try.func6, Try.ntmps6
  go_upto_region 1 with fail
  try rw [hu]
  clear hu
  have BU := Lib.hid (bdrew u)
  refine wp_region_held_drew (S := (fun w' => w'.cell? ⟨w.heap.size, 0, none⟩ = some (.float .f64 a.t) ∧ w'.cell? ⟨w.heap.size, 1, none⟩ = some (.int .i64 a.src) ∧ w'.cell? ⟨w.heap.size, 2, none⟩ = some (.int .i64 a.n) ∧ w'.cell? ⟨w.heap.size, 3, none⟩ = some (.int .i64 a.dst) ∧ w'.cell? ⟨w.heap.size, 4, none⟩ = some (.int .i64 a.pay) ∧ w'.cell? ⟨w.heap.size + 1, 0, none⟩ = some (.float .f64 b.t) ∧ w'.cell? ⟨w.heap.size + 1, 1, none⟩ = some (.int .i64 b.src) ∧ w'.cell? ⟨w.heap.size + 1, 2, none⟩ = some (.int .i64 b.n) ∧ w'.cell? ⟨w.heap.size + 1, 3, none⟩ = some (.int .i64 b.dst) ∧ w'.cell? ⟨w.heap.size + 1, 4, none⟩ = some (.int .i64 b.pay) ∧ w'.cell? ⟨w.heap.size + 2, 0, none⟩ = some (.float .f64 c.t) ∧ w'.cell? ⟨w.heap.size + 2, 1, none⟩ = some (.int .i64 c.src) ∧ w'.cell? ⟨w.heap.size + 2, 2, none⟩ = some (.int .i64 c.n) ∧ w'.cell? ⟨w.heap.size + 2, 3, none⟩ = some (.int .i64 c.dst) ∧ w'.cell? ⟨w.heap.size + 2, 4, none⟩ = some (.int .i64 c.pay))) (by kernel_rfl) ?_ (fun hHeld => ?_)
  · exact KX.out _ BU.out
  change wpAnyH _ _ _ _ _ _ _ _ (World.drew u)
  generalize u.drew = u0 at *
  first
    | refine tk0 0 (oi := ⟨_, _, _, _, _, _⟩) rfl ?_
    | refine tk1 0 (oi := ⟨_, _, _, _, _, _⟩) (v := ?_) rfl ?_ ?_; rotate_left; · (intro w5 hSw; (try dsimp only at hSw); go_simp; (try with_reducible rfl))
  try simp only [Act.put, List.setIfInBounds_toArray, List.set_cons_zero, List.set_cons_succ]
  first
    | refine tk0 1 (oi := ⟨_, _, _, _, _, _⟩) rfl ?_
    | refine tk1 1 (oi := ⟨_, _, _, _, _, _⟩) (v := ?_) rfl ?_ ?_; rotate_left; · (intro w5 hSw; (try dsimp only at hSw); go_simp; (try with_reducible rfl))
  try simp only [Act.put, List.setIfInBounds_toArray, List.set_cons_zero, List.set_cons_succ]
  first
    | refine tk0 3 (oi := ⟨_, _, _, _, _, _⟩) rfl ?_
    | refine tk1 3 (oi := ⟨_, _, _, _, _, _⟩) (v := ?_) rfl ?_ ?_; rotate_left; · (intro w5 hSw; (try dsimp only at hSw); go_simp; (try with_reducible rfl))
  try simp only [Act.put, List.setIfInBounds_toArray, List.set_cons_zero, List.set_cons_succ]
  first
    | refine tk0 4 (oi := ⟨_, _, _, _, _, _⟩) rfl ?_
    | refine tk1 4 (oi := ⟨_, _, _, _, _, _⟩) (v := ?_) rfl ?_ ?_; rotate_left; · (intro w5 hSw; (try dsimp only at hSw); go_simp; (try with_reducible rfl))
  try simp only [Act.put, List.setIfInBounds_toArray, List.set_cons_zero, List.set_cons_succ]
  first
    | refine tk0 6 (oi := ⟨_, _, _, _, _, _⟩) rfl ?_
    | refine tk1 6 (oi := ⟨_, _, _, _, _, _⟩) (v := ?_) rfl ?_ ?_; rotate_left; · (intro w5 hSw; (try dsimp only at hSw); go_simp; (try with_reducible rfl))
  try simp only [Act.put, List.setIfInBounds_toArray, List.set_cons_zero, List.set_cons_succ]
  first
    | refine tk0 7 (oi := ⟨_, _, _, _, _, _⟩) rfl ?_
    | refine tk1 7 (oi := ⟨_, _, _, _, _, _⟩) (v := ?_) rfl ?_ ?_; rotate_left; · (intro w5 hSw; (try dsimp only at hSw); go_simp; (try with_reducible rfl))
  try simp only [Act.put, List.setIfInBounds_toArray, List.set_cons_zero, List.set_cons_succ]
  refine wpAnyH_ready (rs := [2]) (by kernel_rfl) (by simp) ?_
  refine AllReadyH.cons (o := ⟨_, _, _, _, _, _⟩) rfl (fun K hK => ?_) AllReadyH.nil
  go_simp
  go_at_call 22
  refine (HAB.out _).mono ?_
  rintro e w1 ⟨rfl, hb⟩
  have BU := Lib.hid (bthen BU.out hb)
  refine hK.out _ _ ?_ (fun hHeld => ?_)
  · exact KX.out _ BU.out
  clear hK K
  try simp only [Act.put, List.setIfInBounds_toArray, List.set_cons_zero, List.set_cons_succ]
  clear hb
  refine wpAnyH_ready (rs := [5]) (by kernel_rfl) (by simp) ?_
  refine AllReadyH.cons (o := ⟨_, _, _, _, _, _⟩) rfl (fun K hK => ?_) AllReadyH.nil
  go_simp
  go_at_call 22
  refine (HBC.out _).mono ?_
  rintro e w2 ⟨rfl, hb⟩
  have BU := Lib.hid (bthen BU.out hb)
  refine hK.out _ _ ?_ (fun hHeld => ?_)
  · exact KX.out _ BU.out
  clear hK K
  try simp only [Act.put, List.setIfInBounds_toArray, List.set_cons_zero, List.set_cons_succ]
  clear hb
  refine wpAnyH_ready (rs := [8]) (by kernel_rfl) (by simp) ?_
  refine AllReadyH.cons (o := ⟨_, _, _, _, _, _⟩) rfl (fun K hK => ?_) AllReadyH.nil
  go_simp
  go_at_call 22
  refine (HACC.out _).mono ?_
  rintro e w3 ⟨rfl, hb⟩
  have BU := Lib.hid (bthen BU.out hb)
  refine hK.out _ _ ?_ (fun hHeld => ?_)
  · exact KX.out _ BU.out
  clear hK K
  try simp only [Act.put, List.setIfInBounds_toArray, List.set_cons_zero, List.set_cons_succ]
  clear hb
  first
    | refine tk0 9 (oi := ⟨_, _, _, _, _, _⟩) rfl ?_
    | refine tk1 9 (oi := ⟨_, _, _, _, _, _⟩) (v := ?_) rfl ?_ ?_; rotate_left; · (intro w5 hSw; (try dsimp only at hSw); go_simp; (try with_reducible rfl))
  try simp only [Act.put, List.setIfInBounds_toArray, List.set_cons_zero, List.set_cons_succ]
  first
    | refine tk0 10 (oi := ⟨_, _, _, _, _, _⟩) rfl ?_
    | refine tk1 10 (oi := ⟨_, _, _, _, _, _⟩) (v := ?_) rfl ?_ ?_; rotate_left; · (intro w5 hSw; (try dsimp only at hSw); go_simp; (try with_reducible rfl))
  try simp only [Act.put, List.setIfInBounds_toArray, List.set_cons_zero, List.set_cons_succ]
  first
    | refine tk0 11 (oi := ⟨_, _, _, _, _, _⟩) rfl ?_
    | refine tk1 11 (oi := ⟨_, _, _, _, _, _⟩) (v := ?_) rfl ?_ ?_; rotate_left; · (intro w5 hSw; (try dsimp only at hSw); go_simp; (try with_reducible rfl))
  try simp only [Act.put, List.setIfInBounds_toArray, List.set_cons_zero, List.set_cons_succ]
  refine wpAnyH_done (by kernel_rfl) ?_ _
  clear hHeld
  obtain ⟨q0, q1, q2, q3, q4, q5, q6, q7, q8, q9, q10, q11, q12, q13, q14⟩ := KX.out _ BU.out
  obtain ⟨t1, t2, t3⟩ := tr
  unfold One at ox oy oz
  rcases ox with rfl | rfl | rfl <;> rcases oy with rfl | rfl | rfl <;> rcases oz with rfl | rfl | rfl <;> (first | (exfalso; omega) | skip)
  all_goals
    clear t1 t2 t3
    go_wp2_with (first
      | (go_at_call 10; refine (HAW.out _).mono ?_; rintro e w5 ⟨rfl, hb⟩; have BU := Lib.hid (bthen BU.out hb); clear hb q0 q1 q2 q3 q4 q5 q6 q7 q8 q9 q10 q11 q12 q13 q14; obtain ⟨q0, q1, q2, q3, q4, q5, q6, q7, q8, q9, q10, q11, q12, q13, q14⟩ := KX.out _ BU.out)
      | (go_at_call 23; refine (HRR.out _).mono ?_; rintro e w5 ⟨rfl, hb⟩; have BU := Lib.hid (bthen BU.out hb); clear hb q0 q1 q2 q3 q4 q5 q6 q7 q8 q9 q10 q11 q12 q13 q14; obtain ⟨q0, q1, q2, q3, q4, q5, q6, q7, q8, q9, q10, q11, q12, q13, q14⟩ := KX.out _ BU.out)
      | (go_at_call 22; (first | (with_reducible refine (HAA.out _).mono ?_) | (with_reducible refine (HBA.out _).mono ?_)); rintro e w5 ⟨rfl, hb⟩; have BU := Lib.hid (bthen BU.out hb); clear hb q0 q1 q2 q3 q4 q5 q6 q7 q8 q9 q10 q11 q12 q13 q14; obtain ⟨q0, q1, q2, q3, q4, q5, q6, q7, q8, q9, q10, q11, q12, q13, q14⟩ := KX.out _ BU.out))
    go_ret
    exact ⟨rfl, bthen B1.out BU.out⟩

end Go.Proofs.Ytplhkplfbcmbdaa
