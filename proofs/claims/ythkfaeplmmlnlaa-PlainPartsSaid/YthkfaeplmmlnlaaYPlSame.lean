/- The contract of the document's Same, at the same lists of what was handled. -/
import Derived.Test.YthkfaeplmmlnlaaYZ12
import Derived.Test.YthkfaeplmmlnlaaYZ8
import Derived.Test.YthkfaeplmmlnlaaYZ0
namespace Go.Proofs.Ythkfaeplmmlnlaa
open Go.RowKit Go.Deep
set_option linter.unusedVariables false
set_option maxRecDepth 100000

set_option maxHeartbeats 3200000 in
theorem sameDn_refl (D : Nat → Dn) (n : Nat) (va vb : Value) (w : World) (ha : Sl 6 (gD D) n va w) (hb : Sl 6 (gD D) n vb w) :
    Calls Try.prog 33 #[va, vb] w fun e w' => e = .returned (.bool true) ∧ Below w.heap.size w w' := by
  obtain ⟨aa, ca, rfl, m1, m2, k1⟩ := ha
  obtain ⟨ab, cb, rfl, m3, m4, k2⟩ := hb
  have K1 := Lib.hid k1
  have K2 := Lib.hid k2
  clear k1 k2
  go_enter Try.func33, Try.ntmps33
  go_wp2_with fail
  go_loopw [5] (fun x wr => ∃ j : Nat, j ≤ n ∧ x = .int .i64 j ∧ Below w.heap.size w wr) (fun x _ => n - (intOf x).toNat)
  case atStart => exact ⟨0, Nat.zero_le _, rfl, Below.refl _ _⟩
  case round =>
    obtain ⟨j, hj, rfl, hl⟩ := hrel
    have HL := Lib.hid hl
    by_cases hlt : j < n
    · obtain ⟨b1, o1, rfl, h1⟩ := K1.out (by omega)
      obtain ⟨b2, o2, rfl, h2⟩ := K2.out (by omega)
      have hj2 : (j : Int) < (n : Int) := by omega
      have hj0 : (0 : Int) ≤ (j : Int) := by omega
      have hjt : ((j : Nat) : Int).toNat = j := by omega
      have L0 := Lib.hid hl.drew
      have SS0 : Hid (∀ w', Below w.heap.size w w' → (∀ c, c < 6 → w'.cell? ⟨b1, o1 + j * 6 + c, none⟩ = some (gD D j c)) ∧ (∀ c, c < 6 → w'.cell? ⟨b2, o2 + j * 6 + c, none⟩ = some (gD D j c))) := fun w' k => ⟨fun c hc => (h1.below k).2 j hlt c hc, fun c hc => (h2.below k).2 j hlt c hc⟩
      have SS : Hid (∀ w', Below w.heap.size w w' → (fun w' => w'.cell? ⟨b1, o1 + j * 6, none⟩ = some (.float .f64 (D j).e.t) ∧ w'.cell? ⟨b1, o1 + j * 6 + 1, none⟩ = some (.int .i64 (D j).e.src) ∧ w'.cell? ⟨b1, o1 + j * 6 + 2, none⟩ = some (.int .i64 (D j).e.n) ∧ w'.cell? ⟨b1, o1 + j * 6 + 3, none⟩ = some (.int .i64 (D j).e.dst) ∧ w'.cell? ⟨b1, o1 + j * 6 + 4, none⟩ = some (.int .i64 (D j).e.pay) ∧ w'.cell? ⟨b1, o1 + j * 6 + 5, none⟩ = some (.int .i64 (D j).f) ∧ w'.cell? ⟨b2, o2 + j * 6, none⟩ = some (.float .f64 (D j).e.t) ∧ w'.cell? ⟨b2, o2 + j * 6 + 1, none⟩ = some (.int .i64 (D j).e.src) ∧ w'.cell? ⟨b2, o2 + j * 6 + 2, none⟩ = some (.int .i64 (D j).e.n) ∧ w'.cell? ⟨b2, o2 + j * 6 + 3, none⟩ = some (.int .i64 (D j).e.dst) ∧ w'.cell? ⟨b2, o2 + j * 6 + 4, none⟩ = some (.int .i64 (D j).e.pay) ∧ w'.cell? ⟨b2, o2 + j * 6 + 5, none⟩ = some (.int .i64 (D j).f)) w') := fun w' k => by
        obtain ⟨s1, s2⟩ := SS0.out w' k
        exact ⟨s1 0 (by omega), s1 1 (by omega), s1 2 (by omega), s1 3 (by omega), s1 4 (by omega), s1 5 (by omega), s2 0 (by omega), s2 1 (by omega), s2 2 (by omega), s2 3 (by omega), s2 4 (by omega), s2 5 (by omega)⟩
      clear SS0 h1 h2 hl K1 K2
      generalize D j = q at *
      have HS := Lib.hid (same2_any q.e.t q.e.src q.e.n)
      have e3 : (q.e.dst != q.e.dst) = false := by simp
      have e4 : (q.e.pay != q.e.pay) = false := by simp
      have e5 : (q.f != q.f) = false := by simp
      go_wp2_with fail
      refine wp_region_held_drew (S := (fun w' => w'.cell? ⟨b1, o1 + j * 6, none⟩ = some (.float .f64 q.e.t) ∧ w'.cell? ⟨b1, o1 + j * 6 + 1, none⟩ = some (.int .i64 q.e.src) ∧ w'.cell? ⟨b1, o1 + j * 6 + 2, none⟩ = some (.int .i64 q.e.n) ∧ w'.cell? ⟨b1, o1 + j * 6 + 3, none⟩ = some (.int .i64 q.e.dst) ∧ w'.cell? ⟨b1, o1 + j * 6 + 4, none⟩ = some (.int .i64 q.e.pay) ∧ w'.cell? ⟨b1, o1 + j * 6 + 5, none⟩ = some (.int .i64 q.f) ∧ w'.cell? ⟨b2, o2 + j * 6, none⟩ = some (.float .f64 q.e.t) ∧ w'.cell? ⟨b2, o2 + j * 6 + 1, none⟩ = some (.int .i64 q.e.src) ∧ w'.cell? ⟨b2, o2 + j * 6 + 2, none⟩ = some (.int .i64 q.e.n) ∧ w'.cell? ⟨b2, o2 + j * 6 + 3, none⟩ = some (.int .i64 q.e.dst) ∧ w'.cell? ⟨b2, o2 + j * 6 + 4, none⟩ = some (.int .i64 q.e.pay) ∧ w'.cell? ⟨b2, o2 + j * 6 + 5, none⟩ = some (.int .i64 q.f))) (by kernel_rfl) ?_ (fun hHeld => ?_)
      · exact SS.out _ L0.out
      change wpAnyH _ _ _ _ _ _ _ _ (World.drew wr)
      generalize wr.drew = u0 at *
      first | refine tq0 0 rfl ?_ | refine tq1 0 rfl ?_
      try go_frame
      first | refine tq0 1 rfl ?_ | refine tq1 1 rfl ?_
      try go_frame
      first | refine tq0 2 rfl ?_ | refine tq1 2 rfl ?_
      try go_frame
      first | refine tq0 3 rfl ?_ | refine tq1 3 rfl ?_
      try go_frame
      first | refine tq0 4 rfl ?_ | refine tq1 4 rfl ?_
      try go_frame
      first | refine tq0 5 rfl ?_ | refine tq1 5 rfl ?_
      try go_frame
      first | refine tq0 6 rfl ?_ | refine tq1 6 rfl ?_
      try go_frame
      first | refine tq0 7 rfl ?_ | refine tq1 7 rfl ?_
      try go_frame
      first | refine tq0 8 rfl ?_ | refine tq1 8 rfl ?_
      try go_frame
      first | refine tq0 9 rfl ?_ | refine tq1 9 rfl ?_
      try go_frame
      first | refine tq0 10 rfl ?_ | refine tq1 10 rfl ?_
      try go_frame
      first | refine tq0 11 rfl ?_ | refine tq1 11 rfl ?_
      try go_frame
      refine wpAnyH_ready (rs := [12]) (by kernel_rfl) (by simp) ?_
      refine AllReadyH.cons (o := ⟨_, _, _, _, _, _⟩) rfl (fun K hK => ?_) AllReadyH.nil
      go_simp
      go_at_call 43
      refine (HS.out _).mono ?_
      rintro e w1 ⟨rfl, hb1⟩
      have L1 := Lib.hid (bthen L0.out hb1)
      refine hK.out _ _ ?_ (fun hHeld => ?_)
      · exact SS.out _ L1.out
      clear hK K hb1
      try go_frame
      first | refine tq0 13 rfl ?_ | refine tq1 13 rfl ?_
      try go_frame
      first | refine tq0 14 rfl ?_ | refine tq1 14 rfl ?_
      try go_frame
      first | refine tq0 15 rfl ?_ | refine tq1 15 rfl ?_
      try go_frame
      first | refine tq0 16 rfl ?_ | refine tq1 16 rfl ?_
      try go_frame
      first | refine tq0 17 rfl ?_ | refine tq1 17 rfl ?_
      try go_frame
      first | refine tq0 18 rfl ?_ | refine tq1 18 rfl ?_
      try go_frame
      first | refine tq0 19 rfl ?_ | refine tq1 19 rfl ?_
      try go_frame
      first | refine tq0 20 rfl ?_ | refine tq1 20 rfl ?_
      try go_frame
      first | refine tq0 21 rfl ?_ | refine tq1 21 rfl ?_
      try go_frame
      first | refine tq0 22 rfl ?_ | refine tq1 22 rfl ?_
      try go_frame
      first | refine tq0 23 rfl ?_ | refine tq1 23 rfl ?_
      try go_frame
      first | refine tq0 24 rfl ?_ | refine tq1 24 rfl ?_
      try go_frame
      first | refine tq0 25 rfl ?_ | refine tq1 25 rfl ?_
      try go_frame
      first | refine tq0 26 rfl ?_ | refine tq1 26 rfl ?_
      try go_frame
      first | refine tq0 27 rfl ?_ | refine tq1 27 rfl ?_
      try go_frame
      first | refine tq0 28 rfl ?_ | refine tq1 28 rfl ?_
      try go_frame
      first | refine tq0 29 rfl ?_ | refine tq1 29 rfl ?_
      try go_frame
      first | refine tq0 30 rfl ?_ | refine tq1 30 rfl ?_
      try go_frame
      first | refine tq0 31 rfl ?_ | refine tq1 31 rfl ?_
      try go_frame
      first | refine tq0 32 rfl ?_ | refine tq1 32 rfl ?_
      try go_frame
      first | refine tq0 33 rfl ?_ | refine tq1 33 rfl ?_
      try go_frame
      first | refine tq0 34 rfl ?_ | refine tq1 34 rfl ?_
      try go_frame
      first | refine tq0 35 rfl ?_ | refine tq1 35 rfl ?_
      try go_frame
      first | refine tq0 36 rfl ?_ | refine tq1 36 rfl ?_
      try go_frame
      first | refine tq0 37 rfl ?_ | refine tq1 37 rfl ?_
      try go_frame
      first | refine tq0 38 rfl ?_ | refine tq1 38 rfl ?_
      try go_frame
      first | refine tq0 39 rfl ?_ | refine tq1 39 rfl ?_
      try go_frame
      first | refine tq0 40 rfl ?_ | refine tq1 40 rfl ?_
      try go_frame
      first | refine tq0 41 rfl ?_ | refine tq1 41 rfl ?_
      try go_frame
      first | refine tq0 42 rfl ?_ | refine tq1 42 rfl ?_
      try go_frame
      first | refine tq0 43 rfl ?_ | refine tq1 43 rfl ?_
      try go_frame
      first | refine tq0 44 rfl ?_ | refine tq1 44 rfl ?_
      try go_frame
      first | refine tq0 45 rfl ?_ | refine tq1 45 rfl ?_
      try go_frame
      first | refine tq0 46 rfl ?_ | refine tq1 46 rfl ?_
      try go_frame
      first | refine tq0 47 rfl ?_ | refine tq1 47 rfl ?_
      try go_frame
      first | refine tq0 48 rfl ?_ | refine tq1 48 rfl ?_
      try go_frame
      first | refine tq0 49 rfl ?_ | refine tq1 49 rfl ?_
      try go_frame
      first | refine tq0 50 rfl ?_ | refine tq1 50 rfl ?_
      try go_frame
      first | refine tq0 51 rfl ?_ | refine tq1 51 rfl ?_
      try go_frame
      first | refine tq0 52 rfl ?_ | refine tq1 52 rfl ?_
      try go_frame
      first | refine tq0 53 rfl ?_ | refine tq1 53 rfl ?_
      try go_frame
      first | refine tq0 54 rfl ?_ | refine tq1 54 rfl ?_
      try go_frame
      first | refine tq0 55 rfl ?_ | refine tq1 55 rfl ?_
      try go_frame
      first | refine tq0 56 rfl ?_ | refine tq1 56 rfl ?_
      try go_frame
      refine wpAnyH_done (by kernel_rfl) ?_ _
      go_wp2_with fail
      go_roundw
      case rel => exact ⟨j + 1, by omega, by go_num, L1.out⟩
      case measure => simp [intOf]; omega
    · obtain rfl : j = n := by omega
      clear hl
      go_wp2_with fail
      go_ret
      exact ⟨rfl, HL.out⟩

end Go.Proofs.Ythkfaeplmmlnlaa
