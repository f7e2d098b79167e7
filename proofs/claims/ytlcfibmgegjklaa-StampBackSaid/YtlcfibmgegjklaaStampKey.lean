/- The contracts of stamp.Key and of the document's own Key. -/
import Derived.Test.YtlcfibmgegjklaaStampBits
namespace Go.Proofs.Ytlcfibmgegjklaa
open Go.RowKit

set_option maxHeartbeats 1600000 in
theorem key_ok (a0 t : Nat) (a1 a2 b : Int) (xu xs xn : ByteArray) (w : World) (z1 : xu.size = 8) (z2 : xs.size = 8) (z3 : xn.size = 8)
    (H1 : Hid (∀ w, Calls Try.prog 11 #[.float .f64 a0] w fun e w' => e = .returned (.tuple #[.float .f64 t, .int .i64 0]) ∧ w = w'))
    (H2 : Hid (∀ w, Calls Try.prog 38 #[.float .f64 t] w fun e w' => e = .returned (.int .u64 b) ∧ w = w'))
    (H3 : Hid (∀ w, Calls Try.prog 37 #[.int .u64 b] w fun e w' => e = .returned (.string xu) ∧ Below w.heap.size w w'))
    (H4 : Hid (∀ w, Calls Try.prog 39 #[.int .i64 a1] w fun e w' => e = .returned (.string xs) ∧ Below w.heap.size w w'))
    (H5 : Hid (∀ w, Calls Try.prog 39 #[.int .i64 a2] w fun e w' => e = .returned (.string xn) ∧ Below w.heap.size w w')) :
    Calls Try.prog 21 #[.agg #[.float .f64 a0, .int .i64 a1, .int .i64 a2]] w fun e w' => e = .returned (.tuple #[.string (xu ++ xs ++ xn), .int .i64 0]) ∧ Below w.heap.size w w' := by
  have v1 : ¬ 9223372036854775807 < xu.size + xs.size := by omega
  have v2 : ¬ 9223372036854775807 < xu.size + xs.size + xn.size := by omega
  have v3 : ¬ 9223372036854775807 < (xu ++ xs).size + xn.size := by rw [ByteArray.size_append]; omega
  clear z1 z2 z3
  have X0 := boxAt_new ⟨a0, a1, a2⟩ w 30
  have HW := Lib.hid (balloc w (.cells #[.float .f64 a0, .int .i64 a1, .int .i64 a2] 30))
  go_enter Try.func21, Try.ntmps21
  go_wp2_with fail
  refine (H1.out _).mono ?_
  rintro e w' ⟨rfl, rfl⟩
  generalize (w.alloc (.cells #[.float .f64 a0, .int .i64 a1, .int .i64 a2] 30)) = W at X0 HW ⊢
  have XH := Lib.hid X0
  obtain ⟨_, x0, x1, x2⟩ := X0
  dsimp only at x0 x1 x2
  go_wp2_with fail
  go_region_held3 (fun w' => w'.cell? ⟨w.heap.size, 1, none⟩ = some (.int .i64 a1) ∧ w'.cell? ⟨w.heap.size, 2, none⟩ = some (.int .i64 a2)) (go_keep) (first
    | (go_at_call 38; refine (H2.out _).mono ?_; rintro e w9 ⟨rfl, rfl⟩)
    | (go_at_call 37; refine (H3.out _).mono ?_; rintro e w1 ⟨rfl, hb1⟩; have X1 := boxAt_below (boxAt_drew XH.out) hb1; have XH1 := Lib.hid X1; obtain ⟨_, p0, p1, p2⟩ := X1; dsimp only at p0 p1 p2)
    | (go_at_call 39; refine (H4.out _).mono ?_; rintro e w2 ⟨rfl, hb2⟩; have X2 := boxAt_below XH1.out hb2; have XH2 := Lib.hid X2; obtain ⟨_, q0, q1, q2⟩ := X2; dsimp only at q0 q1 q2)
    | (go_at_call 39; refine (H5.out _).mono ?_; rintro e w3 ⟨rfl, hb3⟩; have X3 := boxAt_below XH2.out hb3; obtain ⟨_, r0, r1, r2⟩ := X3; dsimp only at r0 r1 r2))
  go_wp2_with fail
  go_ret2
  exact ⟨rfl, bthen (bthen (bthen HW.out.drew hb1) hb2) hb3⟩

theorem key_bad (a0 t : Nat) (a1 a2 : Int) (w : World)
    (H1 : Hid (∀ w, Calls Try.prog 11 #[.float .f64 a0] w fun e w' => e = .returned (.tuple #[.float .f64 t, .int .i64 7]) ∧ w = w')) :
    Calls Try.prog 21 #[.agg #[.float .f64 a0, .int .i64 a1, .int .i64 a2]] w fun e w' => e = .returned (.tuple #[.string ⟨#[]⟩, .int .i64 7]) ∧ Below w.heap.size w w' := by
  have HW := Lib.hid (balloc w (.cells #[.float .f64 a0, .int .i64 a1, .int .i64 a2] 30))
  go_enter Try.func21, Try.ntmps21
  go_wp2_with fail
  refine (H1.out _).mono ?_
  rintro e w' ⟨rfl, rfl⟩
  go_wp2_with fail
  go_ret2
  exact ⟨rfl, HW.out⟩

set_option maxHeartbeats 1600000 in
theorem refKey_ok (a0 t b0 : Nat) (a1 a2 b : Int) (neg : Bool) (xu xs xn : ByteArray) (w : World) (z1 : xu.size = 8) (z2 : xs.size = 8) (z3 : xn.size = 8)
    (hbits : ∀ w : World, (callFunc 32 #[.float .f64 t]).run Try.prog w = .ok (.value (.int .u64 b0)) w)
    (hneg : (FloatKind.f64.format.order t 0 == some Ordering.lt) = neg)
    (E : Hid ((if neg then 18446744073709551615 - (b0 : Int) else (b0 : Int) + 9223372036854775808) = b))
    (hb0 : 0 ≤ (if neg then 18446744073709551615 - (b0 : Int) else (b0 : Int) + 9223372036854775808) ∧ (if neg then 18446744073709551615 - (b0 : Int) else (b0 : Int) + 9223372036854775808) ≤ 18446744073709551615)
    (H1 : Hid (∀ w, Calls Try.prog 12 #[.float .f64 a0] w fun e w' => e = .returned (.tuple #[.float .f64 t, .int .i64 0]) ∧ w = w'))
    (H3 : Hid (∀ w, Calls Try.prog 40 #[.int .u64 b] w fun e w' => e = .returned (.string xu) ∧ Below w.heap.size w w'))
    (H4 : Hid (∀ w, Calls Try.prog 41 #[.int .i64 a1] w fun e w' => e = .returned (.string xs) ∧ Below w.heap.size w w'))
    (H5 : Hid (∀ w, Calls Try.prog 41 #[.int .i64 a2] w fun e w' => e = .returned (.string xn) ∧ Below w.heap.size w w')) :
    Calls Try.prog 22 #[.agg #[.float .f64 a0, .int .i64 a1, .int .i64 a2]] w fun e w' => e = .returned (.tuple #[.string (xu ++ xs ++ xn), .int .i64 0]) ∧ Below w.heap.size w w' := by
  have v1 : ¬ 9223372036854775807 < xu.size + xs.size := by omega
  have v2 : ¬ 9223372036854775807 < xu.size + xs.size + xn.size := by omega
  have v3 : ¬ 9223372036854775807 < (xu ++ xs).size + xn.size := by rw [ByteArray.size_append]; omega
  clear z1 z2 z3
  have X0 := boxAt_new ⟨a0, a1, a2⟩ w 30
  have HW := Lib.hid (balloc w (.cells #[.float .f64 a0, .int .i64 a1, .int .i64 a2] 30))
  cases neg
  all_goals
    have E2 := E.out
    simp only [Bool.false_eq_true, if_false, if_true] at E2 hb0
    rw [E2] at hb0
    subst E2
    clear E
    go_enter Try.func22, Try.ntmps22
    go_wp2_with fail
    refine (H1.out _).mono ?_
    rintro e w' ⟨rfl, rfl⟩
    generalize (w.alloc (.cells #[.float .f64 a0, .int .i64 a1, .int .i64 a2] 30)) = W at X0 HW ⊢
    have XH := Lib.hid X0
    obtain ⟨_, x0, x1, x2⟩ := X0
    dsimp only at x0 x1 x2
    go_wp2_with fail
    go_region_held3 (fun w' => w'.cell? ⟨w.heap.size, 1, none⟩ = some (.int .i64 a1) ∧ w'.cell? ⟨w.heap.size, 2, none⟩ = some (.int .i64 a2)) (go_keep) (first
      | (go_at_call 40; refine (H3.out _).mono ?_; rintro e w1 ⟨rfl, hb1⟩; have X1 := boxAt_below (boxAt_drew XH.out) hb1; have XH1 := Lib.hid X1; obtain ⟨_, p0, p1, p2⟩ := X1; dsimp only at p0 p1 p2)
      | (go_at_call 41; refine (H4.out _).mono ?_; rintro e w2 ⟨rfl, hb2⟩; have X2 := boxAt_below XH1.out hb2; have XH2 := Lib.hid X2; obtain ⟨_, q0, q1, q2⟩ := X2; dsimp only at q0 q1 q2)
      | (go_at_call 41; refine (H5.out _).mono ?_; rintro e w3 ⟨rfl, hb3⟩; have X3 := boxAt_below XH2.out hb3; obtain ⟨_, r0, r1, r2⟩ := X3; dsimp only at r0 r1 r2))
    go_wp2_with fail
    go_ret2
    exact ⟨rfl, bthen (bthen (bthen HW.out.drew hb1) hb2) hb3⟩

theorem refKey_bad (a0 t : Nat) (a1 a2 : Int) (w : World)
    (H1 : Hid (∀ w, Calls Try.prog 12 #[.float .f64 a0] w fun e w' => e = .returned (.tuple #[.float .f64 t, .int .i64 7]) ∧ w = w')) :
    Calls Try.prog 22 #[.agg #[.float .f64 a0, .int .i64 a1, .int .i64 a2]] w fun e w' => e = .returned (.tuple #[.string ⟨#[]⟩, .int .i64 7]) ∧ Below w.heap.size w w' := by
  have HW := Lib.hid (balloc w (.cells #[.float .f64 a0, .int .i64 a1, .int .i64 a2] 30))
  go_enter Try.func22, Try.ntmps22
  go_wp2_with fail
  refine (H1.out _).mono ?_
  rintro e w' ⟨rfl, rfl⟩
  go_wp2_with fail
  go_ret2
  exact ⟨rfl, HW.out⟩

/-- a key and an error, as the Go functions hand them back -/
def seRet (x : ByteArray × Int) : Ending := .returned (.tuple #[.string x.1, .int .i64 x.2])
theorem wf_lt {x : Nat} (h : (Lit.float .f64 x).wf = true) : x < 18446744073709551616 := by
  simpa [Lit.wf] using h

theorem keySpec_num (s : Stp) (h : isNum s.t) : keySpec s = (strOfNums (beI 8 (bitsI (normT s.t))) ++ strOfNums (beI 8 (flip63 s.src)) ++ strOfNums (beI 8 (flip63 s.n)), 0) := by
  unfold keySpec keyNums; rw [if_pos h, strOfNums_append, strOfNums_append]

theorem key_any (s : Stp) (ht : s.t < 18446744073709551616) (w : World) :
    Calls Try.prog 21 #[s.val] w fun e w' => e = seRet (keySpec s) ∧ Below w.heap.size w w' := by
  by_cases h : isNum s.t
  · rw [keySpec_num s h]
    refine key_ok s.t (normT s.t) s.src s.n (bitsI (normT s.t)) _ _ _ w (by rw [strOfNums_size, beI_len]) (by rw [strOfNums_size, beI_len]) (by rw [strOfNums_size, beI_len]) (fun w => ?_) (bitsOf_any _ (normT_bd _ ht)) (packU _) (packI _) (packI _)
    have := norm_any s.t w; rwa [normSpec_num _ h] at this
  · unfold keySpec; rw [if_neg h]
    refine key_bad s.t 0 s.src s.n w (fun w => ?_)
    have := norm_any s.t w; rwa [normSpec_nan _ h] at this

theorem refKey_any (s : Stp) (ht : s.t < 18446744073709551616) (w : World) :
    Calls Try.prog 22 #[s.val] w fun e w' => e = seRet (keySpec s) ∧ Below w.heap.size w w' := by
  by_cases h : isNum s.t
  · rw [keySpec_num s h]
    have hb := bitsI_bd _ (normT_bd _ ht)
    have e0 : (if decide (ford (normT s.t) < 0) = true then 18446744073709551615 - ((normT s.t : Nat) : Int) else ((normT s.t : Nat) : Int) + 9223372036854775808) = bitsI (normT s.t) := by
      have hn := normT_bd _ ht
      have hz : ford (normT s.t) = 0 → normT s.t = 0 := by
        intro k; rw [normT_ford] at k; unfold normT; rw [if_pos k]
      generalize normT s.t = x at hn hz
      unfold bitsI
      by_cases c : x < 9223372036854775808
      · rw [ford_lo x c, if_neg (by simp), if_pos c]
      · rw [ford_hi x (by omega) hn] at hz ⊢
        rw [if_neg c, if_pos]
        simp
        omega
    refine refKey_ok s.t (normT s.t) (normT s.t) s.src s.n (bitsI (normT s.t)) (decide (ford (normT s.t) < 0)) _ _ _ w (by rw [strOfNums_size, beI_len]) (by rw [strOfNums_size, beI_len]) (by rw [strOfNums_size, beI_len]) (floatbits_run _) ?_ e0 (by rw [e0]; exact hb) (fun w => ?_) (refU _ hb.1 hb.2) (refI _) (refI _)
    · rw [ord_lt]; simp [normT_num _ h, isNum_zero, ford_zero]
    · have := refNorm_any s.t w; rwa [normSpec_num _ h] at this
  · unfold keySpec; rw [if_neg h]
    refine refKey_bad s.t 0 s.src s.n w (fun w => ?_)
    have := refNorm_any s.t w; rwa [normSpec_nan _ h] at this

end Go.Proofs.Ytlcfibmgegjklaa
