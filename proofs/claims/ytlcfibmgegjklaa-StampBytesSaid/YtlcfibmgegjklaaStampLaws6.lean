/- The walk of the law StampBytes. -/
import Derived.Test.YtlcfibmgegjklaaStampLaws5
namespace Go.Proofs.Ytlcfibmgegjklaa
open Go.RowKit

theorem bytesLess_append (xs ys : List UInt8) : ∀ (us vs : List UInt8), us.length = vs.length → Op.bytesLess (us ++ xs) (vs ++ ys) = (Op.bytesLess us vs || (us == vs && Op.bytesLess xs ys)) := by
  intro us
  induction us with
  | nil => intro vs h; cases vs with
    | nil => simp [Op.bytesLess]
    | cons v vs => simp at h
  | cons u us ih => intro vs h; cases vs with
    | nil => simp at h
    | cons v vs =>
      have e := ih vs (by simpa using h)
      simp only [List.cons_append, Op.bytesLess, e, List.cons_beq_cons]
      generalize (u == v) = p
      generalize decide (u < v) = q
      generalize Op.bytesLess us vs = r
      generalize (us == vs) = m
      cases p <;> cases q <;> cases r <;> cases m <;> simp

/-- the order of keys is the order of three numbers -/
theorem key_less (t u : Nat) (a b c d : Int) (ht : t < 18446744073709551616) (hu : u < 18446744073709551616)
    (ha : -9223372036854775808 ≤ a ∧ a ≤ 9223372036854775807) (hb : -9223372036854775808 ≤ b ∧ b ≤ 9223372036854775807) (hc : -9223372036854775808 ≤ c ∧ c ≤ 9223372036854775807) (hd : -9223372036854775808 ≤ d ∧ d ≤ 9223372036854775807) :
    Op.bytesLess (strOfNums (keyNums t a b)).toList (strOfNums (keyNums u c d)).toList = decide (bitsI t < bitsI u ∨ bitsI t = bitsI u ∧ (a < c ∨ a = c ∧ b < d)) ∧
    ((strOfNums (keyNums t a b)).toList == (strOfNums (keyNums u c d)).toList) = decide (bitsI t = bitsI u ∧ a = c ∧ b = d) := by
  have bt := bitsI_bd t ht
  have bu := bitsI_bd u hu
  have l0 := less_8 (bitsI t) (bitsI u) bt.1 bt.2 bu.1 bu.2
  have q0 := eq_8 (bitsI t) (bitsI u) bt.1 bt.2 bu.1 bu.2
  have l1 := flip63_lt a c ha.1 ha.2 hc.1 hc.2
  have q1 := eq_8 (flip63 a) (flip63 c) (flip63_lo a) (flip63_hi a) (flip63_lo c) (flip63_hi c)
  have l2 := flip63_lt b d hb.1 hb.2 hd.1 hd.2
  have q2 := eq_8 (flip63 b) (flip63 d) (flip63_lo b) (flip63_hi b) (flip63_lo d) (flip63_hi d)
  rw [flip63_eq a ha.1 ha.2, flip63_eq c hc.1 hc.2] at l1 q1
  rw [flip63_eq b hb.1 hb.2, flip63_eq d hd.1 hd.2] at l2 q2
  unfold keyNums
  rw [flip63_eq a ha.1 ha.2, flip63_eq b hb.1 hb.2, flip63_eq c hc.1 hc.2, flip63_eq d hd.1 hd.2]
  simp only [strOfNums_toList] at l0 q0 l1 q1 l2 q2 ⊢
  simp only [List.map_append]
  have n0 : ((beI 8 (bitsI t)).map toU8).length = ((beI 8 (bitsI u)).map toU8).length := by simp [beI_len]
  have n1 : ((beI 8 (a + 9223372036854775808)).map toU8).length = ((beI 8 (c + 9223372036854775808)).map toU8).length := by simp [beI_len]
  have n2 : ((beI 8 (bitsI t)).map toU8 ++ (beI 8 (a + 9223372036854775808)).map toU8).length = ((beI 8 (bitsI u)).map toU8 ++ (beI 8 (c + 9223372036854775808)).map toU8).length := by simp [beI_len]
  generalize (beI 8 (bitsI t)).map toU8 = T at *
  generalize (beI 8 (bitsI u)).map toU8 = U at *
  generalize (beI 8 (a + 9223372036854775808)).map toU8 = A at *
  generalize (beI 8 (c + 9223372036854775808)).map toU8 = C at *
  generalize (beI 8 (b + 9223372036854775808)).map toU8 = B at *
  generalize (beI 8 (d + 9223372036854775808)).map toU8 = D at *
  have j0 : (T = U) ↔ bitsI t = bitsI u := by rw [← beq_iff_eq, q0, beq_iff_eq]
  have j1 : (A = C) ↔ a = c := by rw [← beq_iff_eq, q1, beq_iff_eq]; omega
  have j2 : (B = D) ↔ b = d := by rw [← beq_iff_eq, q2, beq_iff_eq]; omega
  have j3 : (T ++ A = U ++ C) ↔ bitsI t = bitsI u ∧ a = c := by
    rw [← j0, ← j1]; exact ⟨fun h => List.append_inj h n0, fun h => by rw [h.1, h.2]⟩
  have j4 : (T ++ A ++ B = U ++ C ++ D) ↔ bitsI t = bitsI u ∧ a = c ∧ b = d := by
    rw [← and_assoc, ← j3, ← j2]; exact ⟨fun h => List.append_inj h n2, fun h => by rw [h.1, h.2]⟩
  constructor
  · rw [bytesLess_append _ _ _ _ n2, bytesLess_append _ _ _ _ n0, l0, l1, l2, Bool.eq_iff_iff]
    simp only [Bool.or_eq_true, Bool.and_eq_true, decide_eq_true_eq, beq_iff_eq, j0, j3]
    omega
  · rw [Bool.eq_iff_iff]
    simp only [beq_iff_eq, decide_eq_true_eq]
    exact j4

/-- the order of keys is the order of stamps -/
theorem key_cmp (t u : Nat) (a b c d : Int) (ht : t < 18446744073709551616) (hu : u < 18446744073709551616) (nt : isNum t) (nu : isNum u)
    (ha : -9223372036854775808 ≤ a ∧ a ≤ 9223372036854775807) (hb : -9223372036854775808 ≤ b ∧ b ≤ 9223372036854775807) (hc : -9223372036854775808 ≤ c ∧ c ≤ 9223372036854775807) (hd : -9223372036854775808 ≤ d ∧ d ≤ 9223372036854775807) :
    Op.bytesLess (strOfNums (keyNums (normT t) a b)).toList (strOfNums (keyNums (normT u) c d)).toList = decide (cmpS ⟨t, a, b⟩ ⟨u, c, d⟩ < 0) ∧
    ((strOfNums (keyNums (normT t) a b)).toList == (strOfNums (keyNums (normT u) c d)).toList) = (cmpS ⟨t, a, b⟩ ⟨u, c, d⟩ == 0) := by
  obtain ⟨e1, e2⟩ := key_less (normT t) (normT u) a b c d (normT_bd t ht) (normT_bd u hu) ha hb hc hd
  rw [e1, e2]
  have s := cmpS_spec ⟨t, a, b⟩ ⟨u, c, d⟩
  simp only [(frank_num nt).1, (frank_num nu).1] at s
  have bt := bits_ford t ht
  have bu := bits_ford u hu
  have k1 : (bitsI (normT t) < bitsI (normT u)) ↔ ford t < ford u := by rw [bt, bu]; split <;> split <;> omega
  have k2 : (bitsI (normT t) = bitsI (normT u)) ↔ ford t = ford u := by rw [bt, bu]; split <;> split <;> omega
  constructor
  · rw [Bool.eq_iff_iff]
    simp only [decide_eq_true_eq, k1, k2]
    rcases s with ⟨s1, s2⟩ | ⟨s1, s2⟩ | ⟨s1, s2⟩ <;> rw [s1] <;> omega
  · rw [Bool.eq_iff_iff]
    simp only [decide_eq_true_eq, beq_iff_eq, k2]
    rcases s with ⟨s1, s2⟩ | ⟨s1, s2⟩ | ⟨s1, s2⟩ <;> rw [s1] <;> omega

set_option maxHeartbeats 1600000 in
theorem bytes_ok (a0 b0 : Nat) (a1 a2 b1 b2 c : Int) (k l : ByteArray) (w : World) (lt eq : Bool)
    (H1 : Hid (∀ w, Calls Try.prog 21 #[.agg #[.float .f64 a0, .int .i64 a1, .int .i64 a2]] w fun e' w' => e' = .returned (.tuple #[.string k, .int .i64 0]) ∧ Below w.heap.size w w'))
    (H2 : Hid (∀ w, Calls Try.prog 21 #[.agg #[.float .f64 b0, .int .i64 b1, .int .i64 b2]] w fun e' w' => e' = .returned (.tuple #[.string l, .int .i64 0]) ∧ Below w.heap.size w w'))
    (H3 : Hid (∀ w, Calls Try.prog 19 #[.agg #[.float .f64 a0, .int .i64 a1, .int .i64 a2], .agg #[.float .f64 b0, .int .i64 b1, .int .i64 b2]] w fun e w' => e = .returned (.int .i64 c) ∧ Below w.heap.size w w'))
    (h1 : Op.bytesLess k.toList l.toList = lt) (h2 : (k.toList == l.toList) = eq) (h3 : decide (c < 0) = lt) (h4 : (c == 0) = eq) :
    Calls Try.prog 8 #[.agg #[.float .f64 a0, .int .i64 a1, .int .i64 a2], .agg #[.float .f64 b0, .int .i64 b1, .int .i64 b2]] w fun e w' => e = .returned (.bool true) ∧ Below w.heap.size w w' := by
  have X0 : BoxAt ⟨a0, a1, a2⟩ w.heap.size ((w.alloc (.cells #[.float .f64 a0, .int .i64 a1, .int .i64 a2] 30)).alloc (.cells #[.float .f64 b0, .int .i64 b1, .int .i64 b2] 30)) := boxAt_below (boxAt_new ⟨a0, a1, a2⟩ w 30) (balloc _ _)
  have Y0 : BoxAt ⟨b0, b1, b2⟩ (w.heap.size + 1) ((w.alloc (.cells #[.float .f64 a0, .int .i64 a1, .int .i64 a2] 30)).alloc (.cells #[.float .f64 b0, .int .i64 b1, .int .i64 b2] 30)) := by
    have := boxAt_new ⟨b0, b1, b2⟩ (w.alloc (.cells #[.float .f64 a0, .int .i64 a1, .int .i64 a2] 30)) 30
    simpa using this
  have HW : Hid (Below w.heap.size w ((w.alloc (.cells #[.float .f64 a0, .int .i64 a1, .int .i64 a2] 30)).alloc (.cells #[.float .f64 b0, .int .i64 b1, .int .i64 b2] 30))) := (balloc _ _).alloc (by simp) _
  go_enter Try.func8, Try.ntmps8
  go_wp2_with fail
  generalize ((w.alloc (.cells #[.float .f64 a0, .int .i64 a1, .int .i64 a2] 30)).alloc (.cells #[.float .f64 b0, .int .i64 b1, .int .i64 b2] 30)) = W at X0 Y0 HW ⊢
  refine (H1.out _).mono ?_
  rintro e w1 ⟨rfl, hb1⟩
  have X1 := boxAt_below X0 hb1
  have Y1 := boxAt_below Y0 hb1
  have B1 := Lib.hid (bthen HW.out hb1)
  have XH1 := Lib.hid X1
  have YH1 := Lib.hid Y1
  obtain ⟨_, p0, p1, p2⟩ := X1
  obtain ⟨_, q0, q1, q2⟩ := Y1
  dsimp only at p0 p1 p2 q0 q1 q2
  clear X0 Y0 hb1
  go_wp2_with fail
  refine (H2.out _).mono ?_
  rintro e w2 ⟨rfl, hb2⟩
  have X2 := boxAt_below XH1.out hb2
  have Y2 := boxAt_below YH1.out hb2
  have B2 := Lib.hid (bthen B1.out hb2)
  clear p0 p1 p2 q0 q1 q2 hb2
  obtain ⟨_, p0, p1, p2⟩ := X2
  obtain ⟨_, q0, q1, q2⟩ := Y2
  dsimp only at p0 p1 p2 q0 q1 q2
  go_wp2_with fail
  refine (H3.out _).mono ?_
  rintro e w3 ⟨rfl, hb3⟩
  clear p0 p1 p2 q0 q1 q2
  go_wp2_with fail
  refine (awake2_any _).mono ?_
  rintro e w4 ⟨rfl, hb4⟩
  go_wp2_with fail
  go_ret
  exact ⟨by cases lt <;> cases eq <;> rfl, bthen (bthen B2.out hb3) hb4⟩

set_option maxHeartbeats 1600000 in
theorem bytes_bad (a0 b0 : Nat) (a1 a2 b1 b2 e f : Int) (k l : ByteArray) (w : World) (na nb : Bool)
    (H1 : Hid (∀ w, Calls Try.prog 21 #[.agg #[.float .f64 a0, .int .i64 a1, .int .i64 a2]] w fun e' w' => e' = .returned (.tuple #[.string k, .int .i64 e]) ∧ Below w.heap.size w w'))
    (H2 : Hid (∀ w, Calls Try.prog 21 #[.agg #[.float .f64 b0, .int .i64 b1, .int .i64 b2]] w fun e' w' => e' = .returned (.tuple #[.string l, .int .i64 f]) ∧ Below w.heap.size w w'))
    (h1 : (FloatKind.f64.format.order a0 a0 != some Ordering.eq) = na) (h2 : (FloatKind.f64.format.order b0 b0 != some Ordering.eq) = nb)
    (h3 : (e != 0) = na) (h4 : (f != 0) = nb) (h5 : (na || nb) = true) :
    Calls Try.prog 8 #[.agg #[.float .f64 a0, .int .i64 a1, .int .i64 a2], .agg #[.float .f64 b0, .int .i64 b1, .int .i64 b2]] w fun e w' => e = .returned (.bool true) ∧ Below w.heap.size w w' := by
  have X0 : BoxAt ⟨a0, a1, a2⟩ w.heap.size ((w.alloc (.cells #[.float .f64 a0, .int .i64 a1, .int .i64 a2] 30)).alloc (.cells #[.float .f64 b0, .int .i64 b1, .int .i64 b2] 30)) := boxAt_below (boxAt_new ⟨a0, a1, a2⟩ w 30) (balloc _ _)
  have Y0 : BoxAt ⟨b0, b1, b2⟩ (w.heap.size + 1) ((w.alloc (.cells #[.float .f64 a0, .int .i64 a1, .int .i64 a2] 30)).alloc (.cells #[.float .f64 b0, .int .i64 b1, .int .i64 b2] 30)) := by
    have := boxAt_new ⟨b0, b1, b2⟩ (w.alloc (.cells #[.float .f64 a0, .int .i64 a1, .int .i64 a2] 30)) 30
    simpa using this
  have HW : Hid (Below w.heap.size w ((w.alloc (.cells #[.float .f64 a0, .int .i64 a1, .int .i64 a2] 30)).alloc (.cells #[.float .f64 b0, .int .i64 b1, .int .i64 b2] 30))) := (balloc _ _).alloc (by simp) _
  cases na <;> cases nb
  · simp at h5
  all_goals
    clear h5
    go_enter Try.func8, Try.ntmps8
    go_wp2_with fail
    generalize ((w.alloc (.cells #[.float .f64 a0, .int .i64 a1, .int .i64 a2] 30)).alloc (.cells #[.float .f64 b0, .int .i64 b1, .int .i64 b2] 30)) = W at X0 Y0 HW ⊢
    refine (H1.out _).mono ?_
    rintro e w1 ⟨rfl, hb1⟩
    have X1 := boxAt_below X0 hb1
    have Y1 := boxAt_below Y0 hb1
    have B1 := Lib.hid (bthen HW.out hb1)
    have XH1 := Lib.hid X1
    have YH1 := Lib.hid Y1
    obtain ⟨_, p0, p1, p2⟩ := X1
    obtain ⟨_, q0, q1, q2⟩ := Y1
    dsimp only at p0 p1 p2 q0 q1 q2
    clear X0 Y0 hb1
    go_wp2_with fail
    refine (H2.out _).mono ?_
    rintro e w2 ⟨rfl, hb2⟩
    have X2 := boxAt_below XH1.out hb2
    have Y2 := boxAt_below YH1.out hb2
    have B2 := Lib.hid (bthen B1.out hb2)
    have XH2 := Lib.hid X2
    have YH2 := Lib.hid Y2
    clear p0 p1 p2 q0 q1 q2 hb2
    obtain ⟨_, p0, p1, p2⟩ := X2
    obtain ⟨_, q0, q1, q2⟩ := Y2
    dsimp only at p0 p1 p2 q0 q1 q2
    go_wp2_with fail
    refine (awake2_any _).mono ?_
    rintro e w4 ⟨rfl, hb4⟩
    have X3 := boxAt_below XH2.out hb4
    have Y3 := boxAt_below YH2.out hb4
    clear p0 p1 p2 q0 q1 q2
    obtain ⟨_, p0, p1, p2⟩ := X3
    obtain ⟨_, q0, q1, q2⟩ := Y3
    dsimp only at p0 p1 p2 q0 q1 q2
    go_wp2_with fail
    go_ret
    exact ⟨by first | rfl | simp, bthen B2.out hb4⟩

theorem nan_form (x : Nat) : (FloatKind.f64.format.order x x != some Ordering.eq) = decide (¬ isNum x) := by
  rw [bne, ord_eq]; by_cases h : isNum x <;> simp [h]

theorem stampBytes_walk (a0 : Nat) (a1 a2 : Int) (b0 : Nat) (b1 b2 : Int) (w : World) (g0 : (Lit.float .f64 a0).wf = true) (g1 : (Lit.int .i64 a1).wf = true) (g2 : (Lit.int .i64 a2).wf = true) (h0 : (Lit.float .f64 b0).wf = true) (h1 : (Lit.int .i64 b1).wf = true) (h2 : (Lit.int .i64 b2).wf = true) :
    Calls Try.prog 8 #[.agg #[.float .f64 a0, .int .i64 a1, .int .i64 a2], .agg #[.float .f64 b0, .int .i64 b1, .int .i64 b2]] w fun e w' => e = .returned (.bool true) ∧ Below w.heap.size w w' := by
  have K1 := key_parts a0 a1 a2 (wf_lt g0)
  have K2 := key_parts b0 b1 b2 (wf_lt h0)
  unfold keySpec at K1 K2
  by_cases na : isNum a0
  · simp only [na, if_true] at K1
    by_cases nb : isNum b0
    · simp only [nb, if_true] at K2
      obtain ⟨e1, e2⟩ := key_cmp a0 b0 a1 a2 b1 b2 (wf_lt g0) (wf_lt h0) na nb (i64_bd2 g1) (i64_bd2 g2) (i64_bd2 h1) (i64_bd2 h2)
      exact bytes_ok a0 b0 a1 a2 b1 b2 _ _ _ w _ _ K1 K2 (compare_parts a0 b0 a1 a2 b1 b2) e1 e2 rfl rfl
    · simp only [nb, if_false] at K2
      exact bytes_bad a0 b0 a1 a2 b1 b2 _ _ _ _ w false true K1 K2 (by rw [nan_form]; simp [na]) (by rw [nan_form]; simp [nb]) rfl rfl rfl
  · simp only [na, if_false] at K1
    by_cases nb : isNum b0
    · simp only [nb, if_true] at K2
      exact bytes_bad a0 b0 a1 a2 b1 b2 _ _ _ _ w true false K1 K2 (by rw [nan_form]; simp [na]) (by rw [nan_form]; simp [nb]) rfl rfl rfl
    · simp only [nb, if_false] at K2
      exact bytes_bad a0 b0 a1 a2 b1 b2 _ _ _ _ w true true K1 K2 (by rw [nan_form]; simp [na]) (by rw [nan_form]; simp [nb]) rfl rfl rfl

end Go.Proofs.Ytlcfibmgegjklaa
