/- What must come at any rate ('awake'), and the walks of DiceRolls, DiceWithin, DiceApart, DiceNone. -/
import Derived.Test.YtmoiajcmmpcgpaaDiceDice
import Derived.BigQuiet
import Derived.Test.YtmoiajcmmpcgpaaFrameAid
namespace Go.Proofs.Ytmoiajcmmpcgpaa
open Go.RowKit

theorem awake_core (w : World) (a q : Nat) (y : Int) (x : Nat)
    (H1 : Hid (∀ w, Calls Try.prog 16 #[.int .i64 1, .int .i64 2, .int .i64 5] w fun e w' => e = .returned (.pointer (some ⟨w.heap.size, 0, none⟩)) ∧ w' = w.alloc (.cells #[.int .u64 a, .int .i64 5] 47)))
    (H2 : Hid (∀ b w, DiceAt a 5 b w → Calls Try.prog 17 #[.pointer (some ⟨b, 0, none⟩), .int .i64 1000] w fun e w' => e = .returned (.tuple #[.int .i64 y, .bool true]) ∧ w' = w.setCell ⟨b, 1, none⟩ (.int .i64 6)))
    (H3 : Hid (∀ w, Calls Try.prog 10 #[.int .u64 0] w fun e w' => e = .returned (.int .u64 0) ∧ w = w'))
    (H4 : Hid (∀ w, Calls Try.prog 13 #[.int .i64 1, .int .i64 2, .int .i64 5] w fun e w' => e = .returned (.int .u64 q) ∧ w = w'))
    (H5 : Hid (∀ w, Calls Try.prog 15 #[.int .u64 q, .int .i64 1000] w fun e w' => e = .returned (.int .i64 y) ∧ w = w'))
    (H6 : Hid (∀ w, Calls Try.prog 12 #[.int .i64 1, .int .i64 2, .int .i64 3] w fun e w' => e = .returned (.int .u64 x) ∧ w = w'))
    (H7 : Hid (∀ w, Calls Try.prog 13 #[.int .i64 1, .int .i64 2, .int .i64 3] w fun e w' => e = .returned (.int .u64 x) ∧ w = w')) :
    Calls Try.prog 9 #[] w fun e w' => e = .returned (.bool true) ∧ Below w.heap.size w w' := by
  have HC := Lib.hid (@count_any)
  go_enter Try.func9, Try.ntmps9
  go_wp2_with fail
  refine (H1.out _).mono ?_
  rintro e w1 ⟨rfl, rfl⟩
  have HD := Lib.hid (diceAt_new a 5 w)
  have HB := Lib.hid (balloc w (.cells #[.int .u64 a, .int .i64 5] 47))
  generalize w.alloc (.cells #[.int .u64 a, .int .i64 5] 47) = W at HD HB ⊢
  go_wp2_with fail
  refine (H2.out _ _ HD.out).mono ?_
  rintro e w1 ⟨rfl, rfl⟩
  have HD2 := Lib.hid (diceAt_set HD.out 6)
  have HB2 := Lib.hid (HB.out.setCell (p := ⟨w.heap.size, 1, none⟩) (Nat.le_refl _) (.int .i64 6))
  generalize W.setCell ⟨w.heap.size, 1, none⟩ (.int .i64 6) = W2 at HD2 HB2 ⊢
  go_wp2_with fail
  refine (H3.out _).mono ?_
  rintro e w1 ⟨rfl, rfl⟩
  go_wp2_with fail
  refine (H4.out _).mono ?_
  rintro e w1 ⟨rfl, rfl⟩
  go_wp2_with fail
  refine (H5.out _).mono ?_
  rintro e w1 ⟨rfl, rfl⟩
  go_wp2_with fail
  refine (HC.out _ _ _ _ HD2.out).mono ?_
  rintro e w1 ⟨rfl, rfl⟩
  go_wp2_with fail
  refine (H6.out _).mono ?_
  rintro e w1 ⟨rfl, rfl⟩
  go_wp2_with fail
  refine (H7.out _).mono ?_
  rintro e w1 ⟨rfl, rfl⟩
  go_wp2_with fail
  go_ret
  exact ⟨by simp, HB2.out⟩

theorem awake4_any (w : World) :
    Calls Try.prog 9 #[] w fun e w' => e = .returned (.bool true) ∧ Below w.heap.size w w' := by
  refine awake_core w (wordN 1 2) (rollN 1 2 5) (belowN (rollN 1 2 5) 1000) (rollN 1 2 3) (fun w => new_any 1 2 5 w) (fun b w h => ?_) (fun w => ?_) (fun w => refRoll_any 1 2 5 w) (fun w => refBelow_any _ 1000 (stirN_lt _) (by decide) w) (fun w => roll_any 1 2 3 w) (fun w => refRoll_any 1 2 3 w)
  · have k := next_pos (wordN 1 2) 5 1000 b (by decide) (by decide) w h
    rw [rollN_behind, show wrap64 (5 + 1) = 6 from by decide +kernel] at k
    exact k
  · have k := stir_any 0 (by decide) w
    rw [show stirN 0 = 0 from by decide +kernel] at k
    exact k

theorem diceWithin_core (r n k : Int) (w : World) (h : (n < 1 ∧ k = 0) ∨ (1 ≤ n ∧ 0 ≤ k ∧ k < n))
    (H1 : Hid (∀ w, Calls Try.prog 14 #[.int .u64 r, .int .i64 n] w fun e w' => e = .returned (.int .i64 k) ∧ w = w')) :
    Calls Try.prog 6 #[.int .u64 r, .int .i64 n] w fun e w' => e = .returned (.bool true) ∧ Below w.heap.size w w' := by
  rcases h with ⟨c, rfl⟩ | ⟨c1, c2, c3⟩
  all_goals
    go_enter Try.func6, Try.ntmps6
    go_wp2_with fail
    refine (H1.out _).mono ?_
    rintro e w1 ⟨rfl, rfl⟩
    go_wp2_with fail
    refine (awake4_any _).mono ?_
    rintro e w1 ⟨rfl, hb1⟩
    go_wp2_with fail
    go_ret
    exact ⟨by simp, hb1⟩
theorem diceWithin_walk (r n : Int) (w : World) (hr : (Lit.int .u64 r).wf = true) (hn : (Lit.int .i64 n).wf = true) :
    Calls Try.prog 6 #[.int .u64 r, .int .i64 n] w fun e w' => e = .returned (.bool true) ∧ Below w.heap.size w w' := by
  have h1 := u64_bd hr
  have h2 := i64_bd hn
  obtain ⟨x, rfl⟩ := Int.eq_ofNat_of_zero_le h1.1
  refine diceWithin_core x n (belowN x n) w ?_ (below_any x n (by omega) h2.2)
  have k := belowN_within x n
  by_cases c : n < 1
  · exact Or.inl ⟨c, k.1 c⟩
  · exact Or.inr ⟨by omega, k.2 (by omega)⟩

theorem diceNone_walk (n : Int) (w : World) (_hn : (Lit.int .i64 n).wf = true) :
    Calls Try.prog 8 #[.int .i64 n] w fun e w' => e = .returned (.bool true) ∧ Below w.heap.size w w' := by
  clear _hn
  go_enter Try.func8, Try.ntmps8
  go_wp2_with fail
  refine (next_nil n _).mono ?_
  rintro e w1 ⟨rfl, rfl⟩
  go_wp2_with fail
  refine (awake4_any _).mono ?_
  rintro e w1 ⟨rfl, hb1⟩
  go_wp2_with fail
  refine (count_nil _).mono ?_
  rintro e w2 ⟨rfl, rfl⟩
  go_wp2_with fail
  go_ret
  exact ⟨rfl, hb1⟩

theorem diceRolls_core (a b c n z : Int) (sl : Value) (q t y : Int) (w : World)
    (H1 : Hid (∀ w, Calls Try.prog 10 #[.int .u64 z] w fun e w' => e = .returned (.int .u64 q) ∧ w = w'))
    (H2 : Hid (∀ w, Calls Try.prog 11 #[.int .u64 z] w fun e w' => e = .returned (.int .u64 q) ∧ w = w'))
    (H3 : Hid (∀ w, Calls Try.prog 12 #[.int .i64 a, .int .i64 b, .int .i64 c] w fun e w' => e = .returned (.int .u64 t) ∧ w = w'))
    (H4 : Hid (∀ w, Calls Try.prog 13 #[.int .i64 a, .int .i64 b, .int .i64 c] w fun e w' => e = .returned (.int .u64 t) ∧ w = w'))
    (H5 : Hid (∀ w, Calls Try.prog 14 #[.int .u64 z, .int .i64 n] w fun e w' => e = .returned (.int .i64 y) ∧ w = w'))
    (H6 : Hid (∀ w, Calls Try.prog 15 #[.int .u64 z, .int .i64 n] w fun e w' => e = .returned (.int .i64 y) ∧ w = w')) :
    Calls Try.prog 3 #[.agg #[.int .i64 a, .int .i64 b, .int .i64 c, .int .i64 n, .int .u64 z, sl]] w fun e w' => e = .returned (.bool true) ∧ Below w.heap.size w w' := by
  go_enter Try.func3, Try.ntmps3
  go_wp2_with fail
  go_quiet (fail)
  have HB := Lib.hid (bdrewN (balloc w (.cells #[.int .i64 a, .int .i64 b, .int .i64 c, .int .i64 n, .int .u64 z, sl] 25)) nq)
  generalize (w.alloc (.cells #[.int .i64 a, .int .i64 b, .int .i64 c, .int .i64 n, .int .u64 z, sl] 25)).drewN nq = W at HB ⊢
  go_wp2_with fail
  refine (awake4_any _).mono ?_
  rintro e w1 ⟨rfl, hb1⟩
  go_wp2_with fail
  refine (H1.out _).mono ?_
  rintro e w2 ⟨rfl, rfl⟩
  go_wp2_with fail
  refine (H2.out _).mono ?_
  rintro e w2 ⟨rfl, rfl⟩
  go_wp2_with fail
  refine (H3.out _).mono ?_
  rintro e w2 ⟨rfl, rfl⟩
  go_wp2_with fail
  refine (H4.out _).mono ?_
  rintro e w2 ⟨rfl, rfl⟩
  go_wp2_with fail
  refine (H5.out _).mono ?_
  rintro e w2 ⟨rfl, rfl⟩
  go_wp2_with fail
  refine (H6.out _).mono ?_
  rintro e w2 ⟨rfl, rfl⟩
  go_wp2_with fail
  go_ret
  exact ⟨by simp, bthen HB.out hb1⟩

theorem diceRolls_walk (a b c n z : Int) (sa : Option Addr) (len cap : Nat) (zs : List Int) (w : World) (_ha : (Lit.int .i64 a).wf = true) (_hb : (Lit.int .i64 b).wf = true) (_hc : (Lit.int .i64 c).wf = true) (hn : (Lit.int .i64 n).wf = true) (hz : (Lit.int .u64 z).wf = true) (_hs : IsRow .i64 w sa len cap zs) :
    Calls Try.prog 3 #[.agg #[.int .i64 a, .int .i64 b, .int .i64 c, .int .i64 n, .int .u64 z, .slice sa len cap]] w fun e w' => e = .returned (.bool true) ∧ Below w.heap.size w w' := by
  have h1 := u64_bd hz
  have h2 := i64_bd hn
  obtain ⟨x, rfl⟩ := Int.eq_ofNat_of_zero_le h1.1
  exact diceRolls_core a b c n x _ _ _ _ w (stir_any x (by omega)) (refStir_any x (by omega)) (roll_any a b c) (refRoll_any a b c) (below_any x n (by omega) h2.2) (refBelow_any x n (by omega) h2.2)

theorem diceApart_core (a b s p n m qa qb tn tm : Int) (w : World) (he : (qa == qb) = (a == b)) (hf : (tn == tm) = (n == m))
    (H1 : Hid (∀ w, Calls Try.prog 10 #[.int .u64 a] w fun e w' => e = .returned (.int .u64 qa) ∧ w = w'))
    (H2 : Hid (∀ w, Calls Try.prog 10 #[.int .u64 b] w fun e w' => e = .returned (.int .u64 qb) ∧ w = w'))
    (H3 : Hid (∀ w, Calls Try.prog 12 #[.int .i64 s, .int .i64 p, .int .i64 n] w fun e w' => e = .returned (.int .u64 tn) ∧ w = w'))
    (H4 : Hid (∀ w, Calls Try.prog 12 #[.int .i64 s, .int .i64 p, .int .i64 m] w fun e w' => e = .returned (.int .u64 tm) ∧ w = w')) :
    Calls Try.prog 7 #[.agg #[.int .u64 a, .int .u64 b, .int .i64 s, .int .i64 p, .int .i64 n, .int .i64 m]] w fun e w' => e = .returned (.bool true) ∧ Below w.heap.size w w' := by
  have hx : ((qa == qb) == (a == b)) = true := by rw [he]; simp
  have hy : ((tn == tm) == (n == m)) = true := by rw [hf]; simp
  clear he hf
  go_enter Try.func7, Try.ntmps7
  go_wp2_with fail
  go_quiet (fail)
  have HB := Lib.hid (bdrewN (balloc w (.cells #[.int .u64 a, .int .u64 b, .int .i64 s, .int .i64 p, .int .i64 n, .int .i64 m] 38)) nq)
  generalize (w.alloc (.cells #[.int .u64 a, .int .u64 b, .int .i64 s, .int .i64 p, .int .i64 n, .int .i64 m] 38)).drewN nq = W at HB ⊢
  go_wp2_with fail
  refine (awake4_any _).mono ?_
  rintro e w1 ⟨rfl, hb1⟩
  go_wp2_with fail
  refine (H1.out _).mono ?_
  rintro e w2 ⟨rfl, rfl⟩
  go_wp2_with fail
  refine (H2.out _).mono ?_
  rintro e w2 ⟨rfl, rfl⟩
  go_wp2_with fail
  refine (H3.out _).mono ?_
  rintro e w2 ⟨rfl, rfl⟩
  go_wp2_with fail
  refine (H4.out _).mono ?_
  rintro e w2 ⟨rfl, rfl⟩
  go_wp2_with fail
  go_ret
  exact ⟨by first | rfl | simp [hy], bthen HB.out hb1⟩

theorem diceApart_walk (a b s p n m : Int) (w : World) (ha : (Lit.int .u64 a).wf = true) (hb : (Lit.int .u64 b).wf = true) (_hs : (Lit.int .i64 s).wf = true) (_hp : (Lit.int .i64 p).wf = true) (hn : (Lit.int .i64 n).wf = true) (hm : (Lit.int .i64 m).wf = true) :
    Calls Try.prog 7 #[.agg #[.int .u64 a, .int .u64 b, .int .i64 s, .int .i64 p, .int .i64 n, .int .i64 m]] w fun e w' => e = .returned (.bool true) ∧ Below w.heap.size w w' := by
  have h1 := u64_bd ha
  have h2 := u64_bd hb
  have h3 := i64_bd hn
  have h4 := i64_bd hm
  obtain ⟨x, rfl⟩ := Int.eq_ofNat_of_zero_le h1.1
  obtain ⟨y, rfl⟩ := Int.eq_ofNat_of_zero_le h2.1
  refine diceApart_core x y s p n m _ _ _ _ w ?_ ?_ (stir_any x (by omega)) (stir_any y (by omega)) (roll_any s p n) (roll_any s p m)
  · have i := stirN_inj x y (by omega) (by omega)
    rw [Bool.eq_iff_iff]
    simp only [beq_iff_eq]
    exact ⟨fun h => congrArg Nat.cast (i (Int.ofNat_inj.mp h)), fun h => by rw [Int.ofNat_inj.mp h]⟩
  · have i := rollN_inj s p n m h3 h4
    rw [Bool.eq_iff_iff]
    simp only [beq_iff_eq]
    exact ⟨fun h => i (Int.ofNat_inj.mp h), fun h => by rw [h]⟩

end Go.Proofs.Ytmoiajcmmpcgpaa
