/- The contracts of the document's quot, two. The contracts of dice.Stir and of the document's Stir. The contracts of dice.behind, wordOf, roll, Roll, Below, and of the document's Word, Roll, Below. -/
import Derived.WalkKit
import Derived.WalkSpells
import Derived.WalkLawsBesides
import Derived.Lib.Hide
import Derived.WalkSmall
import Derived.Test.YthkfaeplmmlnlaaGreatRZ1
import Derived.Test.YthkfaeplmmlnlaaGreatRows
namespace Go.Proofs.YthkfaeplmmlnlaaGreat
open Go.RowKit
set_option linter.unusedVariables false
set_option maxRecDepth 100000

theorem quot7_any (b c : Int) (h0 : c ≠ 0) (w : World) :
    Calls Tryz.prog 108 #[.int .i64 b, .int .i64 c] w fun e w' => e = .returned (.tuple #[.int .i64 (quotQ b c), .int .i64 (quotR b c)]) ∧ ∃ m, w' = w.drewN m := by
  by_cases h1 : c = -1
  · subst h1
    go_enter Tryz.func108, Tryz.ntmps108
    go_wp2_with fail
    exact bodyPost_ret (v := .tuple #[.int .i64 (wrap64 (-b)), .int .i64 0]) (by simp [results, Tryz.results108, go_sem]) rfl ⟨by rw [quotQ_neg, quotR_neg], 0, rfl⟩
  · have d1 : (c == -1) = false := by simp [h1]
    have hq : quotQ b c = wrap64 (b.tdiv c) := rfl
    have hr := quotR_eq b c
    rw [hq, ← hr]
    clear hq hr
    go_enter Tryz.func108, Tryz.ntmps108
    go_wp2_with fail
    go_region
    go_wp2_with fail
    exact bodyPost_ret (v := .tuple #[.int .i64 (wrap64 (b.tdiv c)), .int .i64 (wrap64 (b - wrap64 (wrap64 (b.tdiv c) * c)))]) (by simp [results, Tryz.results108, go_sem]) rfl ⟨rfl, 1, rfl⟩

theorem two7_any (op b c : Int) (h3 : 3 ≤ op) (h8 : op ≤ 8) (w : World) :
    Calls Tryz.prog 101 #[.int .i64 op, .int .i64 b, .int .i64 c] w fun e w' => e = .returned (.tuple #[.int .i64 (if twoF op c = 0 then twoV op b c else 0), .int .i64 (twoF op c)]) ∧ ∃ m, w' = w.drewN m := by
  have HQ := Lib.hid (quot7_any b c)
  have hop : op = 3 ∨ op = 4 ∨ op = 5 ∨ op = 6 ∨ op = 7 ∨ op = 8 := by omega
  clear h3 h8
  rcases hop with rfl | rfl | rfl | rfl | rfl | rfl
  · show Calls _ _ _ _ fun e w' => e = .returned (.tuple #[.int .i64 (wrap64 (b + c)), .int .i64 0]) ∧ _
    go_enter Tryz.func101, Tryz.ntmps101
    go_wp2_with fail
    exact bodyPost_ret (v := .tuple #[.int .i64 (wrap64 (b + c)), .int .i64 0]) (by simp [results, Tryz.results101, go_sem]) rfl ⟨rfl, 0, rfl⟩
  · show Calls _ _ _ _ fun e w' => e = .returned (.tuple #[.int .i64 (wrap64 (b - c)), .int .i64 0]) ∧ _
    go_enter Tryz.func101, Tryz.ntmps101
    go_wp2_with fail
    exact bodyPost_ret (v := .tuple #[.int .i64 (wrap64 (b - c)), .int .i64 0]) (by simp [results, Tryz.results101, go_sem]) rfl ⟨rfl, 0, rfl⟩
  · show Calls _ _ _ _ fun e w' => e = .returned (.tuple #[.int .i64 (wrap64 (b * c)), .int .i64 0]) ∧ _
    go_enter Tryz.func101, Tryz.ntmps101
    go_wp2_with fail
    exact bodyPost_ret (v := .tuple #[.int .i64 (wrap64 (b * c)), .int .i64 0]) (by simp [results, Tryz.results101, go_sem]) rfl ⟨rfl, 0, rfl⟩
  · by_cases h0 : c = 0
    · subst h0
      go_enter Tryz.func101, Tryz.ntmps101
      go_wp2_with fail
      exact bodyPost_ret (v := .tuple #[.int .i64 0, .int .i64 2]) (by simp [results, Tryz.results101, go_sem]) rfl ⟨rfl, 0, rfl⟩
    · have d0 : (c == 0) = false := by simp [h0]
      have e1 : twoF 6 c = 0 := by unfold twoF; simp [h0]
      have e2 : twoV 6 b c = quotQ b c := by unfold twoV; simp
      rw [e1, if_pos rfl, e2]
      have HQ1 := Lib.hid (HQ.out h0)
      clear HQ e1 e2 h0
      go_enter Tryz.func101, Tryz.ntmps101
      go_wp2_with (refine (HQ1.out _).mono ?_; rintro e w1 ⟨rfl, m1, rfl⟩)
      exact bodyPost_ret (v := .tuple #[.int .i64 (quotQ b c), .int .i64 0]) (by simp [results, Tryz.results101, go_sem]) rfl ⟨rfl, m1, rfl⟩
  · by_cases h0 : c = 0
    · subst h0
      go_enter Tryz.func101, Tryz.ntmps101
      go_wp2_with fail
      exact bodyPost_ret (v := .tuple #[.int .i64 0, .int .i64 2]) (by simp [results, Tryz.results101, go_sem]) rfl ⟨rfl, 0, rfl⟩
    · have d0 : (c == 0) = false := by simp [h0]
      have e1 : twoF 7 c = 0 := by unfold twoF; simp [h0]
      have e2 : twoV 7 b c = quotR b c := by unfold twoV; simp
      rw [e1, if_pos rfl, e2]
      have HQ1 := Lib.hid (HQ.out h0)
      clear HQ e1 e2 h0
      go_enter Tryz.func101, Tryz.ntmps101
      go_wp2_with (refine (HQ1.out _).mono ?_; rintro e w1 ⟨rfl, m1, rfl⟩)
      exact bodyPost_ret (v := .tuple #[.int .i64 (quotR b c), .int .i64 0]) (by simp [results, Tryz.results101, go_sem]) rfl ⟨rfl, m1, rfl⟩
  · by_cases h0 : b < c
    · have d0 : decide (b < c) = true := by simp [h0]
      have e2 : (if twoF 8 c = 0 then twoV 8 b c else 0) = 1 := by unfold twoF twoV; simp [h0]
      rw [e2]
      clear e2
      go_enter Tryz.func101, Tryz.ntmps101
      go_wp2_with fail
      exact bodyPost_ret (v := .tuple #[.int .i64 1, .int .i64 0]) (by simp [results, Tryz.results101, go_sem]) rfl ⟨rfl, 0, rfl⟩
    · have d0 : decide (b < c) = false := by simp [h0]
      have e2 : (if twoF 8 c = 0 then twoV 8 b c else 0) = 0 := by unfold twoF twoV; simp [h0]
      rw [e2]
      clear e2
      go_enter Tryz.func101, Tryz.ntmps101
      go_wp2_with fail
      exact bodyPost_ret (v := .tuple #[.int .i64 0, .int .i64 0]) (by simp [results, Tryz.results101, go_sem]) rfl ⟨rfl, 0, rfl⟩

end Go.Proofs.YthkfaeplmmlnlaaGreat
namespace Go.Proofs.YthkfaeplmmlnlaaGreat
open Go.RowKit


theorem xs_step (k : Nat) (q : Int) (hq : q = ((2 ^ k : Nat) : Int)) (x : Nat) (hx : x < 18446744073709551616) : bits .xor .u64 (x : Int) ((x : Int) / q) = ((xsN k x : Nat) : Int) := by
  subst hq
  have e : ((x : Int) / ((2 ^ k : Nat) : Int)) = ((x / 2 ^ k : Nat) : Int) := (Int.natCast_ediv _ _).symm
  rw [e]
  exact bits_xor_u64 x (x / 2 ^ k) hx (Nat.lt_of_le_of_lt (Nat.div_le_self _ _) hx)
theorem xs_step2 (k : Nat) (q : Int) (hq : q = ((2 ^ k : Nat) : Int)) (x : Nat) (hx : x < 18446744073709551616) : bits .xor .u64 (x : Int) (IntKind.u64.wrap ((x : Int).tdiv q)) = ((xsN k x : Nat) : Int) := by
  have h1 : 1 ≤ q := by rw [hq]; have := Nat.two_pow_pos k; omega
  rw [IntWalk.u64_quo (x : Int) q ⟨by omega, by omega, h1⟩]
  exact xs_step k q hq x hx
theorem mul_step (m : Nat) (x : Nat) : IntKind.u64.wrap ((x : Int) * (m : Int)) = ((mulN m x : Nat) : Int) := by
  rw [IntKind.wrap_u64]
  unfold mulN
  rw [Int.natCast_emod, Int.natCast_mul]
  rfl

/-- what dice.Stir reckons -/
def stirI (z : Int) : Int :=
  bits .xor .u64 (IntKind.u64.wrap (bits .xor .u64 (IntKind.u64.wrap (bits .xor .u64 z (z / 1073741824) * 13787848793156543929)) (IntKind.u64.wrap (bits .xor .u64 z (z / 1073741824) * 13787848793156543929) / 134217728) * 10723151780598845931))
    (IntKind.u64.wrap (bits .xor .u64 (IntKind.u64.wrap (bits .xor .u64 z (z / 1073741824) * 13787848793156543929)) (IntKind.u64.wrap (bits .xor .u64 z (z / 1073741824) * 13787848793156543929) / 134217728) * 10723151780598845931) / 2147483648)
/-- what the document's Stir reckons -/
def stirR (z : Int) : Int :=
  bits .xor .u64 (IntKind.u64.wrap (bits .xor .u64 (IntKind.u64.wrap (bits .xor .u64 z (z / 1073741824) * 13787848793156543929)) (IntKind.u64.wrap ((IntKind.u64.wrap (bits .xor .u64 z (z / 1073741824) * 13787848793156543929)).tdiv 134217728)) * 10723151780598845931))
    (IntKind.u64.wrap ((IntKind.u64.wrap (bits .xor .u64 (IntKind.u64.wrap (bits .xor .u64 z (z / 1073741824) * 13787848793156543929)) (IntKind.u64.wrap ((IntKind.u64.wrap (bits .xor .u64 z (z / 1073741824) * 13787848793156543929)).tdiv 134217728)) * 10723151780598845931)).tdiv 2147483648))
theorem stirI_eq (z : Nat) (hz : z < 18446744073709551616) : stirI (z : Int) = ((stirN z : Nat) : Int) := by
  unfold stirI stirN
  rw [xs_step 30 1073741824 (by decide) z hz]
  have m1 := mul_step 13787848793156543929 (xsN 30 z)
  have l1 := mulN_lt 13787848793156543929 (xsN 30 z)
  rw [show ((13787848793156543929 : Nat) : Int) = (13787848793156543929 : Int) from rfl] at m1
  rw [m1]
  generalize mulN 13787848793156543929 (xsN 30 z) = b at l1
  rw [xs_step 27 134217728 (by decide) b l1]
  have m2 := mul_step 10723151780598845931 (xsN 27 b)
  have l2 := mulN_lt 10723151780598845931 (xsN 27 b)
  rw [show ((10723151780598845931 : Nat) : Int) = (10723151780598845931 : Int) from rfl] at m2
  rw [m2]
  generalize mulN 10723151780598845931 (xsN 27 b) = d at l2
  exact xs_step 31 2147483648 (by decide) d l2
theorem stirR_eq (z : Nat) (hz : z < 18446744073709551616) : stirR (z : Int) = ((stirN z : Nat) : Int) := by
  unfold stirR stirN
  rw [xs_step 30 1073741824 (by decide) z hz]
  have m1 := mul_step 13787848793156543929 (xsN 30 z)
  have l1 := mulN_lt 13787848793156543929 (xsN 30 z)
  rw [show ((13787848793156543929 : Nat) : Int) = (13787848793156543929 : Int) from rfl] at m1
  rw [m1]
  generalize mulN 13787848793156543929 (xsN 30 z) = b at l1
  rw [xs_step2 27 134217728 (by decide) b l1]
  have m2 := mul_step 10723151780598845931 (xsN 27 b)
  have l2 := mulN_lt 10723151780598845931 (xsN 27 b)
  rw [show ((10723151780598845931 : Nat) : Int) = (10723151780598845931 : Int) from rfl] at m2
  rw [m2]
  generalize mulN 10723151780598845931 (xsN 27 b) = d at l2
  exact xs_step2 31 2147483648 (by decide) d l2

theorem stir_any (z : Nat) (hz : z < 18446744073709551616) (w : World) :
    Calls Tryz.prog 117 #[.int .u64 z] w fun e w' => e = .returned (.int .u64 (stirN z)) ∧ w = w' := by
  have E := Lib.hid (stirI_eq z hz)
  go_enter Tryz.func117, Tryz.ntmps117
  go_wp2_with fail
  go_ret
  exact ⟨by rw [← E.out]; rfl, rfl⟩

theorem refStir_any (z : Nat) (hz : z < 18446744073709551616) (w : World) :
    Calls Tryz.prog 106 #[.int .u64 z] w fun e w' => e = .returned (.int .u64 (stirN z)) ∧ w = w' := by
  have E := Lib.hid (stirR_eq z hz)
  go_enter Tryz.func106, Tryz.ntmps106
  go_wp2_with fail
  go_ret
  exact ⟨by rw [← E.out]; rfl, rfl⟩

end Go.Proofs.YthkfaeplmmlnlaaGreat
namespace Go.Proofs.YthkfaeplmmlnlaaGreat
open Go.RowKit

theorem u64N_eq (n : Int) : IntKind.u64.wrap n = ((u64N n : Nat) : Int) := by
  rw [IntKind.wrap_u64]; unfold u64N; omega
/-- the place that is stirred, as the code reckons it -/
def placeI (a n : Int) : Int := IntKind.u64.wrap (a + IntKind.u64.wrap (IntKind.u64.wrap (IntKind.u64.wrap n + 1) * 11400714819323198485))
theorem placeI_eq (a : Nat) (n : Int) : placeI (a : Int) n = ((addN a (u64N n) : Nat) : Int) := by
  unfold placeI addN mulN u64N
  simp only [IntKind.wrap_u64]
  have h0 : (((n % 18446744073709551616).toNat : Nat) : Int) = n % 18446744073709551616 := Int.toNat_of_nonneg (by omega)
  rw [Int.natCast_emod, Int.natCast_add, Int.natCast_emod, Int.natCast_mul, Int.natCast_add, h0]
  have e : ∀ p q : Int, (p % 18446744073709551616 * q) % 18446744073709551616 = p * q % 18446744073709551616 := fun p q => by
    rw [Int.mul_emod, Int.emod_emod, ← Int.mul_emod]
  rw [e]
  rfl
/-- what lies a number's gaps behind a start, stirred -/
def behindN (a : Nat) (n : Int) : Nat := stirN (addN a (u64N n))
theorem behindN_lt (a : Nat) (n : Int) : behindN a n < 18446744073709551616 := stirN_lt _
theorem wordN_behind (s p : Int) : behindN (u64N s) p = wordN s p := rfl
theorem rollN_behind (s p c : Int) : behindN (wordN s p) c = rollN s p c := rfl

theorem behind_any (a : Nat) (n : Int) (w : World) :
    Calls Tryz.prog 115 #[.int .u64 a, .int .i64 n] w fun e w' => e = .returned (.int .u64 (behindN a n)) ∧ w = w' := by
  have h := stir_any (addN a (u64N n)) (addN_lt _ _)
  rw [← placeI_eq] at h
  have H := Lib.hid h
  clear h
  unfold behindN
  generalize stirN (addN a (u64N n)) = q at H ⊢
  go_enter Tryz.func115, Tryz.ntmps115
  go_wp2_with (go_at_call 117; refine (H.out _).mono ?_; rintro e w' ⟨rfl, rfl⟩)
  go_ret
  exact ⟨rfl, rfl⟩

theorem wordOf_any (s p : Int) (w : World) :
    Calls Tryz.prog 109 #[.int .i64 s, .int .i64 p] w fun e w' => e = .returned (.int .u64 (wordN s p)) ∧ w = w' := by
  have h := behind_any (u64N s) p
  rw [← u64N_eq, wordN_behind] at h
  have H := Lib.hid h
  clear h
  generalize wordN s p = q at H ⊢
  go_enter Tryz.func109, Tryz.ntmps109
  go_wp2_with (go_at_call 115; refine (H.out _).mono ?_; rintro e w' ⟨rfl, rfl⟩)
  go_ret
  exact ⟨rfl, rfl⟩

theorem wroll_any (a : Nat) (c : Int) (w : World) :
    Calls Tryz.prog 120 #[.int .u64 a, .int .i64 c] w fun e w' => e = .returned (.int .u64 (behindN a c)) ∧ w = w' := by
  have H := Lib.hid (behind_any a c)
  generalize behindN a c = q at H ⊢
  go_enter Tryz.func120, Tryz.ntmps120
  go_wp2_with (go_at_call 115; refine (H.out _).mono ?_; rintro e w' ⟨rfl, rfl⟩)
  go_ret
  exact ⟨rfl, rfl⟩

theorem refWord_any (s p : Int) (w : World) :
    Calls Tryz.prog 107 #[.int .i64 s, .int .i64 p] w fun e w' => e = .returned (.int .u64 (wordN s p)) ∧ w = w' := by
  have h := refStir_any (addN (u64N s) (u64N p)) (addN_lt _ _)
  rw [← placeI_eq, ← u64N_eq] at h
  have e : stirN (addN (u64N s) (u64N p)) = wordN s p := rfl
  rw [e] at h
  have H := Lib.hid h
  clear h e
  generalize wordN s p = q at H ⊢
  go_enter Tryz.func107, Tryz.ntmps107
  go_wp2_with (go_at_call 106; refine (H.out _).mono ?_; rintro e w' ⟨rfl, rfl⟩)
  go_ret
  exact ⟨rfl, rfl⟩

theorem refRoll_any (s p c : Int) (w : World) :
    Calls Tryz.prog 99 #[.int .i64 s, .int .i64 p, .int .i64 c] w fun e w' => e = .returned (.int .u64 (rollN s p c)) ∧ w = w' := by
  have H1 := Lib.hid (refWord_any s p)
  have h := refStir_any (addN (wordN s p) (u64N c)) (addN_lt _ _)
  rw [← placeI_eq] at h
  have e : stirN (addN (wordN s p) (u64N c)) = rollN s p c := rfl
  rw [e] at h
  have H2 := Lib.hid h
  clear h e
  generalize rollN s p c = q at H2 ⊢
  generalize wordN s p = a at H1 H2
  go_enter Tryz.func99, Tryz.ntmps99
  go_wp2_with (first | (go_at_call 107; refine (H1.out _).mono ?_; rintro e w' ⟨rfl, rfl⟩) | (go_at_call 106; refine (H2.out _).mono ?_; rintro e w' ⟨rfl, rfl⟩))
  go_ret
  exact ⟨rfl, rfl⟩

theorem below_num (r : Nat) (n : Int) (h1 : 1 ≤ n) (hn : n ≤ 9223372036854775807) : wrap64 ((r : Int) % n) = (r : Int) % n := by
  have a := Int.emod_nonneg (r : Int) (show n ≠ 0 by omega)
  have b := Int.emod_lt_of_pos (r : Int) (show 0 < n by omega)
  generalize (r : Int) % n = q at a b ⊢
  unfold wrap64; omega
theorem refBelow_num (r : Nat) (n : Int) (hr : r < 18446744073709551616) (h1 : 1 ≤ n) (hn : n ≤ 9223372036854775807) :
    wrap64 (IntKind.u64.wrap ((r : Int) - IntKind.u64.wrap (IntKind.u64.wrap ((r : Int) / n) * n))) = (r : Int) % n := by
  have a := Int.emod_nonneg (r : Int) (show n ≠ 0 by omega)
  have b := Int.emod_lt_of_pos (r : Int) (show 0 < n by omega)
  have c := Int.emod_add_mul_ediv (r : Int) n
  have d : 0 ≤ (r : Int) / n := Int.ediv_nonneg (by omega) (by omega)
  have e : (r : Int) / n ≤ r := Int.ediv_le_self _ (by omega)
  rw [IntWalk.u64_in ((r : Int) / n) ⟨d, by omega⟩]
  rw [Int.mul_comm] at c
  have f : 0 ≤ (r : Int) / n * n := Int.mul_nonneg d (by omega)
  rw [IntWalk.u64_in ((r : Int) / n * n) ⟨f, by omega⟩]
  rw [show (r : Int) - (r : Int) / n * n = (r : Int) % n from by omega]
  rw [IntWalk.u64_in _ ⟨a, by omega⟩]
  exact below_num r n h1 hn

theorem below_any (r : Nat) (n : Int) (hr : r < 18446744073709551616) (hn : n ≤ 9223372036854775807) (w : World) :
    Calls Tryz.prog 118 #[.int .u64 r, .int .i64 n] w fun e w' => e = .returned (.int .i64 (belowN r n)) ∧ w = w' := by
  unfold belowN
  by_cases c : n < 1
  · rw [if_pos c]
    go_enter Tryz.func118, Tryz.ntmps118
    go_wp2_with fail
    go_ret
    exact ⟨rfl, rfl⟩
  · rw [if_neg c]
    have E : Hid (wrap64 ((r : Int) % n) = (r : Int) % n) := below_num r n (by omega) hn
    go_enter Tryz.func118, Tryz.ntmps118
    go_wp2_with fail
    go_ret
    exact ⟨congrArg (fun q => Ending.returned (.int .i64 q)) E.out, rfl⟩

theorem refBelow_any (r : Nat) (n : Int) (hr : r < 18446744073709551616) (hn : n ≤ 9223372036854775807) (w : World) :
    Calls Tryz.prog 98 #[.int .u64 r, .int .i64 n] w fun e w' => e = .returned (.int .i64 (belowN r n)) ∧ w = w' := by
  unfold belowN
  by_cases c : n < 1
  · rw [if_pos c]
    go_enter Tryz.func98, Tryz.ntmps98
    go_wp2_with fail
    go_ret
    exact ⟨rfl, rfl⟩
  · rw [if_neg c]
    have E := Lib.hid (refBelow_num r n hr (by omega) hn)
    go_enter Tryz.func98, Tryz.ntmps98
    go_wp2_with fail
    go_ret
    exact ⟨by rw [← E.out]; rfl, rfl⟩

end Go.Proofs.YthkfaeplmmlnlaaGreat
