/- The contracts of stamp.bitsOf, timeOf, isKept. -/
import Derived.Test.YtlcfibmgegjklaaStampKeyMath
namespace Go.Proofs.Ytlcfibmgegjklaa
open Go.RowKit

theorem bits_and_u64 (x y : Nat) (hx : x < 2 ^ 64) (hy : y < 2 ^ 64) : bits .and .u64 (x : Int) (y : Int) = ((x &&& y : Nat) : Int) := by
  have h := Nat.and_lt_two_pow x hy
  show IntKind.u64.wrap (((BitVec.ofInt 64 (x : Int) &&& BitVec.ofInt 64 (y : Int)).toNat : Nat) : Int) = _
  rw [BitVec.toNat_and, BitVec.toNat_ofInt, BitVec.toNat_ofInt]
  have ex : ((x : Int) % ((2 ^ 64 : Nat) : Int)).toNat = x := by omega
  have ey : ((y : Int) % ((2 ^ 64 : Nat) : Int)).toNat = y := by omega
  rw [ex, ey]
  exact IntWalk.u64_in _ (by omega)
theorem bits_xor_u64 (x y : Nat) (hx : x < 2 ^ 64) (hy : y < 2 ^ 64) : bits .xor .u64 (x : Int) (y : Int) = ((x ^^^ y : Nat) : Int) := by
  have h := Nat.xor_lt_two_pow hx hy
  show IntKind.u64.wrap (((BitVec.ofInt 64 (x : Int) ^^^ BitVec.ofInt 64 (y : Int)).toNat : Nat) : Int) = _
  rw [BitVec.toNat_xor, BitVec.toNat_ofInt, BitVec.toNat_ofInt]
  have ex : ((x : Int) % ((2 ^ 64 : Nat) : Int)).toNat = x := by omega
  have ey : ((y : Int) % ((2 ^ 64 : Nat) : Int)).toNat = y := by omega
  rw [ex, ey]
  exact IntWalk.u64_in _ (by omega)

/-- the highest bit alone -/
theorem and_top (x : Nat) (h : x < 18446744073709551616) : bits .and .u64 (x : Int) 9223372036854775808 = if x < 9223372036854775808 then 0 else 9223372036854775808 := by
  have e := bits_and_u64 x 9223372036854775808 h (by decide)
  refine e.trans ?_
  have h1 : (x &&& 9223372036854775808) % 2 ^ 63 = 0 := by
    rw [Nat.and_mod_two_pow]; rw [show 9223372036854775808 % 2 ^ 63 = 0 from by decide, Nat.and_zero]
  have h2 : (x &&& 9223372036854775808) / 2 ^ 63 = x / 2 ^ 63 &&& 1 := by
    rw [Nat.and_div_two_pow]
  have hs := Nat.div_add_mod (x &&& 9223372036854775808) (2 ^ 63)
  rw [h1, h2] at hs
  split
  · rw [show x / 2 ^ 63 = 0 from by omega] at hs
    rw [show (0 &&& 1 : Nat) = 0 from by decide] at hs
    omega
  · rw [show x / 2 ^ 63 = 1 from by omega] at hs
    rw [show (1 &&& 1 : Nat) = 1 from by decide] at hs
    omega
/-- the highest bit turned -/
theorem xor_top (x : Nat) (h : x < 18446744073709551616) : bits .xor .u64 (x : Int) 9223372036854775808 = if x < 9223372036854775808 then (x : Int) + 9223372036854775808 else (x : Int) - 9223372036854775808 := by
  have e := bits_xor_u64 x 9223372036854775808 h (by decide)
  refine e.trans ?_
  have h1 : (x ^^^ 9223372036854775808) % 2 ^ 63 = x % 2 ^ 63 := by
    rw [Nat.xor_mod_two_pow]; rw [show 9223372036854775808 % 2 ^ 63 = 0 from by decide, Nat.xor_zero]
  have h2 : (x ^^^ 9223372036854775808) / 2 ^ 63 = x / 2 ^ 63 ^^^ 1 := by
    rw [Nat.xor_div_two_pow]
  have hs := Nat.div_add_mod (x ^^^ 9223372036854775808) (2 ^ 63)
  rw [h1, h2] at hs
  split
  · rw [show x / 2 ^ 63 = 0 from by omega] at hs
    rw [show (0 ^^^ 1 : Nat) = 1 from by decide] at hs
    omega
  · rw [show x / 2 ^ 63 = 1 from by omega] at hs
    rw [show (1 ^^^ 1 : Nat) = 0 from by decide] at hs
    omega
/-- all bits turned -/
theorem not_u64 (x : Nat) (h : x < 18446744073709551616) : bits .xor .u64 IntKind.u64.max (x : Int) = 18446744073709551615 - (x : Int) := by
  show IntKind.u64.wrap (((BitVec.ofInt 64 IntKind.u64.max ^^^ BitVec.ofInt 64 (x : Int)).toNat : Nat) : Int) = _
  rw [show BitVec.ofInt 64 IntKind.u64.max = BitVec.allOnes 64 from by decide, BitVec.allOnes_xor, BitVec.toNat_not, BitVec.toNat_ofInt]
  have ex : ((x : Int) % ((2 ^ 64 : Nat) : Int)).toNat = x := by omega
  rw [ex]
  rw [show ((2 ^ 64 - 1 - x : Nat) : Int) = 18446744073709551615 - (x : Int) from by omega]
  have k : (0 : Int) ≤ 18446744073709551615 - (x : Int) ∧ 18446744073709551615 - (x : Int) < 18446744073709551616 := by omega
  exact IntWalk.u64_in _ (by omega)

theorem bitsOf_any (x : Nat) (hx : x < 18446744073709551616) (w : World) :
    Calls Try.prog 38 #[.float .f64 x] w fun e w' => e = .returned (.int .u64 (bitsI x)) ∧ w = w' := by
  have hb := floatbits_run x
  have ha := and_top x hx
  have hxo := xor_top x hx
  have hno := not_u64 x hx
  by_cases c : x < 9223372036854775808
  · rw [if_pos c] at ha hxo
    have HX := Lib.hid hxo
    have hne : (bits .and .u64 (x : Int) 9223372036854775808 != 0) = false := by rw [ha]; rfl
    have E : Hid (bitsI x = (x : Int) + 9223372036854775808) := by unfold bitsI; rw [if_pos c]; exact rfl
    clear ha hxo hno c hx
    go_enter Try.func38, Try.ntmps38
    go_wp2_with fail
    go_ret
    exact ⟨by rw [E.out, ← HX.out]; rfl, rfl⟩
  · rw [if_neg c] at ha hxo
    have HX := Lib.hid hno
    have hne : (bits .and .u64 (x : Int) 9223372036854775808 != 0) = true := by rw [ha]; rfl
    have E : Hid (bitsI x = 18446744073709551615 - (x : Int)) := by unfold bitsI; rw [if_neg c]; exact rfl
    clear ha hxo hno c hx
    go_enter Try.func38, Try.ntmps38
    go_wp2_with fail
    go_ret
    exact ⟨by rw [E.out, ← HX.out]; rfl, rfl⟩

theorem timeOf_nat (x : Nat) (hx : x < 18446744073709551616) (w : World) :
    Calls Try.prog 44 #[.int .u64 x] w fun e w' => e = .returned (.float .f64 (timeN x)) ∧ w = w' := by
  have ha := and_top x hx
  have hxo := xor_top x hx
  have hno := not_u64 x hx
  by_cases c : x < 9223372036854775808
  · rw [if_pos c] at ha hxo
    have hs : ¬ IntKind.u64.signed = true := by decide
    have hne : (bits .and .u64 (x : Int) 9223372036854775808 != 0) = false := by rw [ha]; rfl
    have E : Hid (timeN x = (bits .xor .u64 IntKind.u64.max (x : Int)).toNat) := by rw [hno]; unfold timeN; rw [if_pos (by omega)]; exact rfl
    clear ha hxo hno c hx
    go_enter Try.func44, Try.ntmps44
    go_wp2_with (rw [frombits_run (bits .xor .u64 IntKind.u64.max (x : Int))]; generalize (bits .xor .u64 IntKind.u64.max (x : Int)).toNat = y at E ⊢)
    go_ret
    exact ⟨by rw [E.out]; rfl, rfl⟩
  · rw [if_neg c] at ha hxo
    have hb := frombits_run (bits .xor .u64 (x : Int) 9223372036854775808)
    have hne : (bits .and .u64 (x : Int) 9223372036854775808 != 0) = true := by rw [ha]; rfl
    have E : Hid (timeN x = (bits .xor .u64 (x : Int) 9223372036854775808).toNat) := by rw [hxo]; unfold timeN; rw [if_neg (by omega)]; exact rfl
    clear ha hxo hno c hx
    generalize (bits .xor .u64 (x : Int) 9223372036854775808).toNat = y at hb E
    go_enter Try.func44, Try.ntmps44
    go_wp2_with fail
    go_ret
    exact ⟨by rw [E.out]; rfl, rfl⟩

theorem timeOf_any (n : Int) (h1 : 0 ≤ n) (h2 : n ≤ 18446744073709551615) (w : World) :
    Calls Try.prog 44 #[.int .u64 n] w fun e w' => e = .returned (.float .f64 (timeN n)) ∧ w = w' := by
  obtain ⟨x, rfl⟩ := Int.eq_ofNat_of_zero_le h1
  exact timeOf_nat x (by omega) w

theorem isKept_core (x : Nat) (b s z : Bool) (w : World)
    (H1 : Hid (∀ w, Calls Try.prog 28 #[.float .f64 x] w fun e w' => e = .returned (.bool b) ∧ w = w'))
    (H2 : Hid (∀ w, Calls Try.prog 26 #[.float .f64 x] w fun e w' => e = .returned (.bool s) ∧ w = w'))
    (h3 : (FloatKind.f64.format.order x 0 != some Ordering.eq) = z) :
    Calls Try.prog 45 #[.float .f64 x] w fun e w' => e = .returned (.bool (b && (z || !s))) ∧ w = w' := by
  cases b <;> cases s <;> cases z
  all_goals
    go_enter Try.func45, Try.ntmps45
    go_wp2_with (first | (go_at_call 28; refine (H1.out _).mono ?_; rintro e w' ⟨rfl, rfl⟩) | (go_at_call 26; refine (H2.out _).mono ?_; rintro e w' ⟨rfl, rfl⟩))
    go_ret
    exact ⟨rfl, rfl⟩

theorem isKept_any (x : Nat) (hx : x < 18446744073709551616) (w : World) :
    Calls Try.prog 45 #[.float .f64 x] w fun e w' => e = .returned (.bool (decide (isKept x))) ∧ w = w' := by
  have k := isKept_core x _ _ _ w (isNumber_any x) (signbit_any x hx) rfl
  have e : (decide (isNum x) && ((FloatKind.f64.format.order x 0 != some Ordering.eq) || !sgn x)) = decide (isKept x) := by
    rw [bne, ord_eq]
    unfold isKept
    by_cases h : isNum x
    · simp [h, isNum_zero, ford_zero]
    · simp [h]
  rw [e] at k
  exact k

end Go.Proofs.Ytlcfibmgegjklaa
