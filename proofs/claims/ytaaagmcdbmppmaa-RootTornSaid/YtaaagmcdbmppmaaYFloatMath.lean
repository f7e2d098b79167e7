/- Floats of 64 bits as plain numbers: a word's place in the order of floats, its value in units of the least one, and how sums are rounded: in order. -/
import Derived.Laws.FloatArith
namespace Go.Proofs.Ytaaagmcdbmppmaa
open Ieee

/-- the lower 63 bits -/
def rung (x : Nat) : Nat := x % 9223372036854775808
/-- is it a number (an infinity too)? -/
def isNum (x : Nat) : Prop := rung x ≤ 9218868437227405312
instance (x : Nat) : Decidable (isNum x) := by unfold isNum; exact inferInstance
/-- is it a finite number? -/
def isFin (x : Nat) : Prop := rung x < 9218868437227405312
/-- the sign -/
def sgn (x : Nat) : Bool := x / 9223372036854775808 % 2 == 1
/-- the place in the order of floats -/
def ford (x : Nat) : Int := if sgn x then -(rung x : Int) else (rung x : Int)
/-- the magnitude of a rung, in units of the least one -/
def rv (r : Nat) : Nat := if r < 4503599627370496 then r else (4503599627370496 + r % 4503599627370496) * 2 ^ (r / 4503599627370496 - 1)
/-- the value, in units of the least one -/
def fval (x : Nat) : Int := if sgn x then -(rv (rung x) : Int) else (rv (rung x) : Int)

theorem rv_lt {a b : Nat} (h : a < b) : rv a < rv b := by
  unfold rv
  by_cases hb : b < 4503599627370496
  · rw [if_pos hb, if_pos (by omega)]; exact h
  · rw [if_neg hb]
    have hq : 0 < 2 ^ (b / 4503599627370496 - 1) := Nat.two_pow_pos _
    have hb1 : 4503599627370496 * 2 ^ (b / 4503599627370496 - 1) ≤ (4503599627370496 + b % 4503599627370496) * 2 ^ (b / 4503599627370496 - 1) := Nat.mul_le_mul_right _ (by omega)
    by_cases ha : a < 4503599627370496
    · rw [if_pos ha]
      have : 4503599627370496 * 1 ≤ 4503599627370496 * 2 ^ (b / 4503599627370496 - 1) := Nat.mul_le_mul_left _ hq
      omega
    · rw [if_neg ha]
      by_cases e : a / 4503599627370496 = b / 4503599627370496
      · rw [e]
        exact Nat.mul_lt_mul_of_pos_right (by omega) hq
      · have hlt : a / 4503599627370496 + 1 ≤ b / 4503599627370496 := by omega
        have ha1 : (4503599627370496 + a % 4503599627370496) * 2 ^ (a / 4503599627370496 - 1) < (2 * 4503599627370496) * 2 ^ (a / 4503599627370496 - 1) := Nat.mul_lt_mul_of_pos_right (by omega) (Nat.two_pow_pos _)
        have e2 : (2 * 4503599627370496) * 2 ^ (a / 4503599627370496 - 1) = 4503599627370496 * 2 ^ (a / 4503599627370496) := by
          have : a / 4503599627370496 = (a / 4503599627370496 - 1) + 1 := by omega
          rw [show 2 ^ (a / 4503599627370496) = 2 ^ (a / 4503599627370496 - 1 + 1) from by rw [← this], Nat.pow_succ]
          omega
        have h3 : 2 ^ (a / 4503599627370496) ≤ 2 ^ (b / 4503599627370496 - 1) := Nat.pow_le_pow_right (by omega) (by omega)
        have h4 := Nat.mul_le_mul_left 4503599627370496 h3
        omega

theorem rv_zero : rv 0 = 0 := by decide
theorem rv_le {a b : Nat} (h : a ≤ b) : rv a ≤ rv b := by
  rcases Nat.lt_or_eq_of_le h with h | rfl
  · exact Nat.le_of_lt (rv_lt h)
  · exact Nat.le_refl _

theorem rv_lt_iff {a b : Nat} : rv a < rv b ↔ a < b := by
  constructor
  · intro h
    rcases Nat.lt_or_ge a b with h2 | h2
    · exact h2
    · have := rv_le h2; omega
  · exact rv_lt
theorem rv_pos {a : Nat} (h : 0 < a) : 0 < rv a := by have := rv_lt h; rw [rv_zero] at this; exact this

theorem fval_lt_iff (x y : Nat) : fval x < fval y ↔ ford x < ford y := by
  unfold fval ford
  have h1 := @rv_lt_iff (rung x) (rung y)
  have h2 := @rv_lt_iff (rung y) (rung x)
  have h3 := @rv_pos (rung x)
  have h4 := @rv_pos (rung y)
  have z := rv_zero
  by_cases sx : sgn x <;> by_cases sy : sgn y <;> simp only [sx, sy, if_true, if_false, Bool.false_eq_true]
  · omega
  · constructor
    · intro h
      rcases Nat.eq_zero_or_pos (rung x) with e | e
      · rcases Nat.eq_zero_or_pos (rung y) with e2 | e2
        · rw [e, e2, z] at h; omega
        · omega
      · omega
    · intro h
      rcases Nat.eq_zero_or_pos (rung x) with e | e
      · rcases Nat.eq_zero_or_pos (rung y) with e2 | e2
        · omega
        · have := h4 e2; omega
      · have := h3 e; omega
  · constructor
    · intro h; omega
    · intro h; omega
  · omega

theorem ford_word (s : Bool) (r : Nat) (h : r < 9223372036854775808) : ford (double.word s r) = if s then -(r : Int) else (r : Int) := by
  have hw : double.word s r = if s then 9223372036854775808 + r else r := rfl
  rw [hw]
  unfold ford sgn rung
  cases s
  · have : r / 9223372036854775808 % 2 = 0 := by omega
    have e : r % 9223372036854775808 = r := by omega
    simp [this, e]
  · have e1 : (9223372036854775808 + r) / 9223372036854775808 % 2 = 1 := by omega
    have e : (9223372036854775808 + r) % 9223372036854775808 = r := by omega
    rw [if_pos rfl, e1, e]
    rfl

theorem read_fin (x : Nat) (h : isFin x) : double.read x = if rung x < 4503599627370496 then .number (sgn x) (rung x) (-1074) else .number (sgn x) (4503599627370496 + rung x % 4503599627370496) (-1074 + ((rung x / 4503599627370496 - 1 : Nat) : Int)) := by
  have e : double.read x = (let neg := x / 9223372036854775808 % 2 == 1
      let r := x % 9223372036854775808
      if r < 4503599627370496 then Datum.number neg r (-1074)
      else if r < 9218868437227405312 then .number neg (4503599627370496 + r % 4503599627370496) (-1074 + (r / 4503599627370496 - 1 : Nat))
      else if r = 9218868437227405312 then .infinity neg else .nan neg (r - 9218868437227405312)) := rfl
  rw [e]
  unfold isFin rung at h
  unfold rung sgn
  dsimp only
  by_cases c : x % 9223372036854775808 < 4503599627370496
  · rw [if_pos c, if_pos c]
  · rw [if_neg c, if_neg c, if_pos h]

theorem read_inf (x : Nat) (h : rung x = 9218868437227405312) : double.read x = .infinity (sgn x) := by
  have e : double.read x = (let neg := x / 9223372036854775808 % 2 == 1
      let r := x % 9223372036854775808
      if r < 4503599627370496 then Datum.number neg r (-1074)
      else if r < 9218868437227405312 then .number neg (4503599627370496 + r % 4503599627370496) (-1074 + (r / 4503599627370496 - 1 : Nat))
      else if r = 9218868437227405312 then .infinity neg else .nan neg (r - 9218868437227405312)) := rfl
  rw [e]
  unfold rung at h
  unfold sgn
  dsimp only
  rw [if_neg (by omega), if_neg (by omega), if_pos h]

theorem read_nan (x : Nat) (h : ¬ isNum x) : ∃ s f, double.read x = .nan s f := by
  have e : double.read x = (let neg := x / 9223372036854775808 % 2 == 1
      let r := x % 9223372036854775808
      if r < 4503599627370496 then Datum.number neg r (-1074)
      else if r < 9218868437227405312 then .number neg (4503599627370496 + r % 4503599627370496) (-1074 + (r / 4503599627370496 - 1 : Nat))
      else if r = 9218868437227405312 then .infinity neg else .nan neg (r - 9218868437227405312)) := rfl
  rw [e]
  unfold isNum rung at h
  dsimp only
  rw [if_neg (by omega), if_neg (by omega), if_neg (by omega)]
  exact ⟨_, _, rfl⟩

/-- a finite word is a number m * 2 ^ k in units of the least one -/
theorem read_num (x : Nat) (h : isFin x) : ∃ m k : Nat, double.read x = .number (sgn x) m (-1074 + (k : Int)) ∧ m * 2 ^ k = rv (rung x) := by
  rw [read_fin x h]
  unfold rv
  split
  · exact ⟨rung x, 0, by simp, by simp⟩
  · exact ⟨_, _, rfl, rfl⟩

theorem signed_mul (s : Bool) (m k l : Nat) : signed s m k * ((2 ^ l : Nat) : Int) = if s then -((m * 2 ^ (k + l) : Nat) : Int) else ((m * 2 ^ (k + l) : Nat) : Int) := by
  unfold signed
  rw [Nat.shiftLeft_eq, Nat.pow_add, ← Nat.mul_assoc]
  cases s <;> simp [Int.neg_mul]

theorem compare_int (a b : Int) : compare a b = if a < b then Ordering.lt else if a = b then .eq else .gt := rfl
theorem compare_nat (a b : Nat) : compare a b = if a < b then Ordering.lt else if a = b then .eq else .gt := rfl

theorem compare_scale (a b : Int) (c : Nat) (hc : 0 < c) : compare (a * (c : Int)) (b * (c : Int)) = compare a b := by
  rw [compare_int, compare_int]
  have hc' : (0 : Int) < (c : Int) := by omega
  have h1 : a * (c : Int) < b * (c : Int) ↔ a < b := Int.mul_lt_mul_right hc'
  have h2 : a * (c : Int) = b * (c : Int) ↔ a = b := ⟨fun h => Int.eq_of_mul_eq_mul_right (by omega) h, fun h => by rw [h]⟩
  simp only [h1, h2]

theorem compare_ford (x y : Nat) : compare (fval x) (fval y) = compare (ford x) (ford y) := by
  rw [compare_int, compare_int]
  have h1 := fval_lt_iff x y
  have h2 := fval_lt_iff y x
  have h3 : fval x = fval y ↔ ford x = ford y := by omega
  simp only [h1, h3]

theorem order_nan_left (x y : Nat) (h : ¬ isNum x) : double.order x y = none := by
  obtain ⟨s, f, e⟩ := read_nan x h
  unfold Format.order
  rw [e]
  unfold Datum.order
  rfl
theorem order_nan_right (x y : Nat) (h : ¬ isNum y) : double.order x y = none := by
  obtain ⟨s, f, e⟩ := read_nan y h
  unfold Format.order
  rw [e]
  cases double.read x <;> rfl

theorem sgn_cases (x : Nat) : sgn x = true ∨ sgn x = false := by cases sgn x <;> simp

theorem ford_fin (x : Nat) (h : isFin x) : -9218868437227405312 < ford x ∧ ford x < 9218868437227405312 := by
  unfold ford isFin at *
  split <;> omega

theorem order_num (x y : Nat) (hx : isNum x) (hy : isNum y) : double.order x y = some (compare (ford x) (ford y)) := by
  unfold isNum at hx hy
  unfold Format.order
  by_cases fx : isFin x
  · by_cases fy : isFin y
    · obtain ⟨m, k, e, hm⟩ := read_num x fx
      obtain ⟨n, l, e2, hn⟩ := read_num y fy
      rw [e, e2]
      unfold Datum.order
      dsimp only
      congr 1
      rw [← compare_ford, ← compare_scale _ _ (2 ^ (min k l)) (Nat.two_pow_pos _), signed_mul, signed_mul]
      have a1 : (-1074 + (k : Int) - min (-1074 + (k : Int)) (-1074 + (l : Int))).toNat + min k l = k := by omega
      have a2 : (-1074 + (l : Int) - min (-1074 + (k : Int)) (-1074 + (l : Int))).toNat + min k l = l := by omega
      rw [a1, a2, hm, hn]
      unfold fval
      rfl
    · have iy : rung y = 9218868437227405312 := by unfold isFin at fy; omega
      obtain ⟨m, k, e, _⟩ := read_num x fx
      rw [e, read_inf y iy]
      have b := ford_fin x fx
      have c : ford y = if sgn y then -9218868437227405312 else 9218868437227405312 := by unfold ford; rw [iy]; rfl
      rw [c, compare_int]
      unfold Datum.order
      rcases sgn_cases y with s | s <;> rw [s] <;> simp only [Bool.false_eq_true, if_false, if_true]
      · rw [if_neg (by omega), if_neg (by omega)]
      · rw [if_pos (by omega)]
  · have ix : rung x = 9218868437227405312 := by unfold isFin at fx; omega
    have d : ford x = if sgn x then -9218868437227405312 else 9218868437227405312 := by unfold ford; rw [ix]; rfl
    rw [read_inf x ix]
    by_cases fy : isFin y
    · obtain ⟨m, k, e, _⟩ := read_num y fy
      rw [e]
      have b := ford_fin y fy
      rw [d, compare_int]
      unfold Datum.order
      rcases sgn_cases x with s | s <;> rw [s] <;> simp only [Bool.false_eq_true, if_false, if_true]
      · rw [if_pos (by omega)]
      · rw [if_neg (by omega), if_neg (by omega)]
    · have iy : rung y = 9218868437227405312 := by unfold isFin at fy; omega
      have c : ford y = if sgn y then -9218868437227405312 else 9218868437227405312 := by unfold ford; rw [iy]; rfl
      rw [read_inf y iy, c, d]
      unfold Datum.order
      rcases sgn_cases x with s | s <;> rcases sgn_cases y with t | t <;> rw [s, t] <;> rfl

/- rounding -/

/-- a magnitude in units of the least one, rounded to a rung -/
def rr (u : Nat) : Nat := (u.log2 - 52) * 4503599627370496 + Toward.even.cut false u (u.log2 - 52)

theorem cut_even (neg : Bool) (n d : Nat) (h : d ≤ n.log2 + 2) : Toward.even.cut neg n d = n / 2 ^ d + (decide (2 ^ d < 2 * (n % 2 ^ d)) || (2 ^ d == 2 * (n % 2 ^ d) && n / 2 ^ d % 2 == 1)).toNat := by
  unfold Toward.cut
  dsimp only
  rw [Nat.min_eq_left h, Nat.one_shiftLeft]

theorem cut_sign (neg : Bool) (n d : Nat) : Toward.even.cut neg n d = Toward.even.cut false n d := rfl

theorem cut_zero (neg : Bool) (n : Nat) : Toward.even.cut neg n 0 = n := by
  rw [cut_even _ _ _ (by omega)]
  simp [Nat.mod_one]

theorem log2_mul_pow (m k : Nat) (h : m ≠ 0) : (m * 2 ^ k).log2 = m.log2 + k := by
  induction k with
  | zero => simp
  | succ k ih =>
    rw [Nat.pow_succ, ← Nat.mul_assoc, Nat.mul_comm _ 2, Nat.log2_two_mul (by have := Nat.two_pow_pos k; exact Nat.mul_ne_zero h (by omega)), ih]
    omega

/-- more digits, all 0, make no difference -/
theorem cut_scale (neg : Bool) (n d k : Nat) (h : d ≤ n.log2 + 2) (hn : n ≠ 0) : Toward.even.cut neg (n * 2 ^ k) (d + k) = Toward.even.cut neg n d := by
  rw [cut_even _ _ _ h, cut_even _ _ _ (by rw [log2_mul_pow n k hn]; omega)]
  have hp := Nat.two_pow_pos k
  rw [Nat.pow_add, Nat.mul_div_mul_right _ _ hp, Nat.mul_mod_mul_right]
  have e1 : (2 ^ d * 2 ^ k < 2 * (n % 2 ^ d * 2 ^ k)) ↔ (2 ^ d < 2 * (n % 2 ^ d)) := by
    rw [← Nat.mul_assoc]; exact Nat.mul_lt_mul_right hp
  have e2 : (2 ^ d * 2 ^ k = 2 * (n % 2 ^ d * 2 ^ k)) ↔ (2 ^ d = 2 * (n % 2 ^ d)) := by
    rw [← Nat.mul_assoc]; exact Nat.mul_left_inj (by omega)
  have e3 : (2 ^ d * 2 ^ k == 2 * (n % 2 ^ d * 2 ^ k)) = (2 ^ d == 2 * (n % 2 ^ d)) := by
    rw [Bool.eq_iff_iff]; simp only [beq_iff_eq]; exact e2
  rw [e3]
  simp only [e1]

theorem nearest_dbl (neg : Bool) (mag k : Nat) : double.nearest neg mag (-1074 + (k : Int)) = double.word neg (min (rr (mag * 2 ^ k)) 9218868437227405312) := by
  have e0 : double.nearest neg mag (-1074 + (k : Int)) = (if mag = 0 then double.word neg 0 else
      double.word neg (min ((max (-1074 + (k : Int) + (mag.log2 : Int) - 52) (-1074) - (-1074)).toNat * 4503599627370496 + Toward.even.cut neg (mag <<< (-1074 + (k : Int) - max (-1074 + (k : Int) + (mag.log2 : Int) - 52) (-1074)).toNat) (max (-1074 + (k : Int) + (mag.log2 : Int) - 52) (-1074) - (-1074 + (k : Int))).toNat) 9218868437227405312)) := rfl
  rw [e0]
  by_cases h : mag = 0
  · subst h
    rw [if_pos rfl]
    simp [rr, cut_even]
  · rw [if_neg h]
    unfold rr
    rw [log2_mul_pow mag k h]
    have a1 : (max (-1074 + (k : Int) + (mag.log2 : Int) - 52) (-1074) - (-1074)).toNat = mag.log2 + k - 52 := by omega
    rw [a1, cut_sign]
    congr 3
    rw [Nat.shiftLeft_eq]
    by_cases hk : mag.log2 ≤ 52
    · -- place is not below the last digit
      have b1 : (max (-1074 + (k : Int) + (mag.log2 : Int) - 52) (-1074) - (-1074 + (k : Int))).toNat = 0 := by omega
      rw [b1, cut_zero]
      have b2 : k = (-1074 + (k : Int) - max (-1074 + (k : Int) + (mag.log2 : Int) - 52) (-1074)).toNat + (mag.log2 + k - 52) := by omega
      have b3 : mag * 2 ^ k = (mag * 2 ^ (-1074 + (k : Int) - max (-1074 + (k : Int) + (mag.log2 : Int) - 52) (-1074)).toNat) * 2 ^ (mag.log2 + k - 52) := by
        rw [Nat.mul_assoc, ← Nat.pow_add, ← b2]
      rw [b3]
      have := cut_scale false (mag * 2 ^ (-1074 + (k : Int) - max (-1074 + (k : Int) + (mag.log2 : Int) - 52) (-1074)).toNat) 0 (mag.log2 + k - 52) (by omega) (by have := Nat.two_pow_pos (-1074 + (k : Int) - max (-1074 + (k : Int) + (mag.log2 : Int) - 52) (-1074)).toNat; exact Nat.mul_ne_zero h (by omega))
      rw [Nat.zero_add, cut_zero] at this
      exact this.symm
    · have b1 : (-1074 + (k : Int) - max (-1074 + (k : Int) + (mag.log2 : Int) - 52) (-1074)).toNat = 0 := by omega
      have b2 : (max (-1074 + (k : Int) + (mag.log2 : Int) - 52) (-1074) - (-1074 + (k : Int))).toNat = mag.log2 - 52 := by omega
      rw [b1, b2, Nat.pow_zero, Nat.mul_one]
      have b3 : mag.log2 + k - 52 = (mag.log2 - 52) + k := by omega
      rw [b3]
      exact (cut_scale false mag (mag.log2 - 52) k (by omega) h).symm

theorem log2_bd (u : Nat) (h : u ≠ 0) : 2 ^ u.log2 ≤ u ∧ u < 2 ^ (u.log2 + 1) := ⟨Nat.log2_self_le h, Nat.lt_log2_self⟩

/-- round to even: in order -/
theorem even_mono (g a b : Nat) (_hg : 0 < g) (h : a ≤ b) : a / g + (decide (g < 2 * (a % g)) || (g == 2 * (a % g) && a / g % 2 == 1)).toNat ≤ b / g + (decide (g < 2 * (b % g)) || (g == 2 * (b % g) && b / g % 2 == 1)).toNat := by
  have hq : a / g ≤ b / g := Nat.div_le_div_right h
  have h1 : ∀ c : Bool, c.toNat ≤ 1 := fun c => by cases c <;> decide
  rcases Nat.lt_or_eq_of_le hq with hlt | heq
  · have := h1 (decide (g < 2 * (a % g)) || (g == 2 * (a % g) && a / g % 2 == 1))
    omega
  · have ea := Nat.div_add_mod a g
    have eb := Nat.div_add_mod b g
    rw [heq] at ea
    have hr : a % g ≤ b % g := by omega
    rw [heq]
    refine Nat.add_le_add_left ?_ _
    by_cases c : g < 2 * (b % g)
    · rw [show decide (g < 2 * (b % g)) = true from decide_eq_true c, Bool.true_or]
      exact h1 _
    · have c1 : decide (g < 2 * (a % g)) = false := decide_eq_false (by omega)
      rw [c1, decide_eq_false c, Bool.false_or, Bool.false_or]
      by_cases d : g = 2 * (a % g)
      · have d2 : g = 2 * (b % g) := by omega
        have d1' : (g == 2 * (a % g)) = true := beq_iff_eq.2 d
        have d2' : (g == 2 * (b % g)) = true := beq_iff_eq.2 d2
        rw [d1', d2']
        exact Nat.le_refl _
      · have d1 : (g == 2 * (a % g)) = false := by simpa using d
        rw [d1, Bool.false_and]
        exact Nat.zero_le _

theorem log2_mono {a b : Nat} (h : a ≤ b) : a.log2 ≤ b.log2 := by
  by_cases ha : a = 0
  · subst ha; simp
  · have hb : b ≠ 0 := by omega
    rcases Nat.lt_or_ge b.log2 a.log2 with c | c
    · have := (log2_bd a ha).1
      have := (log2_bd b hb).2
      have : 2 ^ (b.log2 + 1) ≤ 2 ^ a.log2 := Nat.pow_le_pow_right (by omega) (by omega)
      omega
    · exact c

theorem rr_zero : rr 0 = 0 := by decide

theorem rr_mono {a b : Nat} (h : a ≤ b) : rr a ≤ rr b := by
  have hl := log2_mono h
  unfold rr
  rw [cut_even _ _ _ (by omega), cut_even _ _ _ (by omega)]
  by_cases e : a.log2 - 52 = b.log2 - 52
  · rw [e]
    refine Nat.add_le_add_left ?_ _
    exact even_mono _ _ _ (Nat.two_pow_pos _) h
  · have hlt : a.log2 - 52 + 1 ≤ b.log2 - 52 := by omega
    have hb : b ≠ 0 := by intro hb; subst hb; simp at hlt
    have b1 : 2 ^ 52 ≤ b / 2 ^ (b.log2 - 52) := by
      rw [Nat.le_div_iff_mul_le (Nat.two_pow_pos _), ← Nat.pow_add]
      have : 52 + (b.log2 - 52) = b.log2 := by omega
      rw [this]
      exact (log2_bd b hb).1
    have a1 : a / 2 ^ (a.log2 - 52) < 2 ^ 53 := by
      by_cases ha : a = 0
      · subst ha; simp
      rw [Nat.div_lt_iff_lt_mul (Nat.two_pow_pos _), ← Nat.pow_add]
      have := (log2_bd a ha).2
      have : 2 ^ (a.log2 + 1) ≤ 2 ^ (53 + (a.log2 - 52)) := Nat.pow_le_pow_right (by omega) (by omega)
      omega
    have h1 : ∀ c : Bool, c.toNat ≤ 1 := fun c => by cases c <;> decide
    have c1 := h1 (decide (2 ^ (a.log2 - 52) < 2 * (a % 2 ^ (a.log2 - 52))) || (2 ^ (a.log2 - 52) == 2 * (a % 2 ^ (a.log2 - 52)) && a / 2 ^ (a.log2 - 52) % 2 == 1))
    generalize (decide (2 ^ (a.log2 - 52) < 2 * (a % 2 ^ (a.log2 - 52))) || (2 ^ (a.log2 - 52) == 2 * (a % 2 ^ (a.log2 - 52)) && a / 2 ^ (a.log2 - 52) % 2 == 1)).toNat = A at *
    generalize (decide (2 ^ (b.log2 - 52) < 2 * (b % 2 ^ (b.log2 - 52))) || (2 ^ (b.log2 - 52) == 2 * (b % 2 ^ (b.log2 - 52)) && b / 2 ^ (b.log2 - 52) % 2 == 1)).toNat = B at *
    generalize a / 2 ^ (a.log2 - 52) = qa at *
    generalize b / 2 ^ (b.log2 - 52) = qb at *
    have : (a.log2 - 52 + 1) * 4503599627370496 ≤ (b.log2 - 52) * 4503599627370496 := Nat.mul_le_mul_right _ hlt
    omega

theorem rr_pos {u : Nat} (h : 0 < u) : 0 < rr u := by
  have h1 : rr 1 = 1 := by decide
  have := rr_mono (show 1 ≤ u from h)
  omega

/-- the place in the order of a rounded value -/
def rnd (v : Int) : Int := if v < 0 then -((min (rr v.natAbs) 9218868437227405312 : Nat) : Int) else ((min (rr v.natAbs) 9218868437227405312 : Nat) : Int)

theorem rnd_mono {a b : Int} (h : a ≤ b) : rnd a ≤ rnd b := by
  unfold rnd
  by_cases ha : a < 0 <;> by_cases hb : b < 0 <;> simp only [ha, hb, if_true, if_false]
  · have := rr_mono (show b.natAbs ≤ a.natAbs by omega); omega
  · omega
  · omega
  · have := rr_mono (show a.natAbs ≤ b.natAbs by omega); omega

theorem sum_fin (x y : Nat) (hx : isFin x) (hy : isFin y) : ∃ r, double.add x y = some r ∧ r < 18446744073709551616 ∧ isNum r ∧ ford r = rnd (fval x + fval y) ∧ (sgn y = false → ford r = 0 → r = 0) := by
  obtain ⟨m, k, e, hm⟩ := read_num x hx
  obtain ⟨n, l, e2, hn⟩ := read_num y hy
  have ht : (signed (sgn x) m (-1074 + (k : Int) - min (-1074 + (k : Int)) (-1074 + (l : Int))).toNat + signed (sgn y) n (-1074 + (l : Int) - min (-1074 + (k : Int)) (-1074 + (l : Int))).toNat) * ((2 ^ (min k l) : Nat) : Int) = fval x + fval y := by
    rw [Int.add_mul, signed_mul, signed_mul]
    have a1 : (-1074 + (k : Int) - min (-1074 + (k : Int)) (-1074 + (l : Int))).toNat + min k l = k := by omega
    have a2 : (-1074 + (l : Int) - min (-1074 + (k : Int)) (-1074 + (l : Int))).toNat + min k l = l := by omega
    rw [a1, a2, hm, hn]
    unfold fval
    rfl
  unfold Format.add
  rw [e, e2]
  unfold Datum.sum
  dsimp only
  generalize signed (sgn x) m (-1074 + (k : Int) - min (-1074 + (k : Int)) (-1074 + (l : Int))).toNat + signed (sgn y) n (-1074 + (l : Int) - min (-1074 + (k : Int)) (-1074 + (l : Int))).toNat = T at ht ⊢
  have hb : min (-1074 + (k : Int)) (-1074 + (l : Int)) = -1074 + ((min k l : Nat) : Int) := by omega
  rw [hb, Option.map_some]
  have hw : ∀ s M, double.write (.number s M (-1074 + ((min k l : Nat) : Int))) = double.nearest s M (-1074 + ((min k l : Nat) : Int)) := fun _ _ => rfl
  rw [hw, nearest_dbl]
  have hp : (0 : Int) < ((2 ^ (min k l) : Nat) : Int) := by have := Nat.two_pow_pos (min k l); omega
  have hmag : T.natAbs * 2 ^ (min k l) = (fval x + fval y).natAbs := by rw [← ht, Int.natAbs_mul, Int.natAbs_natCast]
  have hneg : T < 0 ↔ fval x + fval y < 0 := by
    rw [← ht]
    constructor
    · intro h; exact Int.mul_neg_of_neg_of_pos h hp
    · intro h
      rcases Int.lt_or_le T 0 with c | c
      · exact c
      · have := Int.mul_nonneg c (Int.le_of_lt hp); omega
  have hzero : T = 0 ↔ fval x + fval y = 0 := by
    rw [← ht]
    constructor
    · intro h; rw [h, Int.zero_mul]
    · intro h
      rcases Int.mul_eq_zero.1 h with c | c
      · exact c
      · omega
  rw [hmag]
  generalize fval x + fval y = v at *
  have hlt : min (rr v.natAbs) 9218868437227405312 < 9223372036854775808 := Nat.lt_of_le_of_lt (Nat.min_le_right _ _) (by decide)
  have hle : min (rr v.natAbs) 9218868437227405312 ≤ 9218868437227405312 := Nat.min_le_right _ _
  have hrp := @rr_pos v.natAbs
  clear ht hmag hp hm hn e e2 hb hw
  refine ⟨_, rfl, ?_, ?_, ?_, ?_⟩
  · have : double.word (if T = 0 then sgn x && sgn y else decide (T < 0)) (min (rr v.natAbs) 9218868437227405312) < 2 ^ double.width := double.word_lt _ (by exact hlt)
    exact this
  · unfold isNum rung
    have hwd : ∀ s r, double.word s r = if s then 9223372036854775808 + r else r := fun _ _ => rfl
    rw [hwd]
    clear hneg hzero hrp
    generalize min (rr v.natAbs) 9218868437227405312 = M at hlt hle ⊢
    generalize (if T = 0 then sgn x && sgn y else decide (T < 0)) = S
    cases S
    · rw [if_neg (by decide)]; omega
    · rw [if_pos rfl]; omega
  · rw [ford_word _ _ hlt]
    unfold rnd
    by_cases h0 : T = 0
    · have := hzero.1 h0
      subst this
      simp [rr_zero]
    · rw [if_neg h0]
      by_cases hv : T < 0
      · simp [hv, hneg.1 hv]
      · simp [hv, mt hneg.2 hv]
  · intro hs hf
    rw [ford_word _ _ hlt] at hf
    have hz : min (rr v.natAbs) 9218868437227405312 = 0 := by
      clear hneg hzero hrp
      generalize min (rr v.natAbs) 9218868437227405312 = M at hf ⊢
      split at hf <;> omega
    have hv : v = 0 := by
      clear hneg hzero hf
      rcases Nat.eq_zero_or_pos v.natAbs with c | c
      · omega
      · have := hrp c; generalize rr v.natAbs = R at this hz; omega
    rw [if_pos (hzero.2 hv), hs, Bool.and_false, hz]
    rfl

end Go.Proofs.Ytaaagmcdbmppmaa
