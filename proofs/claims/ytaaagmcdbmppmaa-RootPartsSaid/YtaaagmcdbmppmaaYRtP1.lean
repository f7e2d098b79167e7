/- The program's root: how many parts are needed, which roots may be, numbers of two bytes laid and read. -/
import Derived.Deep.RegionHeld3
import Derived.Test.YtaaagmcdbmppmaaYRtSame
import Derived.Test.YtaaagmcdbmppmaaYZ34
import Derived.Test.YtaaagmcdbmppmaaYZ35
namespace Go.Proofs.Ytaaagmcdbmppmaa
open Go.RowKit Go.Deep
set_option linter.unusedVariables false
set_option linter.unusedSimpArgs false
set_option maxRecDepth 100000

theorem pneed_any (x : Int) (hx : -9223372036854775808 ≤ x ∧ x ≤ 9223372036854775807) (w : World) : Calls Try.prog 17 #[.int .i64 x] w fun e w' => e = .returned (.int .i64 (needR x)) ∧ w' = w := by
  by_cases h : x < 1
  · have E : Hid (needR x = 0) := Lib.hid (by unfold needR; rw [if_pos h])
    have d : decide (x < 1) = true := by simp [h]
    go_enter Try.func17, Try.ntmps17
    go_wp2_with fail
    go_ret
    exact ⟨by rw [E.out]; rfl, rfl⟩
  · obtain ⟨m, rfl⟩ : ∃ m : Nat, x = (m : Int) + 1 := ⟨(x - 1).toNat, by omega⟩
    have E : Hid (needR ((m : Int) + 1) = (m : Int) / 116 + 1) := Lib.hid (by unfold needR; rw [if_neg h]; congr 2; omega)
    have d : decide ((m : Int) + 1 < 1) = false := by simp; omega
    have e0 : (m : Int) + 1 - 1 = m := by omega
    clear h
    go_enter Try.func17, Try.ntmps17
    go_wp2_with fail
    go_ret
    exact ⟨by rw [E.out]; rfl, rfl⟩
/-- which epochs may be -/
def epOk (x : Int) : Bool := decide (1 ≤ x ∧ x ≤ 1099511627776)
theorem pisEpoch_any (x : Int) (w : World) : Calls Try.prog 20 #[.int .i64 x] w fun e w' => e = .returned (.bool (epOk x)) ∧ w' = w := by
  by_cases h1 : 1 ≤ x
  · have d1 : decide (1 ≤ x) = true := by simp [h1]
    by_cases h2 : x ≤ 1099511627776
    · have d2 : decide (x ≤ 1099511627776) = true := by simp [h2]
      have E : Hid (epOk x = true) := Lib.hid (by simp [epOk, h1, h2])
      clear h1 h2
      go_enter Try.func20, Try.ntmps20
      go_wp2_with fail
      go_ret
      exact ⟨by rw [E.out]; rfl, rfl⟩
    · have d2 : decide (x ≤ 1099511627776) = false := by simp; omega
      have E : Hid (epOk x = false) := Lib.hid (by simp [epOk]; omega)
      clear h1 h2
      go_enter Try.func20, Try.ntmps20
      go_wp2_with fail
      go_ret
      exact ⟨by rw [E.out]; rfl, rfl⟩
  · have d1 : decide (1 ≤ x) = false := by simp; omega
    have E : Hid (epOk x = false) := Lib.hid (by simp [epOk]; omega)
    clear h1
    go_enter Try.func20, Try.ntmps20
    go_wp2_with fail
    go_ret
    exact ⟨by rw [E.out]; rfl, rfl⟩
/-- which pages may be -/
def pgOk (x : Int) : Bool := decide (0 ≤ x ∧ x ≤ 1023)
theorem pisPage_any (x : Int) (w : World) : Calls Try.prog 33 #[.int .i64 x] w fun e w' => e = .returned (.bool (pgOk x)) ∧ w' = w := by
  by_cases h1 : 0 ≤ x
  · have d1 : decide (0 ≤ x) = true := by simp [h1]
    by_cases h2 : x ≤ 1023
    · have d2 : decide (x ≤ 1023) = true := by simp [h2]
      have E : Hid (pgOk x = true) := Lib.hid (by simp [pgOk, h1, h2])
      clear h1 h2
      go_enter Try.func33, Try.ntmps33
      go_wp2_with fail
      go_ret
      exact ⟨by rw [E.out]; rfl, rfl⟩
    · have d2 : decide (x ≤ 1023) = false := by simp; omega
      have E : Hid (pgOk x = false) := Lib.hid (by simp [pgOk]; omega)
      clear h1 h2
      go_enter Try.func33, Try.ntmps33
      go_wp2_with fail
      go_ret
      exact ⟨by rw [E.out]; rfl, rfl⟩
  · have d1 : decide (0 ≤ x) = false := by simp; omega
    have E : Hid (pgOk x = false) := Lib.hid (by simp [pgOk]; omega)
    clear h1
    go_enter Try.func33, Try.ntmps33
    go_wp2_with fail
    go_ret
    exact ⟨by rw [E.out]; rfl, rfl⟩
/-- the first place of a number in a list's first n; n: it is not there -/
def findN (f : Nat → Int) (x : Int) : Nat → Nat
  | 0 => 0
  | n + 1 => if findN f x n < n then findN f x n else if f n = x then n else n + 1
theorem findN_le (f : Nat → Int) (x : Int) (n : Nat) : findN f x n ≤ n := by
  induction n with
  | zero => exact Nat.le_refl _
  | succ n ih =>
    unfold findN
    split
    · omega
    · split <;> omega
theorem findN_lt (f : Nat → Int) (x : Int) (n : Nat) : findN f x n < n ↔ ∃ i, i < n ∧ f i = x := by
  induction n with
  | zero => exact ⟨fun h => absurd h (Nat.not_lt_zero _), fun ⟨i, hi, _⟩ => absurd hi (Nat.not_lt_zero _)⟩
  | succ n ih =>
    unfold findN
    by_cases h : findN f x n < n
    · rw [if_pos h]
      obtain ⟨i, hi, he⟩ := ih.1 h
      exact ⟨fun _ => ⟨i, by omega, he⟩, fun _ => by omega⟩
    · rw [if_neg h]
      by_cases h2 : f n = x
      · rw [if_pos h2]; exact ⟨fun _ => ⟨n, by omega, h2⟩, fun _ => by omega⟩
      · rw [if_neg h2]
        refine ⟨fun h3 => by omega, fun ⟨i, hi, he⟩ => ?_⟩
        rcases Nat.lt_succ_iff_lt_or_eq.1 hi with h4 | rfl
        · exact absurd (ih.2 ⟨i, h4, he⟩) h
        · exact absurd he h2
def atN (f : Nat → Int) (x : Int) (n : Nat) : Int := if findN f x n < n then (findN f x n : Int) else -1
theorem findN_on {f : Nat → Int} {x : Int} {j n : Nat} (hj : findN f x j = j) (hx : f j = x) (hjn : j < n) : findN f x n = j := by
  induction n with
  | zero => omega
  | succ n ih =>
    unfold findN
    rcases Nat.lt_succ_iff_lt_or_eq.1 hjn with h | rfl
    · rw [ih h, if_pos h]
    · rw [hj, if_neg (Nat.lt_irrefl _), if_pos hx]
set_option maxHeartbeats 1600000 in
theorem pindex_any (f : Nat → Int) (n : Nat) (ao : Option Addr) (c : Nat) (x : Int) (w : World) (hn : n ≤ 1048576) (hc : n ≤ c) (h : 0 < n → ∃ b o, ao = some ⟨b, o, none⟩ ∧ At 1 (gW f) n b o w) :
    Calls Try.prog 45 #[.slice ao n c, .int .i64 x] w fun e w' => e = .returned (.int .i64 (atN f x n)) ∧ w' = w := by
  have HA := Lib.hid h
  clear h
  go_enter Try.func45, Try.ntmps45
  go_wp2_with fail
  go_loop [8] (fun i => ∃ j : Nat, j ≤ n ∧ i = .int .i64 j ∧ findN f x j = j) (fun i => n - (intOf i).toNat)
  case atStart => exact ⟨0, Nat.zero_le _, rfl, rfl⟩
  case round =>
    obtain ⟨j, hj, rfl, hf⟩ := hrel
    by_cases hlt : j < n
    · obtain ⟨b, o, rfl, hA⟩ := HA.out (by omega)
      have hcell : w.cell? ⟨b, o + j, none⟩ = some (.int .i64 (f j)) := hA.one j hlt
      have hj2 : (j : Int) < (n : Int) := by omega
      have hj3 : (0 : Int) ≤ (j : Int) := by omega
      have HF := Lib.hid hf
      have HL := Lib.hid hlt
      clear hA hf
      by_cases he : f j = x
      · have E : Hid (atN f x n = (j : Int)) := Lib.hid (by
          unfold atN
          rw [findN_on HF.out he hlt, if_pos hlt])
        have d : (x == f j) = true := by simp [he]
        have d2 : decide ((j : Int) < (n : Int)) = true := by simp [hlt]
        clear hlt he
        go_wp2_with fail
        go_ret
        exact ⟨by rw [E.out]; rfl, rfl⟩
      · have d : (x == f j) = false := by simp; exact fun h => he h.symm
        have HN : Hid (findN f x (j + 1) = j + 1) := Lib.hid (by
          unfold findN
          rw [HF.out, if_neg (Nat.lt_irrefl _), if_neg he])
        have d2 : decide ((j : Int) < (n : Int)) = true := by simp [hlt]
        clear hlt he
        go_wp2_with fail
        go_round
        case rel => have := HL.out; exact ⟨j + 1, by omega, by go_num, HN.out⟩
        case measure => have := HL.out; simp [intOf]; omega
    · obtain rfl : j = n := by omega
      have E : Hid (atN f x j = -1) := Lib.hid (by
        unfold atN
        rw [hf, if_neg (Nat.lt_irrefl _)])
      have d2 : decide ((j : Int) < (j : Int)) = false := by simp
      clear hf
      go_wp2_with fail
      go_ret
      exact ⟨by rw [E.out]; rfl, rfl⟩
theorem pcontains_any (f : Nat → Int) (n : Nat) (ao : Option Addr) (c : Nat) (x : Int) (w : World) (hn : n ≤ 1048576) (hc : n ≤ c) (h : 0 < n → ∃ b o, ao = some ⟨b, o, none⟩ ∧ At 1 (gW f) n b o w) :
    Calls Try.prog 34 #[.slice ao n c, .int .i64 x] w fun e w' => e = .returned (.bool (decide (∃ i, i < n ∧ f i = x))) ∧ w' = w := by
  have HX := Lib.hid (pindex_any f n ao c x w hn hc h)
  have E : Hid (decide (0 ≤ atN f x n) = decide (∃ i, i < n ∧ f i = x)) := Lib.hid (by
    apply decide_eq_decide.2
    rw [← findN_lt]
    unfold atN
    split <;> omega)
  generalize atN f x n = q at *
  clear h hn hc
  go_enter Try.func34, Try.ntmps34
  go_wp2_with fail
  refine (HX.out).mono ?_
  rintro e w1 ⟨rfl, rfl⟩
  go_wp2_with fail
  go_ret
  exact ⟨by rw [E.out]; rfl, rfl⟩

end Go.Proofs.Ytaaagmcdbmppmaa
