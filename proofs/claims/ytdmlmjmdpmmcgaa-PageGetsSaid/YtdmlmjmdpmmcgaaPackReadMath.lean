/- Numbers as they are read: bytes, places, errors. Plain mathematics. -/
import Derived.Test.YtdmlmjmdpmmcgaaPackMath
namespace Go.Proofs.Ytdmlmjmdpmmcgaa
open Go.RowKit
set_option maxRecDepth 100000

/-- byte i of a string, as a number; 0 behind its end -/
def byteI (s : ByteArray) (i : Nat) : Int := ((s.data.toList.getD i 0).toNat : Int)
/-- k bytes from a place on, as one number -/
def rdI (s : ByteArray) (at0 : Nat) : Nat → Int
  | 0 => 0
  | k + 1 => rdI s at0 k * 256 + byteI s (at0 + k)

theorem byteI_bd (s : ByteArray) (i : Nat) : 0 ≤ byteI s i ∧ byteI s i ≤ 255 := by
  unfold byteI; have := (s.data.toList.getD i 0).toNat_lt; omega

theorem rdI_bd (s : ByteArray) (a k : Nat) : 0 ≤ rdI s a k ∧ rdI s a k < 256 ^ k := by
  induction k with
  | zero => simp [rdI]
  | succ k ih =>
    have hb := byteI_bd s (a + k)
    have e : (256 : Int) ^ (k + 1) = 256 ^ k * 256 := Int.pow_succ 256 k
    rw [e]
    simp only [rdI]
    omega

theorem rdI_56 (s : ByteArray) (a j : Nat) (h : j < 8) : rdI s a j < 72057594037927936 := by
  have := (rdI_bd s a j).2
  rcases (by omega : j = 0 ∨ j = 1 ∨ j = 2 ∨ j = 3 ∨ j = 4 ∨ j = 5 ∨ j = 6 ∨ j = 7) with rfl | rfl | rfl | rfl | rfl | rfl | rfl | rfl <;> omega

theorem byteI_at (s : ByteArray) (i : Nat) (h : i < s.size) : ((s[i].toNat : Nat) : Int) = byteI s i := by
  unfold byteI
  have h2 : i < s.data.toList.length := by simpa using h
  simp [List.getD, List.getElem?_eq_getElem h2]
  rfl

/-- what reading k bytes at a place gives: the number, the place behind it, the error -/
def rdSpec (s : ByteArray) (a : Int) (k : Nat) : Int × Int × Int :=
  if a < 0 ∨ (s.size : Int) < a then (0, 0, 3) else if (s.size : Int) - a < (k : Int) then (0, 0, 5) else (rdI s a.toNat k, a + k, 0)

/-- the three results, as the Go functions hand them back -/
def rdRet (x : Int × Int × Int) : Ending := .returned (.tuple #[.int .u64 x.1, .int .i64 x.2.1, .int .i64 x.2.2])

/-- from the number that was laid to the signed one -/
def unflip63 (n : Int) : Int := wrap64 (IntKind.u64.wrap (n - 9223372036854775808))
def rdISpec (x : Int × Int × Int) : Int × Int × Int := if x.2.2 = 0 then (unflip63 x.1, x.2.1, 0) else (0, 0, x.2.2)
def rdIRet (x : Int × Int × Int) : Ending := .returned (.tuple #[.int .i64 x.1, .int .i64 x.2.1, .int .i64 x.2.2])

end Go.Proofs.Ytdmlmjmdpmmcgaa
