/- The mathematics of layer 7 (vm): a machine of eight registers, its words, what it sends, its rolls; one instruction, and a whole run. No Go, no program. -/
import Derived.Test.YtehdlpgopcoecaaModelMath
import Derived.Test.YtehdlpgopcoecaaDiceMath
namespace Go.Proofs.Ytehdlpgopcoecaa
open Go.RowKit
set_option linter.unusedVariables false

/-- a number of 64 bits -/
def r64v (n : Int) : Prop := -9223372036854775808 ≤ n ∧ n ≤ 9223372036854775807
/-- what is sent -/
structure Snt where
  dst : Int
  dl : Int
  pay : Int
/-- a machine: registers, words, what was sent, the dice' count, the place, the steps, how it went wrong -/
structure Mch where
  g : Nat → Int
  nw : Nat
  w : Nat → Int
  ns : Nat
  sn : Nat → Snt
  dice : Int
  pc : Nat
  n : Nat
  f : Int
/-- what a run begins with -/
structure Inp where
  nw : Nat
  w : Nat → Int
  pay : Int
  me : Int
  lps : Int
  seed : Int
  dice : Int

def upd (g : Nat → Int) (i : Nat) (v : Int) : Nat → Int := fun k => if k = i then v else g k
/-- a quotient, cut towards 0, and what is left -/
def quotQ (b c : Int) : Int := wrap64 (b.tdiv c)
def quotR (b c : Int) : Int := wrap64 (b.tmod c)
theorem wrap64_mod (x : Int) : wrap64 x % 18446744073709551616 = x % 18446744073709551616 := by unfold wrap64; omega
theorem wrap64_congr {x y : Int} (h : x % 18446744073709551616 = y % 18446744073709551616) : wrap64 x = wrap64 y := by unfold wrap64; omega
theorem quotR_eq (b c : Int) : wrap64 (b - wrap64 (wrap64 (b.tdiv c) * c)) = quotR b c := by
  refine wrap64_congr ?_
  have e : b.tmod c = b - b.tdiv c * c := by rw [Int.tmod_def, Int.mul_comm]
  rw [e, Int.sub_emod, wrap64_mod, Int.mul_emod, wrap64_mod, ← Int.mul_emod, ← Int.sub_emod]
theorem quotQ_neg (b : Int) : quotQ b (-1) = wrap64 (-b) := by unfold quotQ; simp
theorem quotR_neg (b : Int) : quotR b (-1) = 0 := by
  have : b.tmod (-1) = 0 := by rw [Int.tmod_def]; simp
  unfold quotR
  rw [this]; decide +kernel
/-- what computes -/
def twoV (op b c : Int) : Int :=
  if op = 3 then wrap64 (b + c) else if op = 4 then wrap64 (b - c) else if op = 5 then wrap64 (b * c)
  else if op = 6 then quotQ b c else if op = 7 then quotR b c else if b < c then 1 else 0
def twoF (op c : Int) : Int := if (op = 6 ∨ op = 7) ∧ c = 0 then 2 else 0
/-- how an instruction goes wrong (0: it does not) -/
def oneF (x : I4) (lps : Int) (r : Mch) : Int :=
  if x.op = 11 then (if r.g x.b.toNat < 1 then 4 else 0)
  else if x.op = 12 then (if r.g x.a.toNat < 0 ∨ lps ≤ r.g x.a.toNat then 6 else if 4 ≤ r.ns then 5 else 0)
  else if x.op = 13 then (if r.g x.b.toNat < 0 ∨ (r.nw : Int) ≤ r.g x.b.toNat then 3 else 0)
  else if x.op = 14 then (if r.g x.a.toNat < 0 ∨ (r.nw : Int) ≤ r.g x.a.toNat then 3 else 0)
  else if x.op = 6 ∨ x.op = 7 then (if r.g x.c.toNat = 0 then 2 else 0)
  else 0
/-- what an instruction does, if it does not go wrong -/
def oneR (x : I4) (seed me : Int) (r : Mch) : Mch :=
  if x.op = 1 then { r with g := upd r.g x.a.toNat x.b }
  else if x.op = 2 then { r with g := upd r.g x.a.toNat (r.g x.b.toNat) }
  else if x.op = 9 then { r with pc := x.a.toNat }
  else if x.op = 10 then (if r.g x.a.toNat = 0 then { r with pc := x.b.toNat } else r)
  else if x.op = 11 then { r with g := upd r.g x.a.toNat (belowN (rollN seed me r.dice) (r.g x.b.toNat)), dice := wrap64 (r.dice + 1) }
  else if x.op = 12 then { r with ns := r.ns + 1, sn := fun i => if i = r.ns then ⟨r.g x.a.toNat, r.g x.b.toNat, r.g x.c.toNat⟩ else r.sn i }
  else if x.op = 13 then { r with g := upd r.g x.a.toNat (r.w (r.g x.b.toNat).toNat) }
  else if x.op = 14 then { r with w := upd r.w (r.g x.a.toNat).toNat (r.g x.b.toNat) }
  else { r with g := upd r.g x.a.toNat (twoV x.op (r.g x.b.toNat) (r.g x.c.toNat)) }
/-- a run, from a machine on, of a program of pl instructions; k steps are left -/
def runM (pr : Nat → I4) (pl : Nat) (lps seed me : Int) : Nat → Mch → Mch
  | 0, r => if pl ≤ r.pc then r else { r with f := 1 }
  | k + 1, r =>
    if pl ≤ r.pc then r
    else
      let r1 : Mch := { r with n := r.n + 1, pc := r.pc + 1 }
      if (pr r.pc).op = 0 then r1
      else if oneF (pr r.pc) lps r1 = 0 then runM pr pl lps seed me k (oneR (pr r.pc) seed me r1)
      else { r1 with f := oneF (pr r.pc) lps r1 }
def beginM (i : Inp) : Mch := ⟨fun k => if k = 0 then i.pay else if k = 1 then i.me else if k = 2 then i.lps else if k = 3 then (i.nw : Int) else 0, i.nw, i.w, 0, fun _ => ⟨0, 0, 0⟩, i.dice, 0, 0, 0⟩
/-- the whole run -/
def wholeM (pr : Nat → I4) (pl : Nat) (i : Inp) : Mch := runM pr pl i.lps i.seed i.me 120 (beginM i)
/-- may it be run? -/
def mayN (pr : Nat → I4) (pl : Nat) (i : Inp) : Int :=
  if (1 ≤ pl ∧ pl ≤ 48) ∧ allN (fun k => insB (pr k) pl) pl = true then (if 8 < i.nw then 2 else 0) else 15

/-- what stays in a run -/
structure Fit (pl : Nat) (nw0 : Nat) (r : Mch) : Prop where
  pc : r.pc ≤ pl
  nw : r.nw = nw0
  ns : r.ns ≤ 4
  f : 0 ≤ r.f ∧ r.f ≤ 6
theorem oneF_bd (x : I4) (lps : Int) (r : Mch) : 0 ≤ oneF x lps r ∧ oneF x lps r ≤ 6 := by
  unfold oneF
  repeat' split
  all_goals omega
theorem plc_bd {n len : Int} (h : plcB n len = true) : 0 ≤ n ∧ n ≤ len := by
  unfold plcB at h
  simpa using h
theorem reg_bd {n : Int} (h : regB n = true) : 0 ≤ n ∧ n ≤ 7 := by
  unfold regB at h
  simpa using h

end Go.Proofs.Ytehdlpgopcoecaa
