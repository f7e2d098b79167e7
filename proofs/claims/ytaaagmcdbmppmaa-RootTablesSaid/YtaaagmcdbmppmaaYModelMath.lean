/- Models as mathematics: which instructions may be, which models may be, which are the same. -/
import Derived.Test.YtaaagmcdbmppmaaYFloatOrd
namespace Go.Proofs.Ytaaagmcdbmppmaa

/-- an instruction -/
structure I4 where
  op : Int
  a : Int
  b : Int
  c : Int
/-- an event at first -/
structure Ev where
  t : Nat
  dst : Int
  pay : Int

/-- a register -/
def regB (n : Int) : Bool := decide (0 ≤ n) && decide (n ≤ 7)
/-- a place in a program of so many -/
def plcB (n len : Int) : Bool := decide (0 ≤ n) && decide (n ≤ len)

/-- what an instruction needs, as letters, and whether there is one: 0 none, 1 a place, 2 a register and a place, 3 to 5 that many registers less two, 6 there is none -/
def kindI (op : Int) : Nat :=
  if op = 0 then 0 else if op = 9 then 1 else if op = 10 then 2 else if op = 1 then 3
  else if op = 2 ∨ op = 11 ∨ op = 13 ∨ op = 14 then 4
  else if op = 3 ∨ op = 4 ∨ op = 5 ∨ op = 6 ∨ op = 7 ∨ op = 8 ∨ op = 12 then 5 else 6
/-- may an instruction of that kind be? -/
def kindB (k : Nat) (a b c len : Int) : Bool :=
  match k with
  | 0 => true
  | 1 => plcB a len
  | 2 => regB a && plcB b len
  | 3 => regB a
  | 4 => regB a && regB b
  | 5 => regB a && regB b && regB c
  | _ => false
def insB (x : I4) (len : Int) : Bool := kindB (kindI x.op) x.a x.b x.c len

/-- does p hold of all below n? -/
def allN (p : Nat → Bool) : Nat → Bool
  | 0 => true
  | n + 1 => allN p n && p n
theorem allN_iff (p : Nat → Bool) (n : Nat) : allN p n = true ↔ ∀ i, i < n → p i = true := by
  induction n with
  | zero => simp [allN]
  | succ n ih =>
    simp only [allN, Bool.and_eq_true, ih]
    constructor
    · rintro ⟨h1, h2⟩ i hi
      rcases Nat.lt_or_ge i n with h | h
      · exact h1 i h
      · rw [show i = n by omega]; exact h2
    · exact fun h => ⟨fun i hi => h i (by omega), h n (by omega)⟩
theorem allN_false {p : Nat → Bool} {n j : Nat} (hj : j < n) (h : p j = false) : allN p n = false := by
  rw [Bool.eq_false_iff]
  intro hc
  rw [(allN_iff p n).1 hc j hj] at h
  cases h
theorem allN_step {p : Nat → Bool} {j : Nat} (h : allN p j = true) (h1 : p j = true) : allN p (j + 1) = true := by simp [allN, h, h1]
theorem allN_congr {p q : Nat → Bool} {n : Nat} (h : ∀ i, i < n → p i = q i) : allN p n = allN q n := by
  rw [Bool.eq_iff_iff, allN_iff, allN_iff]
  exact ⟨fun k i hi => by rw [← h i hi]; exact k i hi, fun k i hi => by rw [h i hi]; exact k i hi⟩

/-- a model -/
structure Mdl where
  seed : Int
  fin : Nat
  nd : Nat
  d : Nat → Nat
  np : Nat
  pl : Nat → Nat
  pr : Nat → Nat → I4
  nl : Nat
  lp : Nat → Int
  wl : Nat → Nat
  wd : Nat → Nat → Int
  ni : Nat
  ev : Nat → Ev

/-- a number above 0 -/
def posF (x : Nat) : Bool := decide (isNum x ∧ 0 < ford x)
def numF (x : Nat) : Bool := decide (isNum x)
def from1 (most n : Nat) : Bool := decide (1 ≤ n) && decide (n ≤ most)
def oneOf (count : Nat) (n : Int) : Bool := decide (0 ≤ n) && decide (n < count)

def countsB (m : Mdl) : Bool := from1 6 m.nl && (from1 4 m.np && (from1 8 m.nd && decide (m.ni ≤ 16)))
def progB (f : Nat → I4) (n : Nat) : Bool := from1 48 n && allN (fun k => insB (f k) n) n
def lpB (np : Nat) (p : Int) (wl : Nat) : Bool := oneOf np p && decide (wl ≤ 8)
def evB (nl : Nat) (e : Ev) : Bool := numF e.t && oneOf nl e.dst
/-- may a model be? -/
def mayB (m : Mdl) : Bool :=
  countsB m && (numF m.fin && (allN (fun i => posF (m.d i)) m.nd && (allN (fun i => progB (m.pr i) (m.pl i)) m.np && (allN (fun i => lpB m.np (m.lp i) (m.wl i)) m.nl && allN (fun i => evB m.nl (m.ev i)) m.ni))))
def chkN (m : Mdl) : Int := if mayB m then 0 else 15

/-- the same float -/
def sameF (x y : Nat) : Bool := decide (x = y) || (!numF x && !numF y)
def sameI (x y : I4) : Bool := decide (x.op = y.op) && (decide (x.a = y.a) && (decide (x.b = y.b) && decide (x.c = y.c)))
def sameE (x y : Ev) : Bool := sameF x.t y.t && (decide (x.dst = y.dst) && decide (x.pay = y.pay))
/-- two lists by a test -/
def sameL (n m : Nat) (p : Nat → Bool) : Bool := decide (n = m) && allN p n
def sameP (f g : Nat → I4) (n m : Nat) : Bool := sameL n m fun k => sameI (f k) (g k)
def sameW (f g : Nat → Int) (n m : Nat) : Bool := sameL n m fun k => decide (f k = g k)
def sameLp (p q : Int) (f g : Nat → Int) (n m : Nat) : Bool := decide (p = q) && sameW f g n m
def sameB (x y : Mdl) : Bool :=
  decide (x.seed = y.seed) && (sameF x.fin y.fin && (sameL x.nd y.nd (fun i => sameF (x.d i) (y.d i)) && (sameL x.np y.np (fun i => sameP (x.pr i) (y.pr i) (x.pl i) (y.pl i))
    && (sameL x.nl y.nl (fun i => sameLp (x.lp i) (y.lp i) (x.wd i) (y.wd i) (x.wl i) (y.wl i)) && sameL x.ni y.ni (fun i => sameE (x.ev i) (y.ev i))))))

theorem sameF_refl (x : Nat) : sameF x x = true := by simp [sameF]
theorem sameF_comm (x y : Nat) : sameF x y = sameF y x := by
  unfold sameF
  rw [Bool.and_comm, decide_eq_decide.2 (eq_comm : x = y ↔ y = x)]
theorem sameI_refl (x : I4) : sameI x x = true := by simp [sameI]
theorem sameI_comm (x y : I4) : sameI x y = sameI y x := by
  unfold sameI
  rw [decide_eq_decide.2 (eq_comm : x.op = y.op ↔ _), decide_eq_decide.2 (eq_comm : x.a = y.a ↔ _), decide_eq_decide.2 (eq_comm : x.b = y.b ↔ _), decide_eq_decide.2 (eq_comm : x.c = y.c ↔ _)]
theorem sameE_refl (x : Ev) : sameE x x = true := by simp [sameE, sameF_refl]
theorem sameE_comm (x y : Ev) : sameE x y = sameE y x := by
  unfold sameE
  rw [sameF_comm, decide_eq_decide.2 (eq_comm : x.dst = y.dst ↔ _), decide_eq_decide.2 (eq_comm : x.pay = y.pay ↔ _)]
theorem sameL_refl (n : Nat) (p : Nat → Bool) (h : ∀ i, i < n → p i = true) : sameL n n p = true := by simp [sameL, (allN_iff p n).2 h]
theorem sameL_comm (n m : Nat) (p q : Nat → Bool) (h : ∀ i, p i = q i) : sameL n m p = sameL m n q := by
  unfold sameL
  by_cases c : n = m
  · subst c; rw [allN_congr fun i _ => h i]
  · simp [c, Ne.symm c]
theorem sameP_refl (f : Nat → I4) (n : Nat) : sameP f f n n = true := sameL_refl _ _ fun _ _ => sameI_refl _
theorem sameP_comm (f g : Nat → I4) (n m : Nat) : sameP f g n m = sameP g f m n := sameL_comm _ _ _ _ fun _ => sameI_comm _ _
theorem sameW_refl (f : Nat → Int) (n : Nat) : sameW f f n n = true := sameL_refl _ _ fun _ _ => by simp
theorem sameW_comm (f g : Nat → Int) (n m : Nat) : sameW f g n m = sameW g f m n := sameL_comm _ _ _ _ fun _ => decide_eq_decide.2 eq_comm
theorem sameLp_comm (p q : Int) (f g : Nat → Int) (n m : Nat) : sameLp p q f g n m = sameLp q p g f m n := by
  unfold sameLp; rw [sameW_comm, decide_eq_decide.2 (eq_comm : p = q ↔ _)]
theorem sameB_refl (x : Mdl) : sameB x x = true := by
  unfold sameB
  rw [sameL_refl x.nd _ fun _ _ => sameF_refl _, sameL_refl x.np _ fun _ _ => sameP_refl _ _, sameL_refl x.ni _ fun _ _ => sameE_refl _, sameL_refl x.nl _ fun _ _ => by simp [sameLp, sameW_refl]]
  simp [sameF_refl]
theorem sameB_comm (x y : Mdl) : sameB x y = sameB y x := by
  unfold sameB
  rw [sameF_comm, sameL_comm x.nd y.nd _ _ fun _ => sameF_comm _ _, sameL_comm x.np y.np _ _ fun _ => sameP_comm _ _ _ _, sameL_comm x.nl y.nl _ _ fun _ => sameLp_comm _ _ _ _ _ _, sameL_comm x.ni y.ni _ _ fun _ => sameE_comm _ _,
    decide_eq_decide.2 (eq_comm : x.seed = y.seed ↔ _)]

end Go.Proofs.Ytaaagmcdbmppmaa
