/- Models as mathematics: which instructions may be, which models may be, which are the same. Small lemmas that the frames share: a slice of integers that came in, opened; structs of five and six fields by value. Models in memory: rows of cells, slices of them, and what stays when new memory is made. The cells of rows, as a list. Rows that a call made, each in a block of its own: what stays of them when memory is written elsewhere. All of memory with one block hidden. All of memory with a set of blocks hidden. -/
import Derived.WalkKit
import Derived.ProofKit
import Derived.OpenShut
import Derived.ShutString
import Derived.ChangeOld
import Derived.Below
import Derived.Lib.SmallJoins
import Derived.Deep.Slices
import Derived.WalkSpells
import Derived.WalkLawsBesides
import Derived.Lib.Hide
import Derived.WalkSmall
import Derived.Deep.RegionHeld3
import Derived.BigQuiet
import Derived.Deep.QuietTactic
import Derived.Laws.OwnMore
import Derived.Test.YtdmlmjmdpmmcgaaYZ0
import Derived.Test.YtdmlmjmdpmmcgaaRows
namespace Go.Proofs.Ytdmlmjmdpmmcgaa

/-- an instruction -/
structure I4 where
  op : Int
  a : Int
  b : Int
  c : Int
/-- an event at first -/
structure Ev where
  t : Nat
  dst : Int
  pay : Int

/-- a register -/
def regB (n : Int) : Bool := decide (0 ≤ n) && decide (n ≤ 7)
/-- a place in a program of so many -/
def plcB (n len : Int) : Bool := decide (0 ≤ n) && decide (n ≤ len)

/-- what an instruction needs, as letters, and whether there is one: 0 none, 1 a place, 2 a register and a place, 3 to 5 that many registers less two, 6 there is none -/
def kindI (op : Int) : Nat :=
  if op = 0 then 0 else if op = 9 then 1 else if op = 10 then 2 else if op = 1 then 3
  else if op = 2 ∨ op = 11 ∨ op = 13 ∨ op = 14 then 4
  else if op = 3 ∨ op = 4 ∨ op = 5 ∨ op = 6 ∨ op = 7 ∨ op = 8 ∨ op = 12 then 5 else 6
/-- may an instruction of that kind be? -/
def kindB (k : Nat) (a b c len : Int) : Bool :=
  match k with
  | 0 => true
  | 1 => plcB a len
  | 2 => regB a && plcB b len
  | 3 => regB a
  | 4 => regB a && regB b
  | 5 => regB a && regB b && regB c
  | _ => false
def insB (x : I4) (len : Int) : Bool := kindB (kindI x.op) x.a x.b x.c len

/-- does p hold of all below n? -/
def allN (p : Nat → Bool) : Nat → Bool
  | 0 => true
  | n + 1 => allN p n && p n
theorem allN_iff (p : Nat → Bool) (n : Nat) : allN p n = true ↔ ∀ i, i < n → p i = true := by
  induction n with
  | zero => simp [allN]
  | succ n ih =>
    simp only [allN, Bool.and_eq_true, ih]
    constructor
    · rintro ⟨h1, h2⟩ i hi
      rcases Nat.lt_or_ge i n with h | h
      · exact h1 i h
      · rw [show i = n by omega]; exact h2
    · exact fun h => ⟨fun i hi => h i (by omega), h n (by omega)⟩
theorem allN_false {p : Nat → Bool} {n j : Nat} (hj : j < n) (h : p j = false) : allN p n = false := by
  rw [Bool.eq_false_iff]
  intro hc
  rw [(allN_iff p n).1 hc j hj] at h
  cases h
theorem allN_step {p : Nat → Bool} {j : Nat} (h : allN p j = true) (h1 : p j = true) : allN p (j + 1) = true := by simp [allN, h, h1]
theorem allN_congr {p q : Nat → Bool} {n : Nat} (h : ∀ i, i < n → p i = q i) : allN p n = allN q n := by
  rw [Bool.eq_iff_iff, allN_iff, allN_iff]
  exact ⟨fun k i hi => by rw [← h i hi]; exact k i hi, fun k i hi => by rw [h i hi]; exact k i hi⟩

/-- a model -/
structure Mdl where
  seed : Int
  fin : Nat
  nd : Nat
  d : Nat → Nat
  np : Nat
  pl : Nat → Nat
  pr : Nat → Nat → I4
  nl : Nat
  lp : Nat → Int
  wl : Nat → Nat
  wd : Nat → Nat → Int
  ni : Nat
  ev : Nat → Ev

/-- a number above 0 -/
def posF (x : Nat) : Bool := decide (isNum x ∧ 0 < ford x)
def numF (x : Nat) : Bool := decide (isNum x)
def from1 (most n : Nat) : Bool := decide (1 ≤ n) && decide (n ≤ most)
def oneOf (count : Nat) (n : Int) : Bool := decide (0 ≤ n) && decide (n < count)

def countsB (m : Mdl) : Bool := from1 6 m.nl && (from1 4 m.np && (from1 8 m.nd && decide (m.ni ≤ 16)))
def progB (f : Nat → I4) (n : Nat) : Bool := from1 48 n && allN (fun k => insB (f k) n) n
def lpB (np : Nat) (p : Int) (wl : Nat) : Bool := oneOf np p && decide (wl ≤ 8)
def evB (nl : Nat) (e : Ev) : Bool := numF e.t && oneOf nl e.dst
/-- may a model be? -/
def mayB (m : Mdl) : Bool :=
  countsB m && (numF m.fin && (allN (fun i => posF (m.d i)) m.nd && (allN (fun i => progB (m.pr i) (m.pl i)) m.np && (allN (fun i => lpB m.np (m.lp i) (m.wl i)) m.nl && allN (fun i => evB m.nl (m.ev i)) m.ni))))
def chkN (m : Mdl) : Int := if mayB m then 0 else 15

/-- the same float -/
def sameF (x y : Nat) : Bool := decide (x = y) || (!numF x && !numF y)
def sameI (x y : I4) : Bool := decide (x.op = y.op) && (decide (x.a = y.a) && (decide (x.b = y.b) && decide (x.c = y.c)))
def sameE (x y : Ev) : Bool := sameF x.t y.t && (decide (x.dst = y.dst) && decide (x.pay = y.pay))
/-- two lists by a test -/
def sameL (n m : Nat) (p : Nat → Bool) : Bool := decide (n = m) && allN p n
def sameP (f g : Nat → I4) (n m : Nat) : Bool := sameL n m fun k => sameI (f k) (g k)
def sameW (f g : Nat → Int) (n m : Nat) : Bool := sameL n m fun k => decide (f k = g k)
def sameLp (p q : Int) (f g : Nat → Int) (n m : Nat) : Bool := decide (p = q) && sameW f g n m
def sameB (x y : Mdl) : Bool :=
  decide (x.seed = y.seed) && (sameF x.fin y.fin && (sameL x.nd y.nd (fun i => sameF (x.d i) (y.d i)) && (sameL x.np y.np (fun i => sameP (x.pr i) (y.pr i) (x.pl i) (y.pl i))
    && (sameL x.nl y.nl (fun i => sameLp (x.lp i) (y.lp i) (x.wd i) (y.wd i) (x.wl i) (y.wl i)) && sameL x.ni y.ni (fun i => sameE (x.ev i) (y.ev i))))))

theorem sameF_refl (x : Nat) : sameF x x = true := by simp [sameF]
theorem sameF_comm (x y : Nat) : sameF x y = sameF y x := by
  unfold sameF
  rw [Bool.and_comm, decide_eq_decide.2 (eq_comm : x = y ↔ y = x)]
theorem sameI_refl (x : I4) : sameI x x = true := by simp [sameI]
theorem sameI_comm (x y : I4) : sameI x y = sameI y x := by
  unfold sameI
  rw [decide_eq_decide.2 (eq_comm : x.op = y.op ↔ _), decide_eq_decide.2 (eq_comm : x.a = y.a ↔ _), decide_eq_decide.2 (eq_comm : x.b = y.b ↔ _), decide_eq_decide.2 (eq_comm : x.c = y.c ↔ _)]
theorem sameE_refl (x : Ev) : sameE x x = true := by simp [sameE, sameF_refl]
theorem sameE_comm (x y : Ev) : sameE x y = sameE y x := by
  unfold sameE
  rw [sameF_comm, decide_eq_decide.2 (eq_comm : x.dst = y.dst ↔ _), decide_eq_decide.2 (eq_comm : x.pay = y.pay ↔ _)]
theorem sameL_refl (n : Nat) (p : Nat → Bool) (h : ∀ i, i < n → p i = true) : sameL n n p = true := by simp [sameL, (allN_iff p n).2 h]
theorem sameL_comm (n m : Nat) (p q : Nat → Bool) (h : ∀ i, p i = q i) : sameL n m p = sameL m n q := by
  unfold sameL
  by_cases c : n = m
  · subst c; rw [allN_congr fun i _ => h i]
  · simp [c, Ne.symm c]
theorem sameP_refl (f : Nat → I4) (n : Nat) : sameP f f n n = true := sameL_refl _ _ fun _ _ => sameI_refl _
theorem sameP_comm (f g : Nat → I4) (n m : Nat) : sameP f g n m = sameP g f m n := sameL_comm _ _ _ _ fun _ => sameI_comm _ _
theorem sameW_refl (f : Nat → Int) (n : Nat) : sameW f f n n = true := sameL_refl _ _ fun _ _ => by simp
theorem sameW_comm (f g : Nat → Int) (n m : Nat) : sameW f g n m = sameW g f m n := sameL_comm _ _ _ _ fun _ => decide_eq_decide.2 eq_comm
theorem sameLp_comm (p q : Int) (f g : Nat → Int) (n m : Nat) : sameLp p q f g n m = sameLp q p g f m n := by
  unfold sameLp; rw [sameW_comm, decide_eq_decide.2 (eq_comm : p = q ↔ _)]
theorem sameB_refl (x : Mdl) : sameB x x = true := by
  unfold sameB
  rw [sameL_refl x.nd _ fun _ _ => sameF_refl _, sameL_refl x.np _ fun _ _ => sameP_refl _ _, sameL_refl x.ni _ fun _ _ => sameE_refl _, sameL_refl x.nl _ fun _ _ => by simp [sameLp, sameW_refl]]
  simp [sameF_refl]
theorem sameB_comm (x y : Mdl) : sameB x y = sameB y x := by
  unfold sameB
  rw [sameF_comm, sameL_comm x.nd y.nd _ _ fun _ => sameF_comm _ _, sameL_comm x.np y.np _ _ fun _ => sameP_comm _ _ _ _, sameL_comm x.nl y.nl _ _ fun _ => sameLp_comm _ _ _ _ _ _, sameL_comm x.ni y.ni _ _ fun _ => sameE_comm _ _,
    decide_eq_decide.2 (eq_comm : x.seed = y.seed ↔ _)]

end Go.Proofs.Ytdmlmjmdpmmcgaa
namespace Go.Proofs.Ytdmlmjmdpmmcgaa
open Go.ChangeShapes Go.WideShapes Go.ChangeAt Go.RowKit Go.Joins

/-- a slice of integers that came in: nil, or a row of 'cap' cells, the numbers 'zs', of which the first 'len' are its elements -/
def IsRow (k : IntKind) (w : World) (a : Option Addr) (len cap : Nat) (zs : List Int) : Prop :=
  (a = none ∧ len = 0 ∧ cap = 0 ∧ zs = []) ∨
  ∃ x, a = some x ∧ len ≤ cap ∧ cap ≤ maxLen ∧ zs.length = cap ∧ (∀ i, i < zs.length → w.cell? (x.add i) = some (.int k (zs.getD i 0))) ∧ ∀ n ∈ zs, (Lit.int k n).wf = true

theorem list1 {α : Type} {l : List α} (h : l.length = 1) : ∃ c0, l = [c0] := by
  match l, h with
  | [c0], _ => exact ⟨c0, rfl⟩
theorem list2 {α : Type} {l : List α} (h : l.length = 2) : ∃ c0 c1, l = [c0, c1] := by
  match l, h with
  | [c0, c1], _ => exact ⟨c0, c1, rfl⟩
theorem list3 {α : Type} {l : List α} (h : l.length = 3) : ∃ c0 c1 c2, l = [c0, c1, c2] := by
  match l, h with
  | [c0, c1, c2], _ => exact ⟨c0, c1, c2, rfl⟩
theorem list4 {α : Type} {l : List α} (h : l.length = 4) : ∃ c0 c1 c2 c3, l = [c0, c1, c2, c3] := by
  match l, h with
  | [c0, c1, c2, c3], _ => exact ⟨c0, c1, c2, c3, rfl⟩
theorem list5 {α : Type} {l : List α} (h : l.length = 5) : ∃ c0 c1 c2 c3 c4, l = [c0, c1, c2, c3, c4] := by
  match l, h with
  | [c0, c1, c2, c3, c4], _ => exact ⟨c0, c1, c2, c3, c4, rfl⟩
theorem list6 {α : Type} {l : List α} (h : l.length = 6) : ∃ c0 c1 c2 c3 c4 c5, l = [c0, c1, c2, c3, c4, c5] := by
  match l, h with
  | [c0, c1, c2, c3, c4, c5], _ => exact ⟨c0, c1, c2, c3, c4, c5, rfl⟩
theorem list7 {α : Type} {l : List α} (h : l.length = 7) : ∃ c0 c1 c2 c3 c4 c5 c6, l = [c0, c1, c2, c3, c4, c5, c6] := by
  match l, h with
  | [c0, c1, c2, c3, c4, c5, c6], _ => exact ⟨c0, c1, c2, c3, c4, c5, c6, rfl⟩
theorem list8 {α : Type} {l : List α} (h : l.length = 8) : ∃ c0 c1 c2 c3 c4 c5 c6 c7, l = [c0, c1, c2, c3, c4, c5, c6, c7] := by
  match l, h with
  | [c0, c1, c2, c3, c4, c5, c6, c7], _ => exact ⟨c0, c1, c2, c3, c4, c5, c6, c7, rfl⟩
theorem list9 {α : Type} {l : List α} (h : l.length = 9) : ∃ c0 c1 c2 c3 c4 c5 c6 c7 c8, l = [c0, c1, c2, c3, c4, c5, c6, c7, c8] := by
  match l, h with
  | [c0, c1, c2, c3, c4, c5, c6, c7, c8], _ => exact ⟨c0, c1, c2, c3, c4, c5, c6, c7, c8, rfl⟩
theorem list10 {α : Type} {l : List α} (h : l.length = 10) : ∃ c0 c1 c2 c3 c4 c5 c6 c7 c8 c9, l = [c0, c1, c2, c3, c4, c5, c6, c7, c8, c9] := by
  match l, h with
  | [c0, c1, c2, c3, c4, c5, c6, c7, c8, c9], _ => exact ⟨c0, c1, c2, c3, c4, c5, c6, c7, c8, c9, rfl⟩
theorem list11 {α : Type} {l : List α} (h : l.length = 11) : ∃ c0 c1 c2 c3 c4 c5 c6 c7 c8 c9 c10, l = [c0, c1, c2, c3, c4, c5, c6, c7, c8, c9, c10] := by
  match l, h with
  | [c0, c1, c2, c3, c4, c5, c6, c7, c8, c9, c10], _ => exact ⟨c0, c1, c2, c3, c4, c5, c6, c7, c8, c9, c10, rfl⟩
theorem list12 {α : Type} {l : List α} (h : l.length = 12) : ∃ c0 c1 c2 c3 c4 c5 c6 c7 c8 c9 c10 c11, l = [c0, c1, c2, c3, c4, c5, c6, c7, c8, c9, c10, c11] := by
  match l, h with
  | [c0, c1, c2, c3, c4, c5, c6, c7, c8, c9, c10, c11], _ => exact ⟨c0, c1, c2, c3, c4, c5, c6, c7, c8, c9, c10, c11, rfl⟩

section
variable {H : Type} {enc : TypeId × Value → H} {P : Program} {w : World}
theorem isRow_of {base fuel : Nat} {t e : TypeId} {k : IntKind} {a : Option Addr} {len cap : Nat} {x : DataW H × List MemPlace} (ht : P.underlying t = some (.slice e)) (he : P.underlying e = some (.int k)) (hc : P.cellsOf e = 1)
    (hf : DataW.trod enc P w base (fun _ => true) true fuel t [.slice a len cap] = some x) : ∃ zs, IsRow k w a len cap zs := by
  rcases open_ints ht he hc hf with ⟨hcs, _⟩ | ⟨y, l, c, zs, hcs, _, hl, hm, hz, _, hcell, hwz⟩
  · simp at hcs
    obtain ⟨rfl, rfl, rfl⟩ := hcs
    exact ⟨[], .inl ⟨rfl, rfl, rfl, rfl⟩⟩
  · simp at hcs
    obtain ⟨rfl, rfl, rfl⟩ := hcs
    exact ⟨zs, .inr ⟨_, rfl, hl, hm, by simpa using hz, hcell, hwz⟩⟩

theorem isRow_cell {base fuel : Nat} {t e : TypeId} {k : IntKind} {c : Value} {x : DataW H × List MemPlace} (ht : P.underlying t = some (.slice e)) (he : P.underlying e = some (.int k)) (hc : P.cellsOf e = 1)
    (hf : DataW.trod enc P w base (fun _ => true) true fuel t [c] = some x) : ∃ a len cap zs, c = .slice a len cap ∧ IsRow k w a len cap zs := by
  rcases open_ints ht he hc hf with ⟨hcs, _⟩ | ⟨y, l, cp, zs, hcs, _, hl, hm, hz, _, hcell, hwz⟩
  · simp at hcs
    exact ⟨none, 0, 0, [], hcs, .inl ⟨rfl, rfl, rfl, rfl⟩⟩
  · simp at hcs
    exact ⟨_, l, cp, zs, hcs, .inr ⟨_, rfl, hl, hm, by simpa using hz, hcell, hwz⟩⟩

/-- a float that came in, in a cell -/
theorem trod_float_cell {base fuel : Nat} {spare : Nat → Bool} {held : Bool} {t : TypeId} {k : FloatKind} {cs : List Value} {x : DataW H × List MemPlace} (ht : P.underlying t = some (.float k)) (h : DataW.trod enc P w base spare held fuel t cs = some x) : ∃ b, cs = [.float k b] ∧ (Lit.float k b).wf = true := by
  cases fuel with
  | zero => simp [DataW.trod] at h
  | succ n =>
    unfold DataW.trod at h
    rw [ht] at h
    split at h <;> simp_all
/-- a float that came in, as an argument -/
theorem open_float_val {r : Reach} {b0 base : Nat} {spare : Nat → Bool} {held : Bool} {t : TypeId} {k : FloatKind} {v : Value} {d : DataW H} {p : List MemPlace} (ht : P.underlying t = some (.float k)) (hv : Value.okWide P w r b0 t v) (h : DataW.Trod enc P w base spare held t v d p) : ∃ b, v = .float k b ∧ (Lit.float k b).wf = true := by
  obtain ⟨fuel, hf⟩ := h
  obtain ⟨b, hb, hw⟩ := trod_float_cell ht hf
  simp only [Value.okWide, ht, Cell.okWide] at hv
  refine ⟨b, ?_, hw⟩
  cases v <;> simp_all [Value.cells, Cell.ok]

/-- the fields of a struct that lies in the cells cs: field i, of type T, at cell o, k cells wide, reads as data -/
theorem struct_cells {base fuel : Nat} {spare : Nat → Bool} {held : Bool} {t : TypeId} {fs : Array Field} {cs : List Value} {x : DataW H × List MemPlace} (hs : P.underlying t = some (.struct fs)) (h : DataW.trod enc P w base spare held fuel t cs = some x) :
    ∃ n, ∀ (i : Nat) (T : TypeId) (o k : Nat), fs[i]?.map (fun f => (f.type, f.offset)) = some (T, o) → P.cellsOf T = k → ∃ y, DataW.trod enc P w base spare held n T ((cs.drop o).take k) = some y := by
  obtain ⟨xs, n, _, _, _, hlen, hg⟩ := DataW.trod_struct hs h
  refine ⟨n, fun i T o k hi hk => ?_⟩
  obtain ⟨f, hf, e⟩ := Option.map_eq_some_iff.1 hi
  simp only [Prod.mk.injEq] at e
  have hlt : i < xs.length := by have := (Array.getElem?_eq_some_iff.1 hf).1; omega
  have := hg i f hf
  rw [e.1, e.2, hk, List.getElem?_eq_getElem hlt] at this
  exact ⟨_, this⟩

/-- a struct that came in by value: its cells, and its fields' readings -/
theorem open_struct {r : Reach} {b0 base : Nat} {spare : Nat → Bool} {held : Bool} {t : TypeId} {fs : Array Field} {v : Value} {d : DataW H} {p : List MemPlace} (hs : P.underlying t = some (.struct fs)) (hv : Value.okWide P w r b0 t v) (h : DataW.Trod enc P w base spare held t v d p) :
    ∃ (cs : List Value) (n : Nat), v = .agg cs.toArray ∧ cs.length = P.cellsOf t ∧
      ∀ (i : Nat) (T : TypeId) (o k : Nat), fs[i]?.map (fun f => (f.type, f.offset)) = some (T, o) → P.cellsOf T = k → ∃ y, DataW.trod enc P w base spare held n T ((cs.drop o).take k) = some y := by
  obtain ⟨cs, rfl, hsz⟩ := okWide_struct hs hv
  obtain ⟨fuel, hf⟩ := h
  obtain ⟨n, hn⟩ := struct_cells hs hf
  exact ⟨cs.toList, n, by simp, by simpa using hsz, fun i T o k hi hk => by simpa [Value.cells] using hn i T o k hi hk⟩

/-- a slice that came in: nil, or elements of C cells each, of which 'ok' tells what they are -/
def CellRows (C : Nat) (ok : List Value → Prop) (w : World) (a : Option Addr) (len cap : Nat) : Prop :=
  (a = none ∧ len = 0 ∧ cap = 0) ∨
  ∃ x, a = some x ∧ len ≤ cap ∧ cap ≤ maxLen ∧ ∀ i, i < len → ∃ cs, cs.length = C ∧ ok cs ∧ ∀ j, j < C → w.cell? (x.add (i * C + j)) = cs[j]?

theorem cellRows_of {base fuel C : Nat} {t e : TypeId} {a : Option Addr} {len cap : Nat} {x : DataW H × List MemPlace} {ok : List Value → Prop} (ht : P.underlying t = some (.slice e)) (hc : P.cellsOf e = C)
    (hf : DataW.trod enc P w base (fun _ => true) true fuel t [.slice a len cap] = some x)
    (hok : ∀ (cs : List Value) (m : Nat) (y : DataW H × List MemPlace), cs.length = C → DataW.trod enc P w base (fun _ => true) true m e cs = some y → ok cs) : CellRows C ok w a len cap := by
  rcases Go.Deep.open_slice ht hf with ⟨hcs, _⟩ | ⟨y, l, cp, m, n, D, Pl, hcs, _, hl, hm, hmm, _, hi⟩
  · simp at hcs
    exact .inl hcs
  · simp at hcs
    obtain ⟨rfl, rfl, rfl⟩ := hcs
    refine .inr ⟨y, rfl, hl, hm, fun i hlt => ?_⟩
    obtain ⟨cs, h1, h2⟩ := hi i (by rw [hmm]; simp; omega)
    rw [hc] at h1
    obtain ⟨_, h3, h4⟩ := World.cells?_some h1
    refine ⟨cs, h3, hok cs n _ h3 h2, fun j hj => ?_⟩
    rw [← Go.Deep.add_add]
    exact h4 j hj
end

end Go.Proofs.Ytdmlmjmdpmmcgaa
namespace Go.Proofs.Ytdmlmjmdpmmcgaa
open Go.RowKit
set_option linter.unusedVariables false

/-- rows of C cells in a block: cell j of row i is g i j -/
def At (C : Nat) (g : Nat → Nat → Value) (n b o : Nat) (w : World) : Prop :=
  b < w.heap.size ∧ ∀ i, i < n → ∀ j, j < C → w.cell? ⟨b, o + i * C + j, none⟩ = some (g i j)
theorem At.below {C : Nat} {g : Nat → Nat → Value} {n b o : Nat} {w w2 : World} (h : At C g n b o w) (k : Below w.heap.size w w2) : At C g n b o w2 :=
  ⟨Nat.lt_of_lt_of_le h.1 k.size, fun i hi j hj => by rw [k.cell (p := ⟨b, o + i * C + j, none⟩) h.1]; exact h.2 i hi j hj⟩
/-- a slice of rows -/
def Sl (C : Nat) (g : Nat → Nat → Value) (n : Nat) (v : Value) (w : World) : Prop :=
  ∃ ao cap, v = .slice ao n cap ∧ n ≤ cap ∧ cap ≤ 9223372036854775807 ∧ (0 < n → ∃ b o, ao = some ⟨b, o, none⟩ ∧ At C g n b o w)
theorem Sl.below {C : Nat} {g : Nat → Nat → Value} {n : Nat} {v : Value} {w w2 : World} (h : Sl C g n v w) (k : Below w.heap.size w w2) : Sl C g n v w2 := by
  obtain ⟨ao, cap, e, h1, h2, h3⟩ := h
  exact ⟨ao, cap, e, h1, h2, fun hn => by obtain ⟨b, o, e2, ha⟩ := h3 hn; exact ⟨b, o, e2, ha.below k⟩⟩
theorem Sl.congr {C : Nat} {g g2 : Nat → Nat → Value} {n : Nat} {v : Value} {w : World} (h : Sl C g n v w) (e : ∀ i, i < n → ∀ j, j < C → g i j = g2 i j) : Sl C g2 n v w := by
  obtain ⟨ao, cap, ev, h1, h2, h3⟩ := h
  exact ⟨ao, cap, ev, h1, h2, fun hn => by
    obtain ⟨b, o, e2, ha⟩ := h3 hn
    exact ⟨b, o, e2, ha.1, fun i hi j hj => by rw [← e i hi j hj]; exact ha.2 i hi j hj⟩⟩

/-- the cells of floats, numbers, instructions, events -/
def gF (d : Nat → Nat) : Nat → Nat → Value := fun i _ => .float .f64 (d i)
def gW (d : Nat → Int) : Nat → Nat → Value := fun i _ => .int .i64 (d i)
def gI (f : Nat → I4) : Nat → Nat → Value := fun i j => match j with
  | 0 => .int .i64 (f i).op
  | 1 => .int .i64 (f i).a
  | 2 => .int .i64 (f i).b
  | _ => .int .i64 (f i).c
def gE (f : Nat → Ev) : Nat → Nat → Value := fun i j => match j with
  | 0 => .float .f64 (f i).t
  | 1 => .int .i64 (f i).dst
  | _ => .int .i64 (f i).pay
def gL (p : Nat → Int) (v : Nat → Value) : Nat → Nat → Value := fun i j => match j with
  | 0 => .int .i64 (p i)
  | _ => v i
def gV (v : Nat → Value) : Nat → Nat → Value := fun i _ => v i

/-- programs -/
def Pgs (n : Nat) (pl : Nat → Nat) (pr : Nat → Nat → I4) (v : Value) (w : World) : Prop :=
  ∃ g, Sl 1 (gV g) n v w ∧ ∀ i, i < n → Sl 4 (gI (pr i)) (pl i) (g i) w
/-- processes -/
def Lps (n : Nat) (lp : Nat → Int) (wl : Nat → Nat) (wd : Nat → Nat → Int) (v : Value) (w : World) : Prop :=
  ∃ g, Sl 2 (gL lp g) n v w ∧ ∀ i, i < n → Sl 1 (gW (wd i)) (wl i) (g i) w
theorem Pgs.below {n : Nat} {pl : Nat → Nat} {pr : Nat → Nat → I4} {v : Value} {w w2 : World} (h : Pgs n pl pr v w) (k : Below w.heap.size w w2) : Pgs n pl pr v w2 := by
  obtain ⟨g, h1, h2⟩ := h
  exact ⟨g, h1.below k, fun i hi => (h2 i hi).below k⟩
theorem Lps.below {n : Nat} {lp : Nat → Int} {wl : Nat → Nat} {wd : Nat → Nat → Int} {v : Value} {w w2 : World} (h : Lps n lp wl wd v w) (k : Below w.heap.size w w2) : Lps n lp wl wd v w2 := by
  obtain ⟨g, h1, h2⟩ := h
  exact ⟨g, h1.below k, fun i hi => (h2 i hi).below k⟩

/-- the lists of a model: delays, programs, processes, events -/
structure MdlAt (m : Mdl) (vd vp vl vi : Value) (w : World) : Prop where
  d : Sl 1 (gF m.d) m.nd vd w
  p : Pgs m.np m.pl m.pr vp w
  l : Lps m.nl m.lp m.wl m.wd vl w
  i : Sl 3 (gE m.ev) m.ni vi w
theorem MdlAt.below {m : Mdl} {vd vp vl vi : Value} {w w2 : World} (h : MdlAt m vd vp vl vi w) (k : Below w.heap.size w w2) : MdlAt m vd vp vl vi w2 :=
  ⟨h.d.below k, h.p.below k, h.l.below k, h.i.below k⟩

/-- a model as a value -/
def mval (m : Mdl) (vd vp vl vi : Value) : Value := .agg #[.int .i64 m.seed, .float .f64 m.fin, vd, vp, vl, vi]

/-- a number in a box of its own -/
def BoxI (n : Int) (q : Nat) (w : World) : Prop := w.cell? ⟨q, 0, none⟩ = some (.int .i64 n) ∧ q < w.heap.size
theorem BoxI.below {n : Int} {q : Nat} {w w2 : World} (h : BoxI n q w) (k : Below w.heap.size w w2) : BoxI n q w2 :=
  ⟨by rw [k.cell (p := ⟨q, 0, none⟩) h.2]; exact h.1, Nat.lt_of_lt_of_le h.2 k.size⟩

/-- a row of four, of six cells in a block -/
def Box4 (x : I4) (b o : Nat) (w : World) : Prop := b < w.heap.size ∧ w.cell? ⟨b, o, none⟩ = some (.int .i64 x.op) ∧ w.cell? ⟨b, o + 1, none⟩ = some (.int .i64 x.a) ∧ w.cell? ⟨b, o + 2, none⟩ = some (.int .i64 x.b) ∧ w.cell? ⟨b, o + 3, none⟩ = some (.int .i64 x.c)
theorem Box4.below {x : I4} {b o : Nat} {w w2 : World} (h : Box4 x b o w) (k : Below w.heap.size w w2) : Box4 x b o w2 := by
  obtain ⟨h0, h1, h2, h3, h4⟩ := h
  have e : ∀ o : Nat, w2.cell? ⟨b, o, none⟩ = w.cell? ⟨b, o, none⟩ := fun o => k.cell h0
  exact ⟨Nat.lt_of_lt_of_le h0 k.size, by rw [e]; exact h1, by rw [e]; exact h2, by rw [e]; exact h3, by rw [e]; exact h4⟩
def Box6 (c0 c1 c2 c3 c4 c5 : Value) (b : Nat) (w : World) : Prop := b < w.heap.size ∧ w.cell? ⟨b, 0, none⟩ = some c0 ∧ w.cell? ⟨b, 1, none⟩ = some c1 ∧ w.cell? ⟨b, 2, none⟩ = some c2 ∧ w.cell? ⟨b, 3, none⟩ = some c3 ∧ w.cell? ⟨b, 4, none⟩ = some c4 ∧ w.cell? ⟨b, 5, none⟩ = some c5
theorem Box6.below {c0 c1 c2 c3 c4 c5 : Value} {b : Nat} {w w2 : World} (h : Box6 c0 c1 c2 c3 c4 c5 b w) (k : Below w.heap.size w w2) : Box6 c0 c1 c2 c3 c4 c5 b w2 := by
  obtain ⟨h0, h1, h2, h3, h4, h5, h6⟩ := h
  have e : ∀ o : Nat, w2.cell? ⟨b, o, none⟩ = w.cell? ⟨b, o, none⟩ := fun o => k.cell h0
  exact ⟨Nat.lt_of_lt_of_le h0 k.size, by rw [e]; exact h1, by rw [e]; exact h2, by rw [e]; exact h3, by rw [e]; exact h4, by rw [e]; exact h5, by rw [e]; exact h6⟩
theorem Box6.new (c0 c1 c2 c3 c4 c5 : Value) (t : TypeId) (w : World) : Box6 c0 c1 c2 c3 c4 c5 w.heap.size (w.alloc (.cells #[c0, c1, c2, c3, c4, c5] t)) := by
  have hh := heap_alloc_new w (.cells #[c0, c1, c2, c3, c4, c5] t)
  refine ⟨lt_of_block hh, ?_, ?_, ?_, ?_, ?_, ?_⟩ <;> (rw [Lib.cell_of_heap hh]; rfl)
theorem Box4.new (x : I4) (t : TypeId) (w : World) : Box4 x w.heap.size 0 (w.alloc (.cells #[.int .i64 x.op, .int .i64 x.a, .int .i64 x.b, .int .i64 x.c] t)) := by
  have hh := heap_alloc_new w (.cells #[.int .i64 x.op, .int .i64 x.a, .int .i64 x.b, .int .i64 x.c] t)
  refine ⟨lt_of_block hh, ?_, ?_, ?_, ?_⟩ <;> (rw [Lib.cell_of_heap hh]; rfl)
theorem At.box4 {f : Nat → I4} {n b o : Nat} {w : World} (h : At 4 (gI f) n b o w) (i : Nat) (hi : i < n) : Box4 (f i) b (o + i * 4) w :=
  ⟨h.1, h.2 i hi 0 (by omega), h.2 i hi 1 (by omega), h.2 i hi 2 (by omega), h.2 i hi 3 (by omega)⟩

theorem At.one {g : Nat → Nat → Value} {n b o : Nat} {w : World} (h : At 1 g n b o w) (i : Nat) (hi : i < n) : w.cell? ⟨b, o + i, none⟩ = some (g i 0) := by
  have := h.2 i hi 0 (by omega)
  simpa using this
theorem At.two {g : Nat → Nat → Value} {n b o : Nat} {w : World} (h : At 2 g n b o w) (i : Nat) (hi : i < n) : w.cell? ⟨b, o + i * 2, none⟩ = some (g i 0) ∧ w.cell? ⟨b, o + i * 2 + 1, none⟩ = some (g i 1) :=
  ⟨h.2 i hi 0 (by omega), h.2 i hi 1 (by omega)⟩
theorem At.three {g : Nat → Nat → Value} {n b o : Nat} {w : World} (h : At 3 g n b o w) (i : Nat) (hi : i < n) : w.cell? ⟨b, o + i * 3, none⟩ = some (g i 0) ∧ w.cell? ⟨b, o + i * 3 + 1, none⟩ = some (g i 1) ∧ w.cell? ⟨b, o + i * 3 + 2, none⟩ = some (g i 2) :=
  ⟨h.2 i hi 0 (by omega), h.2 i hi 1 (by omega), h.2 i hi 2 (by omega)⟩

theorem bdrew (w : World) : Below w.heap.size w w.drew := (Below.refl _ _).drew

/-- the worlds in which all that lay in W is as it was: a class for regions whose operations only read and whose callees make new memory alone -/
def Cls (W w2 : World) : Prop := Below W.heap.size W w2
theorem Cls.out {W w2 : World} (h : Cls W w2) : Below W.heap.size W w2 := h
theorem Cls.drew (W : World) : Cls W W.drew := bdrew W
theorem Cls.on {W w2 w3 : World} (h : Cls W w2) (k : Below w2.heap.size w2 w3) : Cls W w3 := bthen h.out k

end Go.Proofs.Ytdmlmjmdpmmcgaa
namespace Go.Proofs.Ytdmlmjmdpmmcgaa
open Go.RowKit
set_option linter.unusedVariables false

/-- the cells of n rows of C -/
def rowCells (C : Nat) (g : Nat → Nat → Value) (n : Nat) : List Value := (List.range (n * C)).map fun k => g (k / C) (k % C)
theorem rowCells_len (C : Nat) (g : Nat → Nat → Value) (n : Nat) : (rowCells C g n).length = n * C := by simp [rowCells]
theorem rowCells_at {C : Nat} (g : Nat → Nat → Value) {n i j : Nat} (hi : i < n) (hj : j < C) : (rowCells C g n)[i * C + j]? = some (g i j) := by
  have h : i * C + j < n * C := by
    have : (i + 1) * C ≤ n * C := Nat.mul_le_mul_right C hi
    rw [Nat.add_mul, Nat.one_mul] at this
    omega
  have e1 : (i * C + j) / C = i := by
    rw [Nat.mul_comm, Nat.mul_add_div (by omega), Nat.div_eq_of_lt hj]; omega
  have e2 : (i * C + j) % C = j := by
    rw [Nat.mul_comm, Nat.mul_add_mod]; exact Nat.mod_eq_of_lt hj
  simp [rowCells, h, e1, e2]
theorem rowCells_of {C : Nat} (hC : 0 < C) (g : Nat → Nat → Value) {n k : Nat} {v : Value} (h : (rowCells C g n)[k]? = some v) : k < n * C ∧ k / C < n ∧ k % C < C ∧ v = g (k / C) (k % C) := by
  have hk : k < n * C := by
    rcases Nat.lt_or_ge k (n * C) with h' | h'
    · exact h'
    · rw [List.getElem?_eq_none (by rw [rowCells_len]; exact h')] at h; cases h
  refine ⟨hk, (Nat.div_lt_iff_lt_mul hC).2 hk, Nat.mod_lt _ hC, ?_⟩
  simp [rowCells, hk] at h
  exact h.symm

end Go.Proofs.Ytdmlmjmdpmmcgaa
namespace Go.Proofs.Ytdmlmjmdpmmcgaa
open Go.RowKit
set_option linter.unusedVariables false

theorem cell_block {w : World} {a : Addr} {v : Value} (h : w.cell? a = some v) : ∃ c t f, w.heap[a.block]? = some (.cells c t f) := by
  unfold World.cell? at h
  split at h
  · exact ⟨_, _, _, by assumption⟩
  · cases h
theorem cell_lt {w : World} {a : Addr} {v : Value} (h : w.cell? a = some v) : a.block < w.heap.size := by
  obtain ⟨c, t, f, e⟩ := cell_block h
  exact lt_of_block e
theorem own_low {w : World} {b : Nat} {E : TypeId} {C n : Nat} {v : Value} {xs : List Value} (h : w.ownsRow b E C v n xs) : w.ownsRow 0 E C v n xs := by
  obtain ⟨h1, h2⟩ := h
  refine ⟨h1, ?_⟩
  rcases h2 with h2 | ⟨g, cap, cur, r1, r2, r3⟩
  · exact .inl h2
  · exact .inr ⟨g, cap, cur, r1, Nat.zero_le _, r3⟩
theorem own_kept {w w2 : World} {b : Nat} {E : TypeId} {C n : Nat} {v : Value} {xs : List Value} (h : w.ownsRow b E C v n xs) (k : ∀ g, v.ownBlock = some g → w2.heap[g]? = w.heap[g]?) : w2.ownsRow b E C v n xs := by
  obtain ⟨h1, h2⟩ := h
  refine ⟨h1, ?_⟩
  rcases h2 with h2 | ⟨g, cap, cur, rfl, r2, r3, r4⟩
  · exact .inl h2
  · exact .inr ⟨g, cap, cur, rfl, r2, by rw [k g rfl]; exact r3, r4⟩
theorem own_lt {w : World} {b : Nat} {E : TypeId} {C n : Nat} {v : Value} {xs : List Value} (h : w.ownsRow b E C v n xs) {g : Nat} (e : v.ownBlock = some g) : b ≤ g ∧ g < w.heap.size := h.lt g e
theorem own_below {u u2 : World} {b : Nat} {E : TypeId} {C n : Nat} {v : Value} {xs : List Value} (h : u.ownsRow b E C v n xs) (k : Below u.heap.size u u2) : u2.ownsRow b E C v n xs :=
  own_kept h fun g e => k.block g (own_lt h e).2
theorem own_apart {w : World} {b b2 : Nat} {E E2 : TypeId} {C C2 n n2 : Nat} {v v2 : Value} {xs xs2 : List Value} (h : w.ownsRow b E C v n xs) (k : w.ownsRow b2 E2 C2 v2 n2 xs2) (hE : E ≠ E2) {g : Nat} (e : v.ownBlock = some g) : v2.ownBlock ≠ some g := by
  intro e2
  rcases h.2 with ⟨rfl, _⟩ | ⟨g1, cap1, cur1, rfl, _, h3, _⟩
  · simp [Value.ownBlock] at e
  · rcases k.2 with ⟨rfl, _⟩ | ⟨g2, cap2, cur2, rfl, _, k3, _⟩
    · simp [Value.ownBlock] at e2
    · simp only [Value.ownBlock, Option.some.injEq] at e e2
      subst e
      subst e2
      rw [h3] at k3
      simp only [Option.some.injEq, Obj.cells.injEq] at k3
      exact hE k3.2.1
theorem rowCells_succ {C : Nat} (hC : 0 < C) (g : Nat → Nat → Value) (n : Nat) (l : List Value) (hl : l.length = C) (h : ∀ j, j < C → l[j]? = some (g n j)) : rowCells C g n ++ l = rowCells C g (n + 1) := by
  apply List.ext_getElem?
  intro k
  rcases Nat.lt_or_ge k (n * C) with hk | hk
  · rw [List.getElem?_append_left (by rw [rowCells_len]; exact hk)]
    have e : (n + 1) * C = n * C + C := by rw [Nat.add_mul, Nat.one_mul]
    simp [rowCells, hk, show k < (n + 1) * C by omega]
  · rw [List.getElem?_append_right (by rw [rowCells_len]; exact hk), rowCells_len]
    rcases Nat.lt_or_ge (k - n * C) C with h2 | h2
    · rw [h _ h2]
      have := rowCells_at g (n := n + 1) (i := n) (j := k - n * C) (by omega) h2
      rw [show n * C + (k - n * C) = k by omega] at this
      exact this.symm
    · rw [List.getElem?_eq_none (by omega), List.getElem?_eq_none (by rw [rowCells_len, Nat.add_mul, Nat.one_mul]; omega)]

theorem grown_keep {w w4 : World} {b C n q : Nat} {E t : TypeId} {v : Value} {xs : List Value} {c : Array Value} {f : Nat × Nat} (h : w.ownsRow b E C v n xs) (hg : w.grownBy w4 v.ownBlock) (hq : w.heap[q]? = some (.cells c t f)) (hne : t ≠ E) : w4.heap[q]? = some (.cells c t f) := by
  rw [hg.block q (lt_of_block hq) ?_]
  · exact hq
  · intro he
    rcases h.2 with ⟨rfl, _⟩ | ⟨g, cap, cur, rfl, _, r3, _⟩
    · simp [Value.ownBlock] at he
    · simp only [Value.ownBlock, Option.some.injEq] at he
      subst he
      rw [hq] at r3
      simp only [Option.some.injEq, Obj.cells.injEq] at r3
      exact hne r3.2.1

/-- a row that was made is a slice of rows -/
theorem own_sl {u : World} {b : Nat} {E : TypeId} {C : Nat} {v : Value} {n : Nat} {g : Nat → Nat → Value} (h : u.ownsRow b E C v n (rowCells C g n)) : Sl C g n v u := by
  rcases h.2 with ⟨rfl, rfl⟩ | ⟨b, cap, cur, rfl, _, h3, h4, h5, h6, h7⟩
  · exact ⟨none, 0, rfl, Nat.le_refl _, by omega, fun h => absurd h (Nat.lt_irrefl 0)⟩
  · refine ⟨_, cap, rfl, h4, by unfold maxLen at h5; omega, fun _ => ⟨b, 0, rfl, lt_of_block h3, fun i hi j hj => ?_⟩⟩
    have hk : i * C + j < n * C := by
      have : (i + 1) * C ≤ n * C := Nat.mul_le_mul_right C hi
      rw [Nat.add_mul, Nat.one_mul] at this
      omega
    rw [Lib.cell_of_heap h3, Nat.zero_add, ← Array.getElem?_toList]
    have e := rowCells_at g hi hj
    rw [← h7, List.getElem?_take, if_pos hk] at e
    exact e

end Go.Proofs.Ytdmlmjmdpmmcgaa
namespace Go.Proofs.Ytdmlmjmdpmmcgaa
open Go.RowKit
set_option linter.unusedVariables false

/-- the world with block tb hidden -/
def Hd (tb : Nat) (w : World) : World := { w with heap := w.heap.modify tb fun _ => .finalizers #[] none }
theorem Hd.size (tb : Nat) (w : World) : (Hd tb w).heap.size = w.heap.size := by simp [Hd]
theorem Hd.block (tb k : Nat) (w : World) : (Hd tb w).heap[k]? = if tb = k then (w.heap[k]?).map (fun _ => Obj.finalizers #[] none) else w.heap[k]? := by
  simp only [Hd, Array.getElem?_modify]
theorem Hd.other {tb k : Nat} (w : World) (h : tb ≠ k) : (Hd tb w).heap[k]? = w.heap[k]? := by rw [Hd.block, if_neg h]
theorem Hd.cells {tb k : Nat} {w : World} {c : Array Value} {t : TypeId} {f : Nat × Nat} (h : (Hd tb w).heap[k]? = some (.cells c t f)) : tb ≠ k ∧ w.heap[k]? = some (.cells c t f) := by
  rw [Hd.block] at h
  by_cases e : tb = k
  · rw [if_pos e] at h
    cases hw : w.heap[k]? with
    | none => rw [hw] at h; cases h
    | some o => rw [hw] at h; simp at h
  · rw [if_neg e] at h; exact ⟨e, h⟩
theorem Hd.cell {tb : Nat} {w : World} {a : Addr} {v : Value} (h : (Hd tb w).cell? a = some v) : w.cell? a = some v := by
  obtain ⟨c, t, f, e⟩ := cell_block h
  obtain ⟨h1, h2⟩ := Hd.cells e
  rw [← h]
  exact World.cell?_of_block (by rw [e, h2])
theorem Hd.below {tb B : Nat} {w w2 : World} (h : Below B w w2) : Below B (Hd tb w) (Hd tb w2) :=
  ⟨h.os, h.tape, h.output, by rw [Hd.size, Hd.size]; exact h.size, fun k hk => by rw [Hd.block, Hd.block, h.block k hk]⟩

/-- all but block tb is as it was -/
def Kp (tb : Nat) (w w2 : World) : Prop := Below w.heap.size (Hd tb w) (Hd tb w2)
theorem Kp.refl (tb : Nat) (w : World) : Kp tb w w := Below.refl _ _
theorem Kp.size {tb : Nat} {w w2 : World} (h : Kp tb w w2) : w.heap.size ≤ w2.heap.size := by have := Below.size h; rwa [Hd.size, Hd.size] at this
theorem Kp.trans {tb : Nat} {a b c : World} (h : Kp tb a b) (k : Kp tb b c) : Kp tb a c := Below.trans h (Below.mono k h.size)
theorem Kp.of {tb : Nat} {a b : World} (h : Below a.heap.size a b) : Kp tb a b := Hd.below h
theorem Kp.on {tb : Nat} {a b c : World} (h : Kp tb a b) (k : Below b.heap.size b c) : Kp tb a c := h.trans (Kp.of k)
theorem Kp.low {tb : Nat} {a b c : World} (h : Kp tb a b) (k : Below a.heap.size b c) : Kp tb a c := Below.trans h (Hd.below k)
theorem Kp.blk {tb k : Nat} {a b : World} (h : Kp tb a b) (hk : k < a.heap.size) (hne : tb ≠ k) : b.heap[k]? = a.heap[k]? := by
  have := Below.block h k hk
  rwa [Hd.other _ hne, Hd.other _ hne] at this
theorem Kp.set (tb o : Nat) (v : Value) (w : World) : Kp tb w (w.setCell ⟨tb, o, none⟩ v) := by
  refine ⟨rfl, rfl, rfl, by rw [Hd.size, Hd.size, World.size_setCell]; exact Nat.le_refl _, fun k hk => ?_⟩
  rw [Hd.block, Hd.block]
  by_cases e : tb = k
  · subst e
    rw [if_pos rfl, if_pos rfl]
    have h1 : tb < w.heap.size := hk
    rw [Array.getElem?_eq_getElem h1, Array.getElem?_eq_getElem (by rw [World.size_setCell]; exact h1)]
    rfl
  · rw [if_neg e, if_neg e]
    exact Below.heap_setCell _ _ _ _ (fun h => e h.symm)
theorem Kp.bot {tb B : Nat} {a b : World} (h : Kp tb a b) (hB : B ≤ a.heap.size) (ht : B ≤ tb) : Below B a b := by
  have k : Below a.heap.size (Hd tb a) (Hd tb b) := h
  exact ⟨k.os, k.tape, k.output, h.size, fun i hi => h.blk (by omega) (by omega)⟩
theorem Kp.drew (tb : Nat) (w : World) : Kp tb w w.drew := Kp.of (bdrew w)
/-- hiding a block, and what is done to memory -/
theorem hd_types {B : Nat} {W : World} {cs : Array Value} {E : TypeId} {fr : Nat × Nat} (hB : W.heap[B]? = some (.cells cs E fr)) :
    ∀ (k : Nat) (c : Array Value) (t : TypeId) (f : Nat × Nat), t ≠ E → W.heap[k]? = some (Obj.cells c t f) → (Hd B W).heap[k]? = some (Obj.cells c t f) := by
  intro k c t f hne hc
  rw [Hd.other]
  · exact hc
  · rintro rfl
    rw [hc] at hB
    simp only [Option.some.injEq, Obj.cells.injEq] at hB
    exact hne hB.2.1
theorem hd_set_self (X o : Nat) (v : Value) (W : World) : Hd X (W.setCell ⟨X, o, none⟩ v) = Hd X W := by
  unfold Hd World.setCell
  simp only [World.mk.injEq, and_true]
  apply Array.ext_getElem?
  intro k
  simp only [Array.getElem?_modify]
  by_cases e : X = k
  · simp [e, Function.comp_def]
  · simp [e]
theorem hd_set_other {X tb : Nat} (h : tb ≠ X) (o : Nat) (v : Value) (W : World) : Hd X (W.setCell ⟨tb, o, none⟩ v) = (Hd X W).setCell ⟨tb, o, none⟩ v := by
  unfold Hd World.setCell
  simp only [World.mk.injEq, and_true]
  apply Array.ext_getElem?
  intro k
  simp only [Array.getElem?_modify]
  by_cases e : X = k
  · subst e
    simp [h]
  · simp [e]
theorem hd_sets_self (X : Nat) : ∀ (l : List Value) (o : Nat) (W : World), Hd X (W.setCells X o l) = Hd X W
  | [], _, W => rfl
  | v :: l, o, W => (hd_sets_self X l (o + 1) _).trans (hd_set_self X o v W)
theorem hd_sets_other {X tb : Nat} (h : tb ≠ X) : ∀ (l : List Value) (o : Nat) (W : World), Hd X (W.setCells tb o l) = (Hd X W).setCells tb o l
  | [], _, W => rfl
  | v :: l, o, W => by
    show Hd X ((W.setCell ⟨tb, o, none⟩ v).setCells tb (o + 1) l) = ((Hd X W).setCell ⟨tb, o, none⟩ v).setCells tb (o + 1) l
    rw [hd_sets_other h l (o + 1) _, hd_set_other h]
theorem hd_alloc {X : Nat} {W : World} (h : X < W.heap.size) (o : Obj) : Hd X (W.alloc o) = (Hd X W).alloc o := by
  unfold Hd World.alloc
  simp only [World.mk.injEq, and_true]
  apply Array.ext_getElem?
  intro k
  simp only [Array.getElem?_modify, Array.getElem?_push, Array.size_modify]
  by_cases e : X = k
  · subst e
    have : X ≠ W.heap.size := by omega
    simp [this]
  · simp [e]
theorem hd_grown {X : Nat} {w w4 : World} {row : Option Nat} (h : w.grownBy w4 row) : (Hd X w).grownBy (Hd X w4) row :=
  ⟨h.os, h.tape, h.output, by rw [Hd.size, Hd.size]; exact h.size, fun k hk hne => by rw [Hd.block, Hd.block, h.block k (by rwa [Hd.size] at hk) hne]⟩

end Go.Proofs.Ytdmlmjmdpmmcgaa
namespace Go.Proofs.Ytdmlmjmdpmmcgaa
open Go.RowKit
set_option linter.unusedVariables false
set_option maxRecDepth 100000

/-- the world with the blocks of S hidden -/
def HdS (S : Nat → Bool) (w : World) : World := { w with heap := w.heap.mapIdx fun i o => if S i then .finalizers #[] none else o }
theorem HdS.size (S : Nat → Bool) (w : World) : (HdS S w).heap.size = w.heap.size := by simp [HdS]
theorem HdS.block (S : Nat → Bool) (k : Nat) (w : World) : (HdS S w).heap[k]? = (w.heap[k]?).map (fun o => if S k then Obj.finalizers #[] none else o) := by
  simp only [HdS, Array.getElem?_mapIdx]
theorem HdS.other {S : Nat → Bool} {k : Nat} (w : World) (h : S k = false) : (HdS S w).heap[k]? = w.heap[k]? := by
  rw [HdS.block, h]
  cases w.heap[k]? <;> rfl
theorem HdS.hid {S : Nat → Bool} {k : Nat} {w w2 : World} (h : S k = true) (h1 : k < w.heap.size) (h2 : k < w2.heap.size) : (HdS S w2).heap[k]? = (HdS S w).heap[k]? := by
  rw [HdS.block, HdS.block, h, Array.getElem?_eq_getElem h1, Array.getElem?_eq_getElem h2]; rfl
theorem HdS.cells {S : Nat → Bool} {k : Nat} {w : World} {c : Array Value} {t : TypeId} {f : Nat × Nat} (h : (HdS S w).heap[k]? = some (.cells c t f)) : S k = false ∧ w.heap[k]? = some (.cells c t f) := by
  cases e : S k with
  | false => exact ⟨rfl, by rwa [HdS.other w e] at h⟩
  | true =>
    rw [HdS.block, e] at h
    cases hw : w.heap[k]? with
    | none => rw [hw] at h; cases h
    | some o => rw [hw] at h; simp at h
theorem HdS.cell {S : Nat → Bool} {w : World} {a : Addr} {v : Value} (h : (HdS S w).cell? a = some v) : w.cell? a = some v := by
  obtain ⟨c, t, f, e⟩ := cell_block h
  obtain ⟨h1, h2⟩ := HdS.cells e
  rw [← h]
  exact World.cell?_of_block (by rw [e, h2])
theorem HdS.below {S : Nat → Bool} {B : Nat} {w w2 : World} (h : Below B w w2) : Below B (HdS S w) (HdS S w2) :=
  ⟨h.os, h.tape, h.output, by rw [HdS.size, HdS.size]; exact h.size, fun k hk => by rw [HdS.block, HdS.block, h.block k hk]⟩
theorem HdS.below2 {S S2 : Nat → Bool} {B : Nat} {w w2 : World} (h : Below B w w2) (e : ∀ k, k < B → S2 k = S k) : Below B (HdS S w) (HdS S2 w2) :=
  ⟨h.os, h.tape, h.output, by rw [HdS.size, HdS.size]; exact h.size, fun k hk => by rw [HdS.block, HdS.block, h.block k hk, e k hk]⟩
/-- a row of the call's own, apart from what is hidden -/
theorem own_hdS {S : Nat → Bool} {u : World} {b : Nat} {E : TypeId} {C n : Nat} {v : Value} {xs : List Value} (h : u.ownsRow b E C v n xs) (hne : ∀ g, v.ownBlock = some g → S g = false) : (HdS S u).ownsRow b E C v n xs :=
  own_kept h fun g hg => HdS.other _ (hne g hg)
theorem Sl.hds {S : Nat → Bool} {u : World} {C n : Nat} {g : Nat → Nat → Value} {v : Value} (h : Sl C g n v (HdS S u)) : Sl C g n v u := by
  obtain ⟨a, c, e, h1, h2, h3⟩ := h
  refine ⟨a, c, e, h1, h2, fun h0 => ?_⟩
  obtain ⟨b, o, e2, h4, h5⟩ := h3 h0
  exact ⟨b, o, e2, by rw [HdS.size] at h4; exact h4, fun i hi j hj => HdS.cell (h5 i hi j hj)⟩
theorem MdlAt.hds {S : Nat → Bool} {u : World} {m : Mdl} {vd vp vl vi : Value} (h : MdlAt m vd vp vl vi (HdS S u)) : MdlAt m vd vp vl vi u := by
  obtain ⟨g, p1, p2⟩ := h.p
  obtain ⟨g2, l1, l2⟩ := h.l
  exact ⟨h.d.hds, ⟨g, p1.hds, fun i hi => (p2 i hi).hds⟩, ⟨g2, l1.hds, fun i hi => (l2 i hi).hds⟩, h.i.hds⟩

/-- all but the blocks of S is as it was -/
def KpS (S : Nat → Bool) (w w2 : World) : Prop := Below w.heap.size (HdS S w) (HdS S w2)
theorem KpS.refl (S : Nat → Bool) (w : World) : KpS S w w := Below.refl _ _
theorem KpS.size {S : Nat → Bool} {w w2 : World} (h : KpS S w w2) : w.heap.size ≤ w2.heap.size := by have := Below.size h; rwa [HdS.size, HdS.size] at this
theorem KpS.trans {S : Nat → Bool} {a b c : World} (h : KpS S a b) (k : KpS S b c) : KpS S a c := Below.trans h (Below.mono k h.size)
theorem KpS.of {S : Nat → Bool} {a b : World} (h : Below a.heap.size a b) : KpS S a b := HdS.below h
theorem KpS.on {S : Nat → Bool} {a b c : World} (h : KpS S a b) (k : Below b.heap.size b c) : KpS S a c := h.trans (KpS.of k)
theorem KpS.low {S : Nat → Bool} {a b c : World} (h : KpS S a b) (k : Below a.heap.size b c) : KpS S a c := Below.trans h (HdS.below k)
theorem KpS.hd {S : Nat → Bool} {u u2 : World} (k : KpS S u u2) : Below (HdS S u).heap.size (HdS S u) (HdS S u2) := by rw [HdS.size]; exact k
theorem KpS.blk {S : Nat → Bool} {k : Nat} {a b : World} (h : KpS S a b) (hk : k < a.heap.size) (hne : S k = false) : b.heap[k]? = a.heap[k]? := by
  have := Below.block h k hk
  rwa [HdS.other _ hne, HdS.other _ hne] at this
theorem KpS.mono {S T : Nat → Bool} {a b : World} (h : KpS S a b) (e : ∀ k, S k = true → T k = true) : KpS T a b := by
  have k : Below a.heap.size (HdS S a) (HdS S b) := h
  refine ⟨k.os, k.tape, k.output, by rw [HdS.size, HdS.size]; exact h.size, fun i hi => ?_⟩
  cases c : T i with
  | true => exact HdS.hid c hi (Nat.lt_of_lt_of_le hi h.size)
  | false =>
    rw [HdS.other _ c, HdS.other _ c]
    refine h.blk hi ?_
    cases c2 : S i with
    | false => rfl
    | true => rw [e i c2] at c; cases c
theorem KpS.bot {S : Nat → Bool} {B : Nat} {a b : World} (h : KpS S a b) (hB : B ≤ a.heap.size) (ht : ∀ k, k < B → S k = false) : Below B a b := by
  have k : Below a.heap.size (HdS S a) (HdS S b) := h
  exact ⟨k.os, k.tape, k.output, h.size, fun i hi => h.blk (by omega) (ht i hi)⟩
theorem KpS.grown {S : Nat → Bool} {b : Nat} {w w2 : World} (h : w.grownBy w2 (some b)) (hb : S b = true) : KpS S w w2 := by
  refine ⟨h.os, h.tape, h.output, by rw [HdS.size, HdS.size]; exact h.size, fun k hk => ?_⟩
  by_cases e : k = b
  · subst e; exact HdS.hid hb hk (Nat.lt_of_lt_of_le hk h.size)
  · rw [HdS.block, HdS.block, h.block k hk (fun e2 => e (by injection e2))]
theorem KpS.set {S : Nat → Bool} {b : Nat} (hb : S b = true) (o : Nat) (v : Value) (w : World) : KpS S w (w.setCell ⟨b, o, none⟩ v) := by
  refine ⟨rfl, rfl, rfl, by rw [HdS.size, HdS.size, World.size_setCell]; exact Nat.le_refl _, fun k hk => ?_⟩
  by_cases e : k = b
  · subst e; exact HdS.hid hb hk (by rw [World.size_setCell]; exact hk)
  · rw [HdS.block, HdS.block, Below.heap_setCell _ _ _ _ e]
theorem KpS.sets {S : Nat → Bool} {b : Nat} (hb : S b = true) : ∀ (l : List Value) (o : Nat) (w : World), KpS S w (w.setCells b o l)
  | [], _, w => KpS.refl S w
  | v :: l, o, w => (KpS.set hb o v w).trans (KpS.sets hb l (o + 1) _)

end Go.Proofs.Ytdmlmjmdpmmcgaa
