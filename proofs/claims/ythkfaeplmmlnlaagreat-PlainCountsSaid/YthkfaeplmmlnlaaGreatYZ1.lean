/- The mathematics of layer 7 (vm): a machine of eight registers, its words, what it sends, its rolls; one instruction, and a whole run. No Go, no program. Small lemmas that the frames share: a slice of integers that came in, opened; structs of five and six fields by value. Small lemmas that every layer's walks share: Below, bounds of numbers, 64 bits. Models in memory: rows of cells, slices of them, and what stays when new memory is made. The cells of rows, as a list. Rows that a call made, each in a block of its own: what stays of them when memory is written elsewhere. The document's machine in memory: registers in a block of their own, words, what was sent, and the struct that holds them. -/
import Derived.WalkKit
import Derived.ProofKit
import Derived.OpenShut
import Derived.ShutString
import Derived.ChangeOld
import Derived.Below
import Derived.Lib.SmallJoins
import Derived.Deep.Slices
import Derived.WalkSpells
import Derived.WalkLawsBesides
import Derived.Lib.Hide
import Derived.WalkSmall
import Derived.Deep.RegionHeld3
import Derived.BigQuiet
import Derived.Deep.QuietTactic
import Derived.Laws.OwnMore
import Derived.Test.YthkfaeplmmlnlaaGreatYZ0
import Derived.Test.YthkfaeplmmlnlaaGreatRows
namespace Go.Proofs.YthkfaeplmmlnlaaGreat
open Go.RowKit
set_option linter.unusedVariables false

/-- a number of 64 bits -/
def r64v (n : Int) : Prop := -9223372036854775808 ≤ n ∧ n ≤ 9223372036854775807
/-- what is sent -/
structure Snt where
  dst : Int
  dl : Int
  pay : Int
/-- a machine: registers, words, what was sent, the dice' count, the place, the steps, how it went wrong -/
structure Mch where
  g : Nat → Int
  nw : Nat
  w : Nat → Int
  ns : Nat
  sn : Nat → Snt
  dice : Int
  pc : Nat
  n : Nat
  f : Int
/-- what a run begins with -/
structure Inp where
  nw : Nat
  w : Nat → Int
  pay : Int
  me : Int
  lps : Int
  seed : Int
  dice : Int

def upd (g : Nat → Int) (i : Nat) (v : Int) : Nat → Int := fun k => if k = i then v else g k
/-- a quotient, cut towards 0, and what is left -/
def quotQ (b c : Int) : Int := wrap64 (b.tdiv c)
def quotR (b c : Int) : Int := wrap64 (b.tmod c)
theorem wrap64_mod (x : Int) : wrap64 x % 18446744073709551616 = x % 18446744073709551616 := by unfold wrap64; omega
theorem wrap64_congr {x y : Int} (h : x % 18446744073709551616 = y % 18446744073709551616) : wrap64 x = wrap64 y := by unfold wrap64; omega
theorem quotR_eq (b c : Int) : wrap64 (b - wrap64 (wrap64 (b.tdiv c) * c)) = quotR b c := by
  refine wrap64_congr ?_
  have e : b.tmod c = b - b.tdiv c * c := by rw [Int.tmod_def, Int.mul_comm]
  rw [e, Int.sub_emod, wrap64_mod, Int.mul_emod, wrap64_mod, ← Int.mul_emod, ← Int.sub_emod]
theorem quotQ_neg (b : Int) : quotQ b (-1) = wrap64 (-b) := by unfold quotQ; simp
theorem quotR_neg (b : Int) : quotR b (-1) = 0 := by
  have : b.tmod (-1) = 0 := by rw [Int.tmod_def]; simp
  unfold quotR
  rw [this]; decide +kernel
/-- what computes -/
def twoV (op b c : Int) : Int :=
  if op = 3 then wrap64 (b + c) else if op = 4 then wrap64 (b - c) else if op = 5 then wrap64 (b * c)
  else if op = 6 then quotQ b c else if op = 7 then quotR b c else if b < c then 1 else 0
def twoF (op c : Int) : Int := if (op = 6 ∨ op = 7) ∧ c = 0 then 2 else 0
/-- how an instruction goes wrong (0: it does not) -/
def oneF (x : I4) (lps : Int) (r : Mch) : Int :=
  if x.op = 11 then (if r.g x.b.toNat < 1 then 4 else 0)
  else if x.op = 12 then (if r.g x.a.toNat < 0 ∨ lps ≤ r.g x.a.toNat then 6 else if 4 ≤ r.ns then 5 else 0)
  else if x.op = 13 then (if r.g x.b.toNat < 0 ∨ (r.nw : Int) ≤ r.g x.b.toNat then 3 else 0)
  else if x.op = 14 then (if r.g x.a.toNat < 0 ∨ (r.nw : Int) ≤ r.g x.a.toNat then 3 else 0)
  else if x.op = 6 ∨ x.op = 7 then (if r.g x.c.toNat = 0 then 2 else 0)
  else 0
/-- what an instruction does, if it does not go wrong -/
def oneR (x : I4) (seed me : Int) (r : Mch) : Mch :=
  if x.op = 1 then { r with g := upd r.g x.a.toNat x.b }
  else if x.op = 2 then { r with g := upd r.g x.a.toNat (r.g x.b.toNat) }
  else if x.op = 9 then { r with pc := x.a.toNat }
  else if x.op = 10 then (if r.g x.a.toNat = 0 then { r with pc := x.b.toNat } else r)
  else if x.op = 11 then { r with g := upd r.g x.a.toNat (belowN (rollN seed me r.dice) (r.g x.b.toNat)), dice := wrap64 (r.dice + 1) }
  else if x.op = 12 then { r with ns := r.ns + 1, sn := fun i => if i = r.ns then ⟨r.g x.a.toNat, r.g x.b.toNat, r.g x.c.toNat⟩ else r.sn i }
  else if x.op = 13 then { r with g := upd r.g x.a.toNat (r.w (r.g x.b.toNat).toNat) }
  else if x.op = 14 then { r with w := upd r.w (r.g x.a.toNat).toNat (r.g x.b.toNat) }
  else { r with g := upd r.g x.a.toNat (twoV x.op (r.g x.b.toNat) (r.g x.c.toNat)) }
/-- a run, from a machine on, of a program of pl instructions; k steps are left -/
def runM (pr : Nat → I4) (pl : Nat) (lps seed me : Int) : Nat → Mch → Mch
  | 0, r => if pl ≤ r.pc then r else { r with f := 1 }
  | k + 1, r =>
    if pl ≤ r.pc then r
    else
      let r1 : Mch := { r with n := r.n + 1, pc := r.pc + 1 }
      if (pr r.pc).op = 0 then r1
      else if oneF (pr r.pc) lps r1 = 0 then runM pr pl lps seed me k (oneR (pr r.pc) seed me r1)
      else { r1 with f := oneF (pr r.pc) lps r1 }
def beginM (i : Inp) : Mch := ⟨fun k => if k = 0 then i.pay else if k = 1 then i.me else if k = 2 then i.lps else if k = 3 then (i.nw : Int) else 0, i.nw, i.w, 0, fun _ => ⟨0, 0, 0⟩, i.dice, 0, 0, 0⟩
/-- the whole run -/
def wholeM (pr : Nat → I4) (pl : Nat) (i : Inp) : Mch := runM pr pl i.lps i.seed i.me 120 (beginM i)
/-- may it be run? -/
def mayN (pr : Nat → I4) (pl : Nat) (i : Inp) : Int :=
  if (1 ≤ pl ∧ pl ≤ 48) ∧ allN (fun k => insB (pr k) pl) pl = true then (if 8 < i.nw then 2 else 0) else 15

/-- what stays in a run -/
structure Fit (pl : Nat) (nw0 : Nat) (r : Mch) : Prop where
  pc : r.pc ≤ pl
  nw : r.nw = nw0
  ns : r.ns ≤ 4
  f : 0 ≤ r.f ∧ r.f ≤ 6
theorem oneF_bd (x : I4) (lps : Int) (r : Mch) : 0 ≤ oneF x lps r ∧ oneF x lps r ≤ 6 := by
  unfold oneF
  repeat' split
  all_goals omega
theorem plc_bd {n len : Int} (h : plcB n len = true) : 0 ≤ n ∧ n ≤ len := by
  unfold plcB at h
  simpa using h
theorem reg_bd {n : Int} (h : regB n = true) : 0 ≤ n ∧ n ≤ 7 := by
  unfold regB at h
  simpa using h

end Go.Proofs.YthkfaeplmmlnlaaGreat
namespace Go.Proofs.YthkfaeplmmlnlaaGreat
open Go.ChangeShapes Go.WideShapes Go.ChangeAt Go.RowKit Go.Joins

/-- a slice of integers that came in: nil, or a row of 'cap' cells, the numbers 'zs', of which the first 'len' are its elements -/
def IsRow (k : IntKind) (w : World) (a : Option Addr) (len cap : Nat) (zs : List Int) : Prop :=
  (a = none ∧ len = 0 ∧ cap = 0 ∧ zs = []) ∨
  ∃ x, a = some x ∧ len ≤ cap ∧ cap ≤ maxLen ∧ zs.length = cap ∧ (∀ i, i < zs.length → w.cell? (x.add i) = some (.int k (zs.getD i 0))) ∧ ∀ n ∈ zs, (Lit.int k n).wf = true

theorem list1 {α : Type} {l : List α} (h : l.length = 1) : ∃ c0, l = [c0] := by
  match l, h with
  | [c0], _ => exact ⟨c0, rfl⟩
theorem list2 {α : Type} {l : List α} (h : l.length = 2) : ∃ c0 c1, l = [c0, c1] := by
  match l, h with
  | [c0, c1], _ => exact ⟨c0, c1, rfl⟩
theorem list3 {α : Type} {l : List α} (h : l.length = 3) : ∃ c0 c1 c2, l = [c0, c1, c2] := by
  match l, h with
  | [c0, c1, c2], _ => exact ⟨c0, c1, c2, rfl⟩
theorem list4 {α : Type} {l : List α} (h : l.length = 4) : ∃ c0 c1 c2 c3, l = [c0, c1, c2, c3] := by
  match l, h with
  | [c0, c1, c2, c3], _ => exact ⟨c0, c1, c2, c3, rfl⟩
theorem list5 {α : Type} {l : List α} (h : l.length = 5) : ∃ c0 c1 c2 c3 c4, l = [c0, c1, c2, c3, c4] := by
  match l, h with
  | [c0, c1, c2, c3, c4], _ => exact ⟨c0, c1, c2, c3, c4, rfl⟩
theorem list6 {α : Type} {l : List α} (h : l.length = 6) : ∃ c0 c1 c2 c3 c4 c5, l = [c0, c1, c2, c3, c4, c5] := by
  match l, h with
  | [c0, c1, c2, c3, c4, c5], _ => exact ⟨c0, c1, c2, c3, c4, c5, rfl⟩
theorem list7 {α : Type} {l : List α} (h : l.length = 7) : ∃ c0 c1 c2 c3 c4 c5 c6, l = [c0, c1, c2, c3, c4, c5, c6] := by
  match l, h with
  | [c0, c1, c2, c3, c4, c5, c6], _ => exact ⟨c0, c1, c2, c3, c4, c5, c6, rfl⟩
theorem list8 {α : Type} {l : List α} (h : l.length = 8) : ∃ c0 c1 c2 c3 c4 c5 c6 c7, l = [c0, c1, c2, c3, c4, c5, c6, c7] := by
  match l, h with
  | [c0, c1, c2, c3, c4, c5, c6, c7], _ => exact ⟨c0, c1, c2, c3, c4, c5, c6, c7, rfl⟩
theorem list9 {α : Type} {l : List α} (h : l.length = 9) : ∃ c0 c1 c2 c3 c4 c5 c6 c7 c8, l = [c0, c1, c2, c3, c4, c5, c6, c7, c8] := by
  match l, h with
  | [c0, c1, c2, c3, c4, c5, c6, c7, c8], _ => exact ⟨c0, c1, c2, c3, c4, c5, c6, c7, c8, rfl⟩
theorem list10 {α : Type} {l : List α} (h : l.length = 10) : ∃ c0 c1 c2 c3 c4 c5 c6 c7 c8 c9, l = [c0, c1, c2, c3, c4, c5, c6, c7, c8, c9] := by
  match l, h with
  | [c0, c1, c2, c3, c4, c5, c6, c7, c8, c9], _ => exact ⟨c0, c1, c2, c3, c4, c5, c6, c7, c8, c9, rfl⟩
theorem list11 {α : Type} {l : List α} (h : l.length = 11) : ∃ c0 c1 c2 c3 c4 c5 c6 c7 c8 c9 c10, l = [c0, c1, c2, c3, c4, c5, c6, c7, c8, c9, c10] := by
  match l, h with
  | [c0, c1, c2, c3, c4, c5, c6, c7, c8, c9, c10], _ => exact ⟨c0, c1, c2, c3, c4, c5, c6, c7, c8, c9, c10, rfl⟩
theorem list12 {α : Type} {l : List α} (h : l.length = 12) : ∃ c0 c1 c2 c3 c4 c5 c6 c7 c8 c9 c10 c11, l = [c0, c1, c2, c3, c4, c5, c6, c7, c8, c9, c10, c11] := by
  match l, h with
  | [c0, c1, c2, c3, c4, c5, c6, c7, c8, c9, c10, c11], _ => exact ⟨c0, c1, c2, c3, c4, c5, c6, c7, c8, c9, c10, c11, rfl⟩

section
variable {H : Type} {enc : TypeId × Value → H} {P : Program} {w : World}
theorem isRow_of {base fuel : Nat} {t e : TypeId} {k : IntKind} {a : Option Addr} {len cap : Nat} {x : DataW H × List MemPlace} (ht : P.underlying t = some (.slice e)) (he : P.underlying e = some (.int k)) (hc : P.cellsOf e = 1)
    (hf : DataW.trod enc P w base (fun _ => true) true fuel t [.slice a len cap] = some x) : ∃ zs, IsRow k w a len cap zs := by
  rcases open_ints ht he hc hf with ⟨hcs, _⟩ | ⟨y, l, c, zs, hcs, _, hl, hm, hz, _, hcell, hwz⟩
  · simp at hcs
    obtain ⟨rfl, rfl, rfl⟩ := hcs
    exact ⟨[], .inl ⟨rfl, rfl, rfl, rfl⟩⟩
  · simp at hcs
    obtain ⟨rfl, rfl, rfl⟩ := hcs
    exact ⟨zs, .inr ⟨_, rfl, hl, hm, by simpa using hz, hcell, hwz⟩⟩

theorem isRow_cell {base fuel : Nat} {t e : TypeId} {k : IntKind} {c : Value} {x : DataW H × List MemPlace} (ht : P.underlying t = some (.slice e)) (he : P.underlying e = some (.int k)) (hc : P.cellsOf e = 1)
    (hf : DataW.trod enc P w base (fun _ => true) true fuel t [c] = some x) : ∃ a len cap zs, c = .slice a len cap ∧ IsRow k w a len cap zs := by
  rcases open_ints ht he hc hf with ⟨hcs, _⟩ | ⟨y, l, cp, zs, hcs, _, hl, hm, hz, _, hcell, hwz⟩
  · simp at hcs
    exact ⟨none, 0, 0, [], hcs, .inl ⟨rfl, rfl, rfl, rfl⟩⟩
  · simp at hcs
    exact ⟨_, l, cp, zs, hcs, .inr ⟨_, rfl, hl, hm, by simpa using hz, hcell, hwz⟩⟩

/-- a float that came in, in a cell -/
theorem trod_float_cell {base fuel : Nat} {spare : Nat → Bool} {held : Bool} {t : TypeId} {k : FloatKind} {cs : List Value} {x : DataW H × List MemPlace} (ht : P.underlying t = some (.float k)) (h : DataW.trod enc P w base spare held fuel t cs = some x) : ∃ b, cs = [.float k b] ∧ (Lit.float k b).wf = true := by
  cases fuel with
  | zero => simp [DataW.trod] at h
  | succ n =>
    unfold DataW.trod at h
    rw [ht] at h
    split at h <;> simp_all
/-- a float that came in, as an argument -/
theorem open_float_val {r : Reach} {b0 base : Nat} {spare : Nat → Bool} {held : Bool} {t : TypeId} {k : FloatKind} {v : Value} {d : DataW H} {p : List MemPlace} (ht : P.underlying t = some (.float k)) (hv : Value.okWide P w r b0 t v) (h : DataW.Trod enc P w base spare held t v d p) : ∃ b, v = .float k b ∧ (Lit.float k b).wf = true := by
  obtain ⟨fuel, hf⟩ := h
  obtain ⟨b, hb, hw⟩ := trod_float_cell ht hf
  simp only [Value.okWide, ht, Cell.okWide] at hv
  refine ⟨b, ?_, hw⟩
  cases v <;> simp_all [Value.cells, Cell.ok]

/-- the fields of a struct that lies in the cells cs: field i, of type T, at cell o, k cells wide, reads as data -/
theorem struct_cells {base fuel : Nat} {spare : Nat → Bool} {held : Bool} {t : TypeId} {fs : Array Field} {cs : List Value} {x : DataW H × List MemPlace} (hs : P.underlying t = some (.struct fs)) (h : DataW.trod enc P w base spare held fuel t cs = some x) :
    ∃ n, ∀ (i : Nat) (T : TypeId) (o k : Nat), fs[i]?.map (fun f => (f.type, f.offset)) = some (T, o) → P.cellsOf T = k → ∃ y, DataW.trod enc P w base spare held n T ((cs.drop o).take k) = some y := by
  obtain ⟨xs, n, _, _, _, hlen, hg⟩ := DataW.trod_struct hs h
  refine ⟨n, fun i T o k hi hk => ?_⟩
  obtain ⟨f, hf, e⟩ := Option.map_eq_some_iff.1 hi
  simp only [Prod.mk.injEq] at e
  have hlt : i < xs.length := by have := (Array.getElem?_eq_some_iff.1 hf).1; omega
  have := hg i f hf
  rw [e.1, e.2, hk, List.getElem?_eq_getElem hlt] at this
  exact ⟨_, this⟩

/-- a struct that came in by value: its cells, and its fields' readings -/
theorem open_struct {r : Reach} {b0 base : Nat} {spare : Nat → Bool} {held : Bool} {t : TypeId} {fs : Array Field} {v : Value} {d : DataW H} {p : List MemPlace} (hs : P.underlying t = some (.struct fs)) (hv : Value.okWide P w r b0 t v) (h : DataW.Trod enc P w base spare held t v d p) :
    ∃ (cs : List Value) (n : Nat), v = .agg cs.toArray ∧ cs.length = P.cellsOf t ∧
      ∀ (i : Nat) (T : TypeId) (o k : Nat), fs[i]?.map (fun f => (f.type, f.offset)) = some (T, o) → P.cellsOf T = k → ∃ y, DataW.trod enc P w base spare held n T ((cs.drop o).take k) = some y := by
  obtain ⟨cs, rfl, hsz⟩ := okWide_struct hs hv
  obtain ⟨fuel, hf⟩ := h
  obtain ⟨n, hn⟩ := struct_cells hs hf
  exact ⟨cs.toList, n, by simp, by simpa using hsz, fun i T o k hi hk => by simpa [Value.cells] using hn i T o k hi hk⟩

/-- a slice that came in: nil, or elements of C cells each, of which 'ok' tells what they are -/
def CellRows (C : Nat) (ok : List Value → Prop) (w : World) (a : Option Addr) (len cap : Nat) : Prop :=
  (a = none ∧ len = 0 ∧ cap = 0) ∨
  ∃ x, a = some x ∧ len ≤ cap ∧ cap ≤ maxLen ∧ ∀ i, i < len → ∃ cs, cs.length = C ∧ ok cs ∧ ∀ j, j < C → w.cell? (x.add (i * C + j)) = cs[j]?

theorem cellRows_of {base fuel C : Nat} {t e : TypeId} {a : Option Addr} {len cap : Nat} {x : DataW H × List MemPlace} {ok : List Value → Prop} (ht : P.underlying t = some (.slice e)) (hc : P.cellsOf e = C)
    (hf : DataW.trod enc P w base (fun _ => true) true fuel t [.slice a len cap] = some x)
    (hok : ∀ (cs : List Value) (m : Nat) (y : DataW H × List MemPlace), cs.length = C → DataW.trod enc P w base (fun _ => true) true m e cs = some y → ok cs) : CellRows C ok w a len cap := by
  rcases Go.Deep.open_slice ht hf with ⟨hcs, _⟩ | ⟨y, l, cp, m, n, D, Pl, hcs, _, hl, hm, hmm, _, hi⟩
  · simp at hcs
    exact .inl hcs
  · simp at hcs
    obtain ⟨rfl, rfl, rfl⟩ := hcs
    refine .inr ⟨y, rfl, hl, hm, fun i hlt => ?_⟩
    obtain ⟨cs, h1, h2⟩ := hi i (by rw [hmm]; simp; omega)
    rw [hc] at h1
    obtain ⟨_, h3, h4⟩ := World.cells?_some h1
    refine ⟨cs, h3, hok cs n _ h3 h2, fun j hj => ?_⟩
    rw [← Go.Deep.add_add]
    exact h4 j hj
end

end Go.Proofs.YthkfaeplmmlnlaaGreat
namespace Go.Proofs.YthkfaeplmmlnlaaGreat
open Go.RowKit

theorem bthen {w b c : World} (h : Below w.heap.size w b) (k : Below b.heap.size b c) : Below w.heap.size w c := h.trans (k.mono h.size)
theorem balloc (w : World) (o : Obj) : Below w.heap.size w (w.alloc o) := (Below.refl _ _).alloc (Nat.le_refl _) o
theorem bdrewN {w b : World} (h : Below w.heap.size w b) (n : Nat) : Below w.heap.size w (b.drewN n) := below_drewN h n
theorem add_plain (b o i : Nat) : (⟨b, o, none⟩ : Addr).add i = ⟨b, o + i, none⟩ := by unfold Addr.add; split <;> simp_all

theorem u64_bd {n : Int} (h : (Lit.int .u64 n).wf = true) : 0 ≤ n ∧ n ≤ 18446744073709551615 := by
  simp [Lit.wf, IntKind.min, IntKind.max, IntKind.signed, IntKind.bits] at h; omega
theorem i64_bd {n : Int} (h : (Lit.int .i64 n).wf = true) : -9223372036854775808 ≤ n ∧ n ≤ 9223372036854775807 := by
  simp [Lit.wf, IntKind.min, IntKind.max, IntKind.signed, IntKind.bits] at h; omega

theorem bits_xor_u64 (x y : Nat) (hx : x < 2 ^ 64) (hy : y < 2 ^ 64) : bits .xor .u64 (x : Int) (y : Int) = ((x ^^^ y : Nat) : Int) := by
  have h := Nat.xor_lt_two_pow hx hy
  show IntKind.u64.wrap (((BitVec.ofInt 64 (x : Int) ^^^ BitVec.ofInt 64 (y : Int)).toNat : Nat) : Int) = _
  rw [BitVec.toNat_xor, BitVec.toNat_ofInt, BitVec.toNat_ofInt]
  have ex : ((x : Int) % ((2 ^ 64 : Nat) : Int)).toNat = x := by omega
  have ey : ((y : Int) % ((2 ^ 64 : Nat) : Int)).toNat = y := by omega
  rw [ex, ey]
  exact IntWalk.u64_in _ (by omega)
theorem bits_and_u64 (x y : Nat) (hx : x < 2 ^ 64) (hy : y < 2 ^ 64) : bits .and .u64 (x : Int) (y : Int) = ((x &&& y : Nat) : Int) := by
  have h := Nat.and_lt_two_pow x hy
  show IntKind.u64.wrap (((BitVec.ofInt 64 (x : Int) &&& BitVec.ofInt 64 (y : Int)).toNat : Nat) : Int) = _
  rw [BitVec.toNat_and, BitVec.toNat_ofInt, BitVec.toNat_ofInt]
  have ex : ((x : Int) % ((2 ^ 64 : Nat) : Int)).toNat = x := by omega
  have ey : ((y : Int) % ((2 ^ 64 : Nat) : Int)).toNat = y := by omega
  rw [ex, ey]
  exact IntWalk.u64_in _ (by omega)

end Go.Proofs.YthkfaeplmmlnlaaGreat
namespace Go.Proofs.YthkfaeplmmlnlaaGreat
open Go.RowKit
set_option linter.unusedVariables false

/-- rows of C cells in a block: cell j of row i is g i j -/
def At (C : Nat) (g : Nat → Nat → Value) (n b o : Nat) (w : World) : Prop :=
  b < w.heap.size ∧ ∀ i, i < n → ∀ j, j < C → w.cell? ⟨b, o + i * C + j, none⟩ = some (g i j)
theorem At.below {C : Nat} {g : Nat → Nat → Value} {n b o : Nat} {w w2 : World} (h : At C g n b o w) (k : Below w.heap.size w w2) : At C g n b o w2 :=
  ⟨Nat.lt_of_lt_of_le h.1 k.size, fun i hi j hj => by rw [k.cell (p := ⟨b, o + i * C + j, none⟩) h.1]; exact h.2 i hi j hj⟩
/-- a slice of rows -/
def Sl (C : Nat) (g : Nat → Nat → Value) (n : Nat) (v : Value) (w : World) : Prop :=
  ∃ ao cap, v = .slice ao n cap ∧ n ≤ cap ∧ cap ≤ 9223372036854775807 ∧ (0 < n → ∃ b o, ao = some ⟨b, o, none⟩ ∧ At C g n b o w)
theorem Sl.below {C : Nat} {g : Nat → Nat → Value} {n : Nat} {v : Value} {w w2 : World} (h : Sl C g n v w) (k : Below w.heap.size w w2) : Sl C g n v w2 := by
  obtain ⟨ao, cap, e, h1, h2, h3⟩ := h
  exact ⟨ao, cap, e, h1, h2, fun hn => by obtain ⟨b, o, e2, ha⟩ := h3 hn; exact ⟨b, o, e2, ha.below k⟩⟩
theorem Sl.congr {C : Nat} {g g2 : Nat → Nat → Value} {n : Nat} {v : Value} {w : World} (h : Sl C g n v w) (e : ∀ i, i < n → ∀ j, j < C → g i j = g2 i j) : Sl C g2 n v w := by
  obtain ⟨ao, cap, ev, h1, h2, h3⟩ := h
  exact ⟨ao, cap, ev, h1, h2, fun hn => by
    obtain ⟨b, o, e2, ha⟩ := h3 hn
    exact ⟨b, o, e2, ha.1, fun i hi j hj => by rw [← e i hi j hj]; exact ha.2 i hi j hj⟩⟩

/-- the cells of floats, numbers, instructions, events -/
def gF (d : Nat → Nat) : Nat → Nat → Value := fun i _ => .float .f64 (d i)
def gW (d : Nat → Int) : Nat → Nat → Value := fun i _ => .int .i64 (d i)
def gI (f : Nat → I4) : Nat → Nat → Value := fun i j => match j with
  | 0 => .int .i64 (f i).op
  | 1 => .int .i64 (f i).a
  | 2 => .int .i64 (f i).b
  | _ => .int .i64 (f i).c
def gE (f : Nat → Ev) : Nat → Nat → Value := fun i j => match j with
  | 0 => .float .f64 (f i).t
  | 1 => .int .i64 (f i).dst
  | _ => .int .i64 (f i).pay
def gL (p : Nat → Int) (v : Nat → Value) : Nat → Nat → Value := fun i j => match j with
  | 0 => .int .i64 (p i)
  | _ => v i
def gV (v : Nat → Value) : Nat → Nat → Value := fun i _ => v i

/-- programs -/
def Pgs (n : Nat) (pl : Nat → Nat) (pr : Nat → Nat → I4) (v : Value) (w : World) : Prop :=
  ∃ g, Sl 1 (gV g) n v w ∧ ∀ i, i < n → Sl 4 (gI (pr i)) (pl i) (g i) w
/-- processes -/
def Lps (n : Nat) (lp : Nat → Int) (wl : Nat → Nat) (wd : Nat → Nat → Int) (v : Value) (w : World) : Prop :=
  ∃ g, Sl 2 (gL lp g) n v w ∧ ∀ i, i < n → Sl 1 (gW (wd i)) (wl i) (g i) w
theorem Pgs.below {n : Nat} {pl : Nat → Nat} {pr : Nat → Nat → I4} {v : Value} {w w2 : World} (h : Pgs n pl pr v w) (k : Below w.heap.size w w2) : Pgs n pl pr v w2 := by
  obtain ⟨g, h1, h2⟩ := h
  exact ⟨g, h1.below k, fun i hi => (h2 i hi).below k⟩
theorem Lps.below {n : Nat} {lp : Nat → Int} {wl : Nat → Nat} {wd : Nat → Nat → Int} {v : Value} {w w2 : World} (h : Lps n lp wl wd v w) (k : Below w.heap.size w w2) : Lps n lp wl wd v w2 := by
  obtain ⟨g, h1, h2⟩ := h
  exact ⟨g, h1.below k, fun i hi => (h2 i hi).below k⟩

/-- the lists of a model: delays, programs, processes, events -/
structure MdlAt (m : Mdl) (vd vp vl vi : Value) (w : World) : Prop where
  d : Sl 1 (gF m.d) m.nd vd w
  p : Pgs m.np m.pl m.pr vp w
  l : Lps m.nl m.lp m.wl m.wd vl w
  i : Sl 3 (gE m.ev) m.ni vi w
theorem MdlAt.below {m : Mdl} {vd vp vl vi : Value} {w w2 : World} (h : MdlAt m vd vp vl vi w) (k : Below w.heap.size w w2) : MdlAt m vd vp vl vi w2 :=
  ⟨h.d.below k, h.p.below k, h.l.below k, h.i.below k⟩

/-- a model as a value -/
def mval (m : Mdl) (vd vp vl vi : Value) : Value := .agg #[.int .i64 m.seed, .float .f64 m.fin, vd, vp, vl, vi]

/-- a number in a box of its own -/
def BoxI (n : Int) (q : Nat) (w : World) : Prop := w.cell? ⟨q, 0, none⟩ = some (.int .i64 n) ∧ q < w.heap.size
theorem BoxI.below {n : Int} {q : Nat} {w w2 : World} (h : BoxI n q w) (k : Below w.heap.size w w2) : BoxI n q w2 :=
  ⟨by rw [k.cell (p := ⟨q, 0, none⟩) h.2]; exact h.1, Nat.lt_of_lt_of_le h.2 k.size⟩

/-- a row of four, of six cells in a block -/
def Box4 (x : I4) (b o : Nat) (w : World) : Prop := b < w.heap.size ∧ w.cell? ⟨b, o, none⟩ = some (.int .i64 x.op) ∧ w.cell? ⟨b, o + 1, none⟩ = some (.int .i64 x.a) ∧ w.cell? ⟨b, o + 2, none⟩ = some (.int .i64 x.b) ∧ w.cell? ⟨b, o + 3, none⟩ = some (.int .i64 x.c)
theorem Box4.below {x : I4} {b o : Nat} {w w2 : World} (h : Box4 x b o w) (k : Below w.heap.size w w2) : Box4 x b o w2 := by
  obtain ⟨h0, h1, h2, h3, h4⟩ := h
  have e : ∀ o : Nat, w2.cell? ⟨b, o, none⟩ = w.cell? ⟨b, o, none⟩ := fun o => k.cell h0
  exact ⟨Nat.lt_of_lt_of_le h0 k.size, by rw [e]; exact h1, by rw [e]; exact h2, by rw [e]; exact h3, by rw [e]; exact h4⟩
def Box6 (c0 c1 c2 c3 c4 c5 : Value) (b : Nat) (w : World) : Prop := b < w.heap.size ∧ w.cell? ⟨b, 0, none⟩ = some c0 ∧ w.cell? ⟨b, 1, none⟩ = some c1 ∧ w.cell? ⟨b, 2, none⟩ = some c2 ∧ w.cell? ⟨b, 3, none⟩ = some c3 ∧ w.cell? ⟨b, 4, none⟩ = some c4 ∧ w.cell? ⟨b, 5, none⟩ = some c5
theorem Box6.below {c0 c1 c2 c3 c4 c5 : Value} {b : Nat} {w w2 : World} (h : Box6 c0 c1 c2 c3 c4 c5 b w) (k : Below w.heap.size w w2) : Box6 c0 c1 c2 c3 c4 c5 b w2 := by
  obtain ⟨h0, h1, h2, h3, h4, h5, h6⟩ := h
  have e : ∀ o : Nat, w2.cell? ⟨b, o, none⟩ = w.cell? ⟨b, o, none⟩ := fun o => k.cell h0
  exact ⟨Nat.lt_of_lt_of_le h0 k.size, by rw [e]; exact h1, by rw [e]; exact h2, by rw [e]; exact h3, by rw [e]; exact h4, by rw [e]; exact h5, by rw [e]; exact h6⟩
theorem Box6.new (c0 c1 c2 c3 c4 c5 : Value) (t : TypeId) (w : World) : Box6 c0 c1 c2 c3 c4 c5 w.heap.size (w.alloc (.cells #[c0, c1, c2, c3, c4, c5] t)) := by
  have hh := heap_alloc_new w (.cells #[c0, c1, c2, c3, c4, c5] t)
  refine ⟨lt_of_block hh, ?_, ?_, ?_, ?_, ?_, ?_⟩ <;> (rw [Lib.cell_of_heap hh]; rfl)
theorem Box4.new (x : I4) (t : TypeId) (w : World) : Box4 x w.heap.size 0 (w.alloc (.cells #[.int .i64 x.op, .int .i64 x.a, .int .i64 x.b, .int .i64 x.c] t)) := by
  have hh := heap_alloc_new w (.cells #[.int .i64 x.op, .int .i64 x.a, .int .i64 x.b, .int .i64 x.c] t)
  refine ⟨lt_of_block hh, ?_, ?_, ?_, ?_⟩ <;> (rw [Lib.cell_of_heap hh]; rfl)
theorem At.box4 {f : Nat → I4} {n b o : Nat} {w : World} (h : At 4 (gI f) n b o w) (i : Nat) (hi : i < n) : Box4 (f i) b (o + i * 4) w :=
  ⟨h.1, h.2 i hi 0 (by omega), h.2 i hi 1 (by omega), h.2 i hi 2 (by omega), h.2 i hi 3 (by omega)⟩

theorem At.one {g : Nat → Nat → Value} {n b o : Nat} {w : World} (h : At 1 g n b o w) (i : Nat) (hi : i < n) : w.cell? ⟨b, o + i, none⟩ = some (g i 0) := by
  have := h.2 i hi 0 (by omega)
  simpa using this
theorem At.two {g : Nat → Nat → Value} {n b o : Nat} {w : World} (h : At 2 g n b o w) (i : Nat) (hi : i < n) : w.cell? ⟨b, o + i * 2, none⟩ = some (g i 0) ∧ w.cell? ⟨b, o + i * 2 + 1, none⟩ = some (g i 1) :=
  ⟨h.2 i hi 0 (by omega), h.2 i hi 1 (by omega)⟩
theorem At.three {g : Nat → Nat → Value} {n b o : Nat} {w : World} (h : At 3 g n b o w) (i : Nat) (hi : i < n) : w.cell? ⟨b, o + i * 3, none⟩ = some (g i 0) ∧ w.cell? ⟨b, o + i * 3 + 1, none⟩ = some (g i 1) ∧ w.cell? ⟨b, o + i * 3 + 2, none⟩ = some (g i 2) :=
  ⟨h.2 i hi 0 (by omega), h.2 i hi 1 (by omega), h.2 i hi 2 (by omega)⟩

theorem bdrew (w : World) : Below w.heap.size w w.drew := (Below.refl _ _).drew

/-- the worlds in which all that lay in W is as it was: a class for regions whose operations only read and whose callees make new memory alone -/
def Cls (W w2 : World) : Prop := Below W.heap.size W w2
theorem Cls.out {W w2 : World} (h : Cls W w2) : Below W.heap.size W w2 := h
theorem Cls.drew (W : World) : Cls W W.drew := bdrew W
theorem Cls.on {W w2 w3 : World} (h : Cls W w2) (k : Below w2.heap.size w2 w3) : Cls W w3 := bthen h.out k

end Go.Proofs.YthkfaeplmmlnlaaGreat
namespace Go.Proofs.YthkfaeplmmlnlaaGreat
open Go.RowKit
set_option linter.unusedVariables false

/-- the cells of n rows of C -/
def rowCells (C : Nat) (g : Nat → Nat → Value) (n : Nat) : List Value := (List.range (n * C)).map fun k => g (k / C) (k % C)
theorem rowCells_len (C : Nat) (g : Nat → Nat → Value) (n : Nat) : (rowCells C g n).length = n * C := by simp [rowCells]
theorem rowCells_at {C : Nat} (g : Nat → Nat → Value) {n i j : Nat} (hi : i < n) (hj : j < C) : (rowCells C g n)[i * C + j]? = some (g i j) := by
  have h : i * C + j < n * C := by
    have : (i + 1) * C ≤ n * C := Nat.mul_le_mul_right C hi
    rw [Nat.add_mul, Nat.one_mul] at this
    omega
  have e1 : (i * C + j) / C = i := by
    rw [Nat.mul_comm, Nat.mul_add_div (by omega), Nat.div_eq_of_lt hj]; omega
  have e2 : (i * C + j) % C = j := by
    rw [Nat.mul_comm, Nat.mul_add_mod]; exact Nat.mod_eq_of_lt hj
  simp [rowCells, h, e1, e2]
theorem rowCells_of {C : Nat} (hC : 0 < C) (g : Nat → Nat → Value) {n k : Nat} {v : Value} (h : (rowCells C g n)[k]? = some v) : k < n * C ∧ k / C < n ∧ k % C < C ∧ v = g (k / C) (k % C) := by
  have hk : k < n * C := by
    rcases Nat.lt_or_ge k (n * C) with h' | h'
    · exact h'
    · rw [List.getElem?_eq_none (by rw [rowCells_len]; exact h')] at h; cases h
  refine ⟨hk, (Nat.div_lt_iff_lt_mul hC).2 hk, Nat.mod_lt _ hC, ?_⟩
  simp [rowCells, hk] at h
  exact h.symm

end Go.Proofs.YthkfaeplmmlnlaaGreat
namespace Go.Proofs.YthkfaeplmmlnlaaGreat
open Go.RowKit
set_option linter.unusedVariables false

theorem cell_block {w : World} {a : Addr} {v : Value} (h : w.cell? a = some v) : ∃ c t f, w.heap[a.block]? = some (.cells c t f) := by
  unfold World.cell? at h
  split at h
  · exact ⟨_, _, _, by assumption⟩
  · cases h
theorem cell_lt {w : World} {a : Addr} {v : Value} (h : w.cell? a = some v) : a.block < w.heap.size := by
  obtain ⟨c, t, f, e⟩ := cell_block h
  exact lt_of_block e
theorem own_low {w : World} {b : Nat} {E : TypeId} {C n : Nat} {v : Value} {xs : List Value} (h : w.ownsRow b E C v n xs) : w.ownsRow 0 E C v n xs := by
  obtain ⟨h1, h2⟩ := h
  refine ⟨h1, ?_⟩
  rcases h2 with h2 | ⟨g, cap, cur, r1, r2, r3⟩
  · exact .inl h2
  · exact .inr ⟨g, cap, cur, r1, Nat.zero_le _, r3⟩
theorem own_kept {w w2 : World} {b : Nat} {E : TypeId} {C n : Nat} {v : Value} {xs : List Value} (h : w.ownsRow b E C v n xs) (k : ∀ g, v.ownBlock = some g → w2.heap[g]? = w.heap[g]?) : w2.ownsRow b E C v n xs := by
  obtain ⟨h1, h2⟩ := h
  refine ⟨h1, ?_⟩
  rcases h2 with h2 | ⟨g, cap, cur, rfl, r2, r3, r4⟩
  · exact .inl h2
  · exact .inr ⟨g, cap, cur, rfl, r2, by rw [k g rfl]; exact r3, r4⟩
theorem own_lt {w : World} {b : Nat} {E : TypeId} {C n : Nat} {v : Value} {xs : List Value} (h : w.ownsRow b E C v n xs) {g : Nat} (e : v.ownBlock = some g) : b ≤ g ∧ g < w.heap.size := h.lt g e
theorem own_below {u u2 : World} {b : Nat} {E : TypeId} {C n : Nat} {v : Value} {xs : List Value} (h : u.ownsRow b E C v n xs) (k : Below u.heap.size u u2) : u2.ownsRow b E C v n xs :=
  own_kept h fun g e => k.block g (own_lt h e).2
theorem own_apart {w : World} {b b2 : Nat} {E E2 : TypeId} {C C2 n n2 : Nat} {v v2 : Value} {xs xs2 : List Value} (h : w.ownsRow b E C v n xs) (k : w.ownsRow b2 E2 C2 v2 n2 xs2) (hE : E ≠ E2) {g : Nat} (e : v.ownBlock = some g) : v2.ownBlock ≠ some g := by
  intro e2
  rcases h.2 with ⟨rfl, _⟩ | ⟨g1, cap1, cur1, rfl, _, h3, _⟩
  · simp [Value.ownBlock] at e
  · rcases k.2 with ⟨rfl, _⟩ | ⟨g2, cap2, cur2, rfl, _, k3, _⟩
    · simp [Value.ownBlock] at e2
    · simp only [Value.ownBlock, Option.some.injEq] at e e2
      subst e
      subst e2
      rw [h3] at k3
      simp only [Option.some.injEq, Obj.cells.injEq] at k3
      exact hE k3.2.1
theorem rowCells_succ {C : Nat} (hC : 0 < C) (g : Nat → Nat → Value) (n : Nat) (l : List Value) (hl : l.length = C) (h : ∀ j, j < C → l[j]? = some (g n j)) : rowCells C g n ++ l = rowCells C g (n + 1) := by
  apply List.ext_getElem?
  intro k
  rcases Nat.lt_or_ge k (n * C) with hk | hk
  · rw [List.getElem?_append_left (by rw [rowCells_len]; exact hk)]
    have e : (n + 1) * C = n * C + C := by rw [Nat.add_mul, Nat.one_mul]
    simp [rowCells, hk, show k < (n + 1) * C by omega]
  · rw [List.getElem?_append_right (by rw [rowCells_len]; exact hk), rowCells_len]
    rcases Nat.lt_or_ge (k - n * C) C with h2 | h2
    · rw [h _ h2]
      have := rowCells_at g (n := n + 1) (i := n) (j := k - n * C) (by omega) h2
      rw [show n * C + (k - n * C) = k by omega] at this
      exact this.symm
    · rw [List.getElem?_eq_none (by omega), List.getElem?_eq_none (by rw [rowCells_len, Nat.add_mul, Nat.one_mul]; omega)]

theorem grown_keep {w w4 : World} {b C n q : Nat} {E t : TypeId} {v : Value} {xs : List Value} {c : Array Value} {f : Nat × Nat} (h : w.ownsRow b E C v n xs) (hg : w.grownBy w4 v.ownBlock) (hq : w.heap[q]? = some (.cells c t f)) (hne : t ≠ E) : w4.heap[q]? = some (.cells c t f) := by
  rw [hg.block q (lt_of_block hq) ?_]
  · exact hq
  · intro he
    rcases h.2 with ⟨rfl, _⟩ | ⟨g, cap, cur, rfl, _, r3, _⟩
    · simp [Value.ownBlock] at he
    · simp only [Value.ownBlock, Option.some.injEq] at he
      subst he
      rw [hq] at r3
      simp only [Option.some.injEq, Obj.cells.injEq] at r3
      exact hne r3.2.1

/-- a row that was made is a slice of rows -/
theorem own_sl {u : World} {b : Nat} {E : TypeId} {C : Nat} {v : Value} {n : Nat} {g : Nat → Nat → Value} (h : u.ownsRow b E C v n (rowCells C g n)) : Sl C g n v u := by
  rcases h.2 with ⟨rfl, rfl⟩ | ⟨b, cap, cur, rfl, _, h3, h4, h5, h6, h7⟩
  · exact ⟨none, 0, rfl, Nat.le_refl _, by omega, fun h => absurd h (Nat.lt_irrefl 0)⟩
  · refine ⟨_, cap, rfl, h4, by unfold maxLen at h5; omega, fun _ => ⟨b, 0, rfl, lt_of_block h3, fun i hi j hj => ?_⟩⟩
    have hk : i * C + j < n * C := by
      have : (i + 1) * C ≤ n * C := Nat.mul_le_mul_right C hi
      rw [Nat.add_mul, Nat.one_mul] at this
      omega
    rw [Lib.cell_of_heap h3, Nat.zero_add, ← Array.getElem?_toList]
    have e := rowCells_at g hi hj
    rw [← h7, List.getElem?_take, if_pos hk] at e
    exact e

end Go.Proofs.YthkfaeplmmlnlaaGreat
namespace Go.Proofs.YthkfaeplmmlnlaaGreat
open Go.RowKit
set_option linter.unusedVariables false
set_option maxRecDepth 100000

def regs (g : Nat → Int) : Array Value := #[.int .i64 (g 0), .int .i64 (g 1), .int .i64 (g 2), .int .i64 (g 3), .int .i64 (g 4), .int .i64 (g 5), .int .i64 (g 6), .int .i64 (g 7)]
theorem regs_at (g : Nat → Int) {i : Nat} (hi : i < 8) : (regs g)[i]? = some (.int .i64 (g i)) := by
  have : i = 0 ∨ i = 1 ∨ i = 2 ∨ i = 3 ∨ i = 4 ∨ i = 5 ∨ i = 6 ∨ i = 7 := by omega
  rcases this with rfl | rfl | rfl | rfl | rfl | rfl | rfl | rfl <;> rfl
theorem regs_set (g : Nat → Int) {i : Nat} (hi : i < 8) (v : Int) : (regs g).setIfInBounds i (.int .i64 v) = regs (upd g i v) := by
  have : i = 0 ∨ i = 1 ∨ i = 2 ∨ i = 3 ∨ i = 4 ∨ i = 5 ∨ i = 6 ∨ i = 7 := by omega
  rcases this with rfl | rfl | rfl | rfl | rfl | rfl | rfl | rfl <;> rfl
/-- the cells of what was sent -/
def gS (f : Nat → Snt) : Nat → Nat → Value := fun i j => match j with
  | 0 => .int .i64 (f i).dst
  | 1 => .int .i64 (f i).dl
  | _ => .int .i64 (f i).pay

/-- the machine lies in block P, its registers in block bg, its words and what it sent in rows of their own -/
structure RunAt (base P bg : Nat) (vw vs : Value) (r : Mch) (u : World) : Prop where
  lo : base ≤ P
  lo2 : base ≤ bg
  regs : u.heap[bg]? = some (.cells (regs r.g) 3 (0, 0))
  box : u.heap[P]? = some (.cells #[.slice (some ⟨bg, 0, none⟩) 8 8, vw, vs, .int .i64 r.dice, .int .i64 (r.pc : Int), .int .i64 (r.n : Int), .int .i64 r.f] 131 (0, 0))
  w : u.ownsRow base 3 1 vw r.nw (rowCells 1 (gW r.w) r.nw)
  wne : vw.ownBlock ≠ some bg
  s : u.ownsRow base 97 3 vs r.ns (rowCells 3 (gS r.sn) r.ns)
section
variable {base P bg : Nat} {vw vs : Value} {r : Mch} {u : World}
theorem RunAt.ne (h : RunAt base P bg vw vs r u) : P ≠ bg := by
  rintro rfl
  have := h.regs.symm.trans h.box
  simp only [Option.some.injEq, Obj.cells.injEq] at this
  exact absurd this.2.1 (by decide)
theorem RunAt.below (h : RunAt base P bg vw vs r u) {u2 : World} (k : Below u.heap.size u u2) : RunAt base P bg vw vs r u2 :=
  ⟨h.lo, h.lo2, (k.block _ (lt_of_block h.regs)).trans h.regs, (k.block _ (lt_of_block h.box)).trans h.box, own_below h.w k, h.wne, own_below h.s k⟩
theorem RunAt.drew (h : RunAt base P bg vw vs r u) : RunAt base P bg vw vs r u.drew := h.below (bdrew u)
theorem RunAt.drewN (h : RunAt base P bg vw vs r u) (n : Nat) : RunAt base P bg vw vs r (u.drewN n) := h.below (below_drewN (Below.refl _ _) n)
theorem RunAt.reg (h : RunAt base P bg vw vs r u) {i : Nat} (hi : i < 8) : u.cell? ⟨bg, i, none⟩ = some (.int .i64 (r.g i)) := by
  rw [Lib.cell_of_heap h.regs]; exact regs_at r.g hi
theorem RunAt.regF (h : RunAt base P bg vw vs r u) (i : Nat) : u.frozen? ⟨bg, i, none⟩ = false := Lib.frozen_of_heap h.regs i
theorem RunAt.cells (h : RunAt base P bg vw vs r u) : u.cell? ⟨P, 0, none⟩ = some (.slice (some ⟨bg, 0, none⟩) 8 8) ∧ u.cell? ⟨P, 1, none⟩ = some vw ∧ u.cell? ⟨P, 2, none⟩ = some vs ∧ u.cell? ⟨P, 3, none⟩ = some (.int .i64 r.dice) ∧ u.cell? ⟨P, 4, none⟩ = some (.int .i64 (r.pc : Int)) ∧ u.cell? ⟨P, 5, none⟩ = some (.int .i64 (r.n : Int)) ∧ u.cell? ⟨P, 6, none⟩ = some (.int .i64 r.f) ∧ ∀ q, u.frozen? ⟨P, q, none⟩ = false := by
  refine ⟨?_, ?_, ?_, ?_, ?_, ?_, ?_, fun q => Lib.frozen_of_heap h.box q⟩ <;> (rw [Lib.cell_of_heap h.box]; rfl)
theorem RunAt.form (h : RunAt base P bg vw vs r u) : ∃ a c, vw = .slice a r.nw c := by
  rcases h.w.2 with ⟨rfl, h0⟩ | ⟨b, cap, cur, rfl, _⟩
  · exact ⟨none, 0, by rw [h0]⟩
  · exact ⟨_, _, rfl⟩
theorem RunAt.form2 (h : RunAt base P bg vw vs r u) : ∃ a c, vs = .slice a r.ns c := by
  rcases h.s.2 with ⟨rfl, h0⟩ | ⟨b, cap, cur, rfl, _⟩
  · exact ⟨none, 0, by rw [h0]⟩
  · exact ⟨_, _, rfl⟩
/-- a row apart from a block of another type -/
theorem own_not {w : World} {b : Nat} {E t : TypeId} {C n : Nat} {v : Value} {xs : List Value} {k : Nat} {c : Array Value} {f : Nat × Nat} (h : w.ownsRow b E C v n xs) (hk : w.heap[k]? = some (.cells c t f)) (hne : t ≠ E) : v.ownBlock ≠ some k := by
  intro e
  rcases h.2 with ⟨rfl, _⟩ | ⟨g, cap, cur, rfl, _, r3, _⟩
  · simp [Value.ownBlock] at e
  · simp only [Value.ownBlock, Option.some.injEq] at e
    subst e
    rw [hk] at r3
    simp only [Option.some.injEq, Obj.cells.injEq] at r3
    exact hne r3.2.1
theorem own_setCell {w : World} {b : Nat} {E : TypeId} {C n : Nat} {v : Value} {xs : List Value} {k o : Nat} {x : Value} (h : w.ownsRow b E C v n xs) (hne : v.ownBlock ≠ some k) : (w.setCell ⟨k, o, none⟩ x).ownsRow b E C v n xs :=
  own_kept h fun g e => Below.heap_setCell w ⟨k, o, none⟩ x g (by rintro rfl; exact hne e)
theorem RunAt.setReg (h : RunAt base P bg vw vs r u) {i : Nat} (hi : i < 8) (v : Int) : RunAt base P bg vw vs { r with g := upd r.g i v } (u.setCell ⟨bg, i, none⟩ (.int .i64 v)) := by
  have hne := h.ne
  refine ⟨h.lo, h.lo2, ?_, (Below.heap_setCell u ⟨bg, i, none⟩ _ _ hne).trans h.box, own_setCell h.w h.wne, h.wne, own_setCell h.s (own_not h.s h.regs (by decide))⟩
  have := Joins.block_setCell (i := i) h.regs (.int .i64 v)
  rw [regs_set r.g hi] at this
  exact this
theorem RunAt.putP (h : RunAt base P bg vw vs r u) {o : Nat} {v : Value} {vs2 : Value} {r2 : Mch} (hg : r2.g = r.g) (hn : r2.nw = r.nw) (hw : r2.w = r.w)
    (hb : (#[.slice (some ⟨bg, 0, none⟩) 8 8, vw, vs, .int .i64 r.dice, .int .i64 (r.pc : Int), .int .i64 (r.n : Int), .int .i64 r.f] : Array Value).setIfInBounds o v = #[.slice (some ⟨bg, 0, none⟩) 8 8, vw, vs2, .int .i64 r2.dice, .int .i64 (r2.pc : Int), .int .i64 (r2.n : Int), .int .i64 r2.f])
    (hs : u.ownsRow base 97 3 vs2 r2.ns (rowCells 3 (gS r2.sn) r2.ns)) : RunAt base P bg vw vs2 r2 (u.setCell ⟨P, o, none⟩ v) := by
  have hne := h.ne
  refine ⟨h.lo, h.lo2, ?_, ?_, ?_, h.wne, own_setCell hs (own_not hs h.box (by decide))⟩
  · rw [hg]; exact (Below.heap_setCell u ⟨P, o, none⟩ _ _ (by show bg ≠ P; omega)).trans h.regs
  · have := Joins.block_setCell (i := o) h.box v
    rw [hb] at this
    exact this
  · rw [hn, hw]; exact own_setCell h.w (own_not h.w h.box (by decide))
theorem RunAt.setPc (h : RunAt base P bg vw vs r u) (p : Nat) : RunAt base P bg vw vs { r with pc := p } (u.setCell ⟨P, 4, none⟩ (.int .i64 (p : Int))) := h.putP rfl rfl rfl rfl h.s
theorem RunAt.setN (h : RunAt base P bg vw vs r u) (p : Nat) : RunAt base P bg vw vs { r with n := p } (u.setCell ⟨P, 5, none⟩ (.int .i64 (p : Int))) := h.putP rfl rfl rfl rfl h.s
theorem RunAt.setDice (h : RunAt base P bg vw vs r u) (d : Int) : RunAt base P bg vw vs { r with dice := d } (u.setCell ⟨P, 3, none⟩ (.int .i64 d)) := h.putP rfl rfl rfl rfl h.s
theorem RunAt.setF (h : RunAt base P bg vw vs r u) (d : Int) : RunAt base P bg vw vs { r with f := d } (u.setCell ⟨P, 6, none⟩ (.int .i64 d)) := h.putP rfl rfl rfl rfl h.s
/-- the words' row: where there are any -/
theorem RunAt.words (h : RunAt base P bg vw vs r u) {k : Nat} (hk : k < r.nw) : ∃ bw cap, vw = .slice (some ⟨bw, 0, none⟩) r.nw cap ∧ bw ≠ bg ∧ bw ≠ P ∧ base ≤ bw ∧ r.nw ≤ cap ∧ cap ≤ maxLen ∧ u.cell? ⟨bw, k, none⟩ = some (.int .i64 (r.w k)) ∧ (∀ q, u.frozen? ⟨bw, q, none⟩ = false) ∧
    ∀ v, RunAt base P bg vw vs { r with w := upd r.w k v } (u.setCell ⟨bw, k, none⟩ (.int .i64 v)) := by
  have hw := h.w
  have hwne := h.wne
  have hwP := own_not h.w h.box (by decide)
  rcases hw.2 with ⟨rfl, h0⟩ | ⟨bw, cap, cur, rfl, l1, l2, l3, l4, l5, l6⟩
  · omega
  have n1 : bw ≠ bg := by rintro rfl; exact hwne rfl
  have n2 : bw ≠ P := by rintro rfl; exact hwP rfl
  have at_ : ∀ j, j < r.nw → cur[j]? = some (.int .i64 (r.w j)) := fun j hj => by
    have e := rowCells_at (gW r.w) (C := 1) (n := r.nw) (i := j) (j := 0) hj (by omega)
    rw [← l6, List.getElem?_take, if_pos (by omega)] at e
    rw [← Array.getElem?_toList]
    simpa [gW] using e
  refine ⟨bw, cap, rfl, n1, n2, l1, l3, l4, ?_, fun q => Lib.frozen_of_heap l2 q, fun v => ?_⟩
  · rw [Lib.cell_of_heap l2]; exact at_ k hk
  refine ⟨h.lo, h.lo2, (Below.heap_setCell u ⟨bw, k, none⟩ _ _ (by show bg ≠ bw; omega)).trans h.regs, (Below.heap_setCell u ⟨bw, k, none⟩ _ _ (by show P ≠ bw; omega)).trans h.box, ?_, hwne, own_setCell h.s (own_not h.s l2 (by decide))⟩
  have hh := Joins.block_setCell (i := k) l2 (.int .i64 v)
  refine ⟨by rw [rowCells_len], .inr ⟨bw, cap, _, rfl, l1, hh, l3, l4, by simpa using l5, ?_⟩⟩
  apply List.ext_getElem?
  intro j
  rw [List.getElem?_take]
  by_cases hj : j < r.nw * 1
  · rw [if_pos hj]
    have e := rowCells_at (gW (upd r.w k v)) (C := 1) (n := r.nw) (i := j) (j := 0) (by omega) (by omega)
    rw [show j * 1 + 0 = j by omega] at e
    rw [show rowCells 1 (gW ({ r with w := upd r.w k v } : Mch).w) ({ r with w := upd r.w k v } : Mch).nw = rowCells 1 (gW (upd r.w k v)) r.nw from rfl, e, Array.getElem?_toList, Array.getElem?_setIfInBounds]
    have hsz : j < cur.size := by rw [l5]; omega
    by_cases e2 : k = j
    · subst e2
      simp [upd, gW, hsz]
    · rw [if_neg e2, at_ j (by omega)]
      simp [upd, gW, show ¬ j = k by omega]
  · rw [if_neg hj, List.getElem?_eq_none (by rw [rowCells_len]; show _ ≤ _; exact Nat.le_of_not_lt hj)]
end

end Go.Proofs.YthkfaeplmmlnlaaGreat
