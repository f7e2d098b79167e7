/- Models in memory: rows of cells, slices of them, and what stays when new memory is made. -/
import Derived.WalkKit
import Derived.WalkSpells
import Derived.WalkLawsBesides
import Derived.Lib.Hide
import Derived.WalkSmall
import Derived.Lib.SmallJoins
import Derived.Deep.RegionHeld3
import Derived.BigQuiet
import Derived.Deep.QuietTactic
import Derived.Test.YtaaagmcdbmppmaaRows
import Derived.Test.YtaaagmcdbmppmaaYModelMath
import Derived.Test.YtaaagmcdbmppmaaYFrameAid
import Derived.Test.YtaaagmcdbmppmaaYBase
namespace Go.Proofs.Ytaaagmcdbmppmaa
open Go.RowKit
set_option linter.unusedVariables false

/-- rows of C cells in a block: cell j of row i is g i j -/
def At (C : Nat) (g : Nat → Nat → Value) (n b o : Nat) (w : World) : Prop :=
  b < w.heap.size ∧ ∀ i, i < n → ∀ j, j < C → w.cell? ⟨b, o + i * C + j, none⟩ = some (g i j)
theorem At.below {C : Nat} {g : Nat → Nat → Value} {n b o : Nat} {w w2 : World} (h : At C g n b o w) (k : Below w.heap.size w w2) : At C g n b o w2 :=
  ⟨Nat.lt_of_lt_of_le h.1 k.size, fun i hi j hj => by rw [k.cell (p := ⟨b, o + i * C + j, none⟩) h.1]; exact h.2 i hi j hj⟩
/-- a slice of rows -/
def Sl (C : Nat) (g : Nat → Nat → Value) (n : Nat) (v : Value) (w : World) : Prop :=
  ∃ ao cap, v = .slice ao n cap ∧ n ≤ cap ∧ cap ≤ 9223372036854775807 ∧ (0 < n → ∃ b o, ao = some ⟨b, o, none⟩ ∧ At C g n b o w)
theorem Sl.below {C : Nat} {g : Nat → Nat → Value} {n : Nat} {v : Value} {w w2 : World} (h : Sl C g n v w) (k : Below w.heap.size w w2) : Sl C g n v w2 := by
  obtain ⟨ao, cap, e, h1, h2, h3⟩ := h
  exact ⟨ao, cap, e, h1, h2, fun hn => by obtain ⟨b, o, e2, ha⟩ := h3 hn; exact ⟨b, o, e2, ha.below k⟩⟩
theorem Sl.congr {C : Nat} {g g2 : Nat → Nat → Value} {n : Nat} {v : Value} {w : World} (h : Sl C g n v w) (e : ∀ i, i < n → ∀ j, j < C → g i j = g2 i j) : Sl C g2 n v w := by
  obtain ⟨ao, cap, ev, h1, h2, h3⟩ := h
  exact ⟨ao, cap, ev, h1, h2, fun hn => by
    obtain ⟨b, o, e2, ha⟩ := h3 hn
    exact ⟨b, o, e2, ha.1, fun i hi j hj => by rw [← e i hi j hj]; exact ha.2 i hi j hj⟩⟩

/-- the cells of floats, numbers, instructions, events -/
def gF (d : Nat → Nat) : Nat → Nat → Value := fun i _ => .float .f64 (d i)
def gW (d : Nat → Int) : Nat → Nat → Value := fun i _ => .int .i64 (d i)
def gI (f : Nat → I4) : Nat → Nat → Value := fun i j => match j with
  | 0 => .int .i64 (f i).op
  | 1 => .int .i64 (f i).a
  | 2 => .int .i64 (f i).b
  | _ => .int .i64 (f i).c
def gE (f : Nat → Ev) : Nat → Nat → Value := fun i j => match j with
  | 0 => .float .f64 (f i).t
  | 1 => .int .i64 (f i).dst
  | _ => .int .i64 (f i).pay
def gL (p : Nat → Int) (v : Nat → Value) : Nat → Nat → Value := fun i j => match j with
  | 0 => .int .i64 (p i)
  | _ => v i
def gV (v : Nat → Value) : Nat → Nat → Value := fun i _ => v i

/-- programs -/
def Pgs (n : Nat) (pl : Nat → Nat) (pr : Nat → Nat → I4) (v : Value) (w : World) : Prop :=
  ∃ g, Sl 1 (gV g) n v w ∧ ∀ i, i < n → Sl 4 (gI (pr i)) (pl i) (g i) w
/-- processes -/
def Lps (n : Nat) (lp : Nat → Int) (wl : Nat → Nat) (wd : Nat → Nat → Int) (v : Value) (w : World) : Prop :=
  ∃ g, Sl 2 (gL lp g) n v w ∧ ∀ i, i < n → Sl 1 (gW (wd i)) (wl i) (g i) w
theorem Pgs.below {n : Nat} {pl : Nat → Nat} {pr : Nat → Nat → I4} {v : Value} {w w2 : World} (h : Pgs n pl pr v w) (k : Below w.heap.size w w2) : Pgs n pl pr v w2 := by
  obtain ⟨g, h1, h2⟩ := h
  exact ⟨g, h1.below k, fun i hi => (h2 i hi).below k⟩
theorem Lps.below {n : Nat} {lp : Nat → Int} {wl : Nat → Nat} {wd : Nat → Nat → Int} {v : Value} {w w2 : World} (h : Lps n lp wl wd v w) (k : Below w.heap.size w w2) : Lps n lp wl wd v w2 := by
  obtain ⟨g, h1, h2⟩ := h
  exact ⟨g, h1.below k, fun i hi => (h2 i hi).below k⟩

/-- the lists of a model: delays, programs, processes, events -/
structure MdlAt (m : Mdl) (vd vp vl vi : Value) (w : World) : Prop where
  d : Sl 1 (gF m.d) m.nd vd w
  p : Pgs m.np m.pl m.pr vp w
  l : Lps m.nl m.lp m.wl m.wd vl w
  i : Sl 3 (gE m.ev) m.ni vi w
theorem MdlAt.below {m : Mdl} {vd vp vl vi : Value} {w w2 : World} (h : MdlAt m vd vp vl vi w) (k : Below w.heap.size w w2) : MdlAt m vd vp vl vi w2 :=
  ⟨h.d.below k, h.p.below k, h.l.below k, h.i.below k⟩

/-- a model as a value -/
def mval (m : Mdl) (vd vp vl vi : Value) : Value := .agg #[.int .i64 m.seed, .float .f64 m.fin, vd, vp, vl, vi]

/-- a number in a box of its own -/
def BoxI (n : Int) (q : Nat) (w : World) : Prop := w.cell? ⟨q, 0, none⟩ = some (.int .i64 n) ∧ q < w.heap.size
theorem BoxI.below {n : Int} {q : Nat} {w w2 : World} (h : BoxI n q w) (k : Below w.heap.size w w2) : BoxI n q w2 :=
  ⟨by rw [k.cell (p := ⟨q, 0, none⟩) h.2]; exact h.1, Nat.lt_of_lt_of_le h.2 k.size⟩

/-- a row of four, of six cells in a block -/
def Box4 (x : I4) (b o : Nat) (w : World) : Prop := b < w.heap.size ∧ w.cell? ⟨b, o, none⟩ = some (.int .i64 x.op) ∧ w.cell? ⟨b, o + 1, none⟩ = some (.int .i64 x.a) ∧ w.cell? ⟨b, o + 2, none⟩ = some (.int .i64 x.b) ∧ w.cell? ⟨b, o + 3, none⟩ = some (.int .i64 x.c)
theorem Box4.below {x : I4} {b o : Nat} {w w2 : World} (h : Box4 x b o w) (k : Below w.heap.size w w2) : Box4 x b o w2 := by
  obtain ⟨h0, h1, h2, h3, h4⟩ := h
  have e : ∀ o : Nat, w2.cell? ⟨b, o, none⟩ = w.cell? ⟨b, o, none⟩ := fun o => k.cell h0
  exact ⟨Nat.lt_of_lt_of_le h0 k.size, by rw [e]; exact h1, by rw [e]; exact h2, by rw [e]; exact h3, by rw [e]; exact h4⟩
def Box6 (c0 c1 c2 c3 c4 c5 : Value) (b : Nat) (w : World) : Prop := b < w.heap.size ∧ w.cell? ⟨b, 0, none⟩ = some c0 ∧ w.cell? ⟨b, 1, none⟩ = some c1 ∧ w.cell? ⟨b, 2, none⟩ = some c2 ∧ w.cell? ⟨b, 3, none⟩ = some c3 ∧ w.cell? ⟨b, 4, none⟩ = some c4 ∧ w.cell? ⟨b, 5, none⟩ = some c5
theorem Box6.below {c0 c1 c2 c3 c4 c5 : Value} {b : Nat} {w w2 : World} (h : Box6 c0 c1 c2 c3 c4 c5 b w) (k : Below w.heap.size w w2) : Box6 c0 c1 c2 c3 c4 c5 b w2 := by
  obtain ⟨h0, h1, h2, h3, h4, h5, h6⟩ := h
  have e : ∀ o : Nat, w2.cell? ⟨b, o, none⟩ = w.cell? ⟨b, o, none⟩ := fun o => k.cell h0
  exact ⟨Nat.lt_of_lt_of_le h0 k.size, by rw [e]; exact h1, by rw [e]; exact h2, by rw [e]; exact h3, by rw [e]; exact h4, by rw [e]; exact h5, by rw [e]; exact h6⟩
theorem Box6.new (c0 c1 c2 c3 c4 c5 : Value) (t : TypeId) (w : World) : Box6 c0 c1 c2 c3 c4 c5 w.heap.size (w.alloc (.cells #[c0, c1, c2, c3, c4, c5] t)) := by
  have hh := heap_alloc_new w (.cells #[c0, c1, c2, c3, c4, c5] t)
  refine ⟨lt_of_block hh, ?_, ?_, ?_, ?_, ?_, ?_⟩ <;> (rw [Lib.cell_of_heap hh]; rfl)
theorem Box4.new (x : I4) (t : TypeId) (w : World) : Box4 x w.heap.size 0 (w.alloc (.cells #[.int .i64 x.op, .int .i64 x.a, .int .i64 x.b, .int .i64 x.c] t)) := by
  have hh := heap_alloc_new w (.cells #[.int .i64 x.op, .int .i64 x.a, .int .i64 x.b, .int .i64 x.c] t)
  refine ⟨lt_of_block hh, ?_, ?_, ?_, ?_⟩ <;> (rw [Lib.cell_of_heap hh]; rfl)
theorem At.box4 {f : Nat → I4} {n b o : Nat} {w : World} (h : At 4 (gI f) n b o w) (i : Nat) (hi : i < n) : Box4 (f i) b (o + i * 4) w :=
  ⟨h.1, h.2 i hi 0 (by omega), h.2 i hi 1 (by omega), h.2 i hi 2 (by omega), h.2 i hi 3 (by omega)⟩

theorem At.one {g : Nat → Nat → Value} {n b o : Nat} {w : World} (h : At 1 g n b o w) (i : Nat) (hi : i < n) : w.cell? ⟨b, o + i, none⟩ = some (g i 0) := by
  have := h.2 i hi 0 (by omega)
  simpa using this
theorem At.two {g : Nat → Nat → Value} {n b o : Nat} {w : World} (h : At 2 g n b o w) (i : Nat) (hi : i < n) : w.cell? ⟨b, o + i * 2, none⟩ = some (g i 0) ∧ w.cell? ⟨b, o + i * 2 + 1, none⟩ = some (g i 1) :=
  ⟨h.2 i hi 0 (by omega), h.2 i hi 1 (by omega)⟩
theorem At.three {g : Nat → Nat → Value} {n b o : Nat} {w : World} (h : At 3 g n b o w) (i : Nat) (hi : i < n) : w.cell? ⟨b, o + i * 3, none⟩ = some (g i 0) ∧ w.cell? ⟨b, o + i * 3 + 1, none⟩ = some (g i 1) ∧ w.cell? ⟨b, o + i * 3 + 2, none⟩ = some (g i 2) :=
  ⟨h.2 i hi 0 (by omega), h.2 i hi 1 (by omega), h.2 i hi 2 (by omega)⟩

theorem bdrew (w : World) : Below w.heap.size w w.drew := (Below.refl _ _).drew

/-- the worlds in which all that lay in W is as it was: a class for regions whose operations only read and whose callees make new memory alone -/
def Cls (W w2 : World) : Prop := Below W.heap.size W w2
theorem Cls.out {W w2 : World} (h : Cls W w2) : Below W.heap.size W w2 := h
theorem Cls.drew (W : World) : Cls W W.drew := bdrew W
theorem Cls.on {W w2 w3 : World} (h : Cls W w2) (k : Below w2.heap.size w2 w3) : Cls W w3 := bthen h.out k

end Go.Proofs.Ytaaagmcdbmppmaa
