/- Small lemmas that every layer's walks share: Below, bounds of numbers, 64 bits. Models in memory: rows of cells, slices of them, and what stays when new memory is made. The cells of rows, as a list. Rows that a call made, each in a block of its own: what stays of them when memory is written elsewhere. All of memory with one block hidden. The plain mathematics of layer 4 (dice): 64 bits stirred, rolls; unlike words are stirred to unlike ones. No Go, no program. The mathematics of layer 7 (vm): a machine of eight registers, its words, what it sends, its rolls; one instruction, and a whole run. No Go, no program. The document's machine in memory: registers in a block of their own, words, what was sent, and the struct that holds them. -/
import Derived.WalkKit
import Derived.WalkSpells
import Derived.WalkLawsBesides
import Derived.Lib.Hide
import Derived.WalkSmall
import Derived.Lib.SmallJoins
import Derived.Deep.RegionHeld3
import Derived.BigQuiet
import Derived.Deep.QuietTactic
import Derived.Laws.OwnMore
import Derived.Test.YthkfaeplmmlnlaaGreatRows
import Derived.Test.YthkfaeplmmlnlaaGreatRZ0
namespace Go.Proofs.YthkfaeplmmlnlaaGreat
open Go.RowKit

theorem bthen {w b c : World} (h : Below w.heap.size w b) (k : Below b.heap.size b c) : Below w.heap.size w c := h.trans (k.mono h.size)
theorem balloc (w : World) (o : Obj) : Below w.heap.size w (w.alloc o) := (Below.refl _ _).alloc (Nat.le_refl _) o
theorem bdrewN {w b : World} (h : Below w.heap.size w b) (n : Nat) : Below w.heap.size w (b.drewN n) := below_drewN h n
theorem add_plain (b o i : Nat) : (⟨b, o, none⟩ : Addr).add i = ⟨b, o + i, none⟩ := by unfold Addr.add; split <;> simp_all

theorem u64_bd {n : Int} (h : (Lit.int .u64 n).wf = true) : 0 ≤ n ∧ n ≤ 18446744073709551615 := by
  simp [Lit.wf, IntKind.min, IntKind.max, IntKind.signed, IntKind.bits] at h; omega
theorem i64_bd {n : Int} (h : (Lit.int .i64 n).wf = true) : -9223372036854775808 ≤ n ∧ n ≤ 9223372036854775807 := by
  simp [Lit.wf, IntKind.min, IntKind.max, IntKind.signed, IntKind.bits] at h; omega

theorem bits_xor_u64 (x y : Nat) (hx : x < 2 ^ 64) (hy : y < 2 ^ 64) : bits .xor .u64 (x : Int) (y : Int) = ((x ^^^ y : Nat) : Int) := by
  have h := Nat.xor_lt_two_pow hx hy
  show IntKind.u64.wrap (((BitVec.ofInt 64 (x : Int) ^^^ BitVec.ofInt 64 (y : Int)).toNat : Nat) : Int) = _
  rw [BitVec.toNat_xor, BitVec.toNat_ofInt, BitVec.toNat_ofInt]
  have ex : ((x : Int) % ((2 ^ 64 : Nat) : Int)).toNat = x := by omega
  have ey : ((y : Int) % ((2 ^ 64 : Nat) : Int)).toNat = y := by omega
  rw [ex, ey]
  exact IntWalk.u64_in _ (by omega)
theorem bits_and_u64 (x y : Nat) (hx : x < 2 ^ 64) (hy : y < 2 ^ 64) : bits .and .u64 (x : Int) (y : Int) = ((x &&& y : Nat) : Int) := by
  have h := Nat.and_lt_two_pow x hy
  show IntKind.u64.wrap (((BitVec.ofInt 64 (x : Int) &&& BitVec.ofInt 64 (y : Int)).toNat : Nat) : Int) = _
  rw [BitVec.toNat_and, BitVec.toNat_ofInt, BitVec.toNat_ofInt]
  have ex : ((x : Int) % ((2 ^ 64 : Nat) : Int)).toNat = x := by omega
  have ey : ((y : Int) % ((2 ^ 64 : Nat) : Int)).toNat = y := by omega
  rw [ex, ey]
  exact IntWalk.u64_in _ (by omega)

end Go.Proofs.YthkfaeplmmlnlaaGreat
namespace Go.Proofs.YthkfaeplmmlnlaaGreat
open Go.RowKit
set_option linter.unusedVariables false

/-- rows of C cells in a block: cell j of row i is g i j -/
def At (C : Nat) (g : Nat → Nat → Value) (n b o : Nat) (w : World) : Prop :=
  b < w.heap.size ∧ ∀ i, i < n → ∀ j, j < C → w.cell? ⟨b, o + i * C + j, none⟩ = some (g i j)
theorem At.below {C : Nat} {g : Nat → Nat → Value} {n b o : Nat} {w w2 : World} (h : At C g n b o w) (k : Below w.heap.size w w2) : At C g n b o w2 :=
  ⟨Nat.lt_of_lt_of_le h.1 k.size, fun i hi j hj => by rw [k.cell (p := ⟨b, o + i * C + j, none⟩) h.1]; exact h.2 i hi j hj⟩
/-- a slice of rows -/
def Sl (C : Nat) (g : Nat → Nat → Value) (n : Nat) (v : Value) (w : World) : Prop :=
  ∃ ao cap, v = .slice ao n cap ∧ n ≤ cap ∧ cap ≤ 9223372036854775807 ∧ (0 < n → ∃ b o, ao = some ⟨b, o, none⟩ ∧ At C g n b o w)
theorem Sl.below {C : Nat} {g : Nat → Nat → Value} {n : Nat} {v : Value} {w w2 : World} (h : Sl C g n v w) (k : Below w.heap.size w w2) : Sl C g n v w2 := by
  obtain ⟨ao, cap, e, h1, h2, h3⟩ := h
  exact ⟨ao, cap, e, h1, h2, fun hn => by obtain ⟨b, o, e2, ha⟩ := h3 hn; exact ⟨b, o, e2, ha.below k⟩⟩
theorem Sl.congr {C : Nat} {g g2 : Nat → Nat → Value} {n : Nat} {v : Value} {w : World} (h : Sl C g n v w) (e : ∀ i, i < n → ∀ j, j < C → g i j = g2 i j) : Sl C g2 n v w := by
  obtain ⟨ao, cap, ev, h1, h2, h3⟩ := h
  exact ⟨ao, cap, ev, h1, h2, fun hn => by
    obtain ⟨b, o, e2, ha⟩ := h3 hn
    exact ⟨b, o, e2, ha.1, fun i hi j hj => by rw [← e i hi j hj]; exact ha.2 i hi j hj⟩⟩

/-- the cells of floats, numbers, instructions, events -/
def gF (d : Nat → Nat) : Nat → Nat → Value := fun i _ => .float .f64 (d i)
def gW (d : Nat → Int) : Nat → Nat → Value := fun i _ => .int .i64 (d i)
def gI (f : Nat → I4) : Nat → Nat → Value := fun i j => match j with
  | 0 => .int .i64 (f i).op
  | 1 => .int .i64 (f i).a
  | 2 => .int .i64 (f i).b
  | _ => .int .i64 (f i).c
def gE (f : Nat → Ev) : Nat → Nat → Value := fun i j => match j with
  | 0 => .float .f64 (f i).t
  | 1 => .int .i64 (f i).dst
  | _ => .int .i64 (f i).pay
def gL (p : Nat → Int) (v : Nat → Value) : Nat → Nat → Value := fun i j => match j with
  | 0 => .int .i64 (p i)
  | _ => v i
def gV (v : Nat → Value) : Nat → Nat → Value := fun i _ => v i

/-- programs -/
def Pgs (n : Nat) (pl : Nat → Nat) (pr : Nat → Nat → I4) (v : Value) (w : World) : Prop :=
  ∃ g, Sl 1 (gV g) n v w ∧ ∀ i, i < n → Sl 4 (gI (pr i)) (pl i) (g i) w
/-- processes -/
def Lps (n : Nat) (lp : Nat → Int) (wl : Nat → Nat) (wd : Nat → Nat → Int) (v : Value) (w : World) : Prop :=
  ∃ g, Sl 2 (gL lp g) n v w ∧ ∀ i, i < n → Sl 1 (gW (wd i)) (wl i) (g i) w
theorem Pgs.below {n : Nat} {pl : Nat → Nat} {pr : Nat → Nat → I4} {v : Value} {w w2 : World} (h : Pgs n pl pr v w) (k : Below w.heap.size w w2) : Pgs n pl pr v w2 := by
  obtain ⟨g, h1, h2⟩ := h
  exact ⟨g, h1.below k, fun i hi => (h2 i hi).below k⟩
theorem Lps.below {n : Nat} {lp : Nat → Int} {wl : Nat → Nat} {wd : Nat → Nat → Int} {v : Value} {w w2 : World} (h : Lps n lp wl wd v w) (k : Below w.heap.size w w2) : Lps n lp wl wd v w2 := by
  obtain ⟨g, h1, h2⟩ := h
  exact ⟨g, h1.below k, fun i hi => (h2 i hi).below k⟩

/-- the lists of a model: delays, programs, processes, events -/
structure MdlAt (m : Mdl) (vd vp vl vi : Value) (w : World) : Prop where
  d : Sl 1 (gF m.d) m.nd vd w
  p : Pgs m.np m.pl m.pr vp w
  l : Lps m.nl m.lp m.wl m.wd vl w
  i : Sl 3 (gE m.ev) m.ni vi w
theorem MdlAt.below {m : Mdl} {vd vp vl vi : Value} {w w2 : World} (h : MdlAt m vd vp vl vi w) (k : Below w.heap.size w w2) : MdlAt m vd vp vl vi w2 :=
  ⟨h.d.below k, h.p.below k, h.l.below k, h.i.below k⟩

/-- a model as a value -/
def mval (m : Mdl) (vd vp vl vi : Value) : Value := .agg #[.int .i64 m.seed, .float .f64 m.fin, vd, vp, vl, vi]

/-- a number in a box of its own -/
def BoxI (n : Int) (q : Nat) (w : World) : Prop := w.cell? ⟨q, 0, none⟩ = some (.int .i64 n) ∧ q < w.heap.size
theorem BoxI.below {n : Int} {q : Nat} {w w2 : World} (h : BoxI n q w) (k : Below w.heap.size w w2) : BoxI n q w2 :=
  ⟨by rw [k.cell (p := ⟨q, 0, none⟩) h.2]; exact h.1, Nat.lt_of_lt_of_le h.2 k.size⟩

/-- a row of four, of six cells in a block -/
def Box4 (x : I4) (b o : Nat) (w : World) : Prop := b < w.heap.size ∧ w.cell? ⟨b, o, none⟩ = some (.int .i64 x.op) ∧ w.cell? ⟨b, o + 1, none⟩ = some (.int .i64 x.a) ∧ w.cell? ⟨b, o + 2, none⟩ = some (.int .i64 x.b) ∧ w.cell? ⟨b, o + 3, none⟩ = some (.int .i64 x.c)
theorem Box4.below {x : I4} {b o : Nat} {w w2 : World} (h : Box4 x b o w) (k : Below w.heap.size w w2) : Box4 x b o w2 := by
  obtain ⟨h0, h1, h2, h3, h4⟩ := h
  have e : ∀ o : Nat, w2.cell? ⟨b, o, none⟩ = w.cell? ⟨b, o, none⟩ := fun o => k.cell h0
  exact ⟨Nat.lt_of_lt_of_le h0 k.size, by rw [e]; exact h1, by rw [e]; exact h2, by rw [e]; exact h3, by rw [e]; exact h4⟩
def Box6 (c0 c1 c2 c3 c4 c5 : Value) (b : Nat) (w : World) : Prop := b < w.heap.size ∧ w.cell? ⟨b, 0, none⟩ = some c0 ∧ w.cell? ⟨b, 1, none⟩ = some c1 ∧ w.cell? ⟨b, 2, none⟩ = some c2 ∧ w.cell? ⟨b, 3, none⟩ = some c3 ∧ w.cell? ⟨b, 4, none⟩ = some c4 ∧ w.cell? ⟨b, 5, none⟩ = some c5
theorem Box6.below {c0 c1 c2 c3 c4 c5 : Value} {b : Nat} {w w2 : World} (h : Box6 c0 c1 c2 c3 c4 c5 b w) (k : Below w.heap.size w w2) : Box6 c0 c1 c2 c3 c4 c5 b w2 := by
  obtain ⟨h0, h1, h2, h3, h4, h5, h6⟩ := h
  have e : ∀ o : Nat, w2.cell? ⟨b, o, none⟩ = w.cell? ⟨b, o, none⟩ := fun o => k.cell h0
  exact ⟨Nat.lt_of_lt_of_le h0 k.size, by rw [e]; exact h1, by rw [e]; exact h2, by rw [e]; exact h3, by rw [e]; exact h4, by rw [e]; exact h5, by rw [e]; exact h6⟩
theorem Box6.new (c0 c1 c2 c3 c4 c5 : Value) (t : TypeId) (w : World) : Box6 c0 c1 c2 c3 c4 c5 w.heap.size (w.alloc (.cells #[c0, c1, c2, c3, c4, c5] t)) := by
  have hh := heap_alloc_new w (.cells #[c0, c1, c2, c3, c4, c5] t)
  refine ⟨lt_of_block hh, ?_, ?_, ?_, ?_, ?_, ?_⟩ <;> (rw [Lib.cell_of_heap hh]; rfl)
theorem Box4.new (x : I4) (t : TypeId) (w : World) : Box4 x w.heap.size 0 (w.alloc (.cells #[.int .i64 x.op, .int .i64 x.a, .int .i64 x.b, .int .i64 x.c] t)) := by
  have hh := heap_alloc_new w (.cells #[.int .i64 x.op, .int .i64 x.a, .int .i64 x.b, .int .i64 x.c] t)
  refine ⟨lt_of_block hh, ?_, ?_, ?_, ?_⟩ <;> (rw [Lib.cell_of_heap hh]; rfl)
theorem At.box4 {f : Nat → I4} {n b o : Nat} {w : World} (h : At 4 (gI f) n b o w) (i : Nat) (hi : i < n) : Box4 (f i) b (o + i * 4) w :=
  ⟨h.1, h.2 i hi 0 (by omega), h.2 i hi 1 (by omega), h.2 i hi 2 (by omega), h.2 i hi 3 (by omega)⟩

theorem At.one {g : Nat → Nat → Value} {n b o : Nat} {w : World} (h : At 1 g n b o w) (i : Nat) (hi : i < n) : w.cell? ⟨b, o + i, none⟩ = some (g i 0) := by
  have := h.2 i hi 0 (by omega)
  simpa using this
theorem At.two {g : Nat → Nat → Value} {n b o : Nat} {w : World} (h : At 2 g n b o w) (i : Nat) (hi : i < n) : w.cell? ⟨b, o + i * 2, none⟩ = some (g i 0) ∧ w.cell? ⟨b, o + i * 2 + 1, none⟩ = some (g i 1) :=
  ⟨h.2 i hi 0 (by omega), h.2 i hi 1 (by omega)⟩
theorem At.three {g : Nat → Nat → Value} {n b o : Nat} {w : World} (h : At 3 g n b o w) (i : Nat) (hi : i < n) : w.cell? ⟨b, o + i * 3, none⟩ = some (g i 0) ∧ w.cell? ⟨b, o + i * 3 + 1, none⟩ = some (g i 1) ∧ w.cell? ⟨b, o + i * 3 + 2, none⟩ = some (g i 2) :=
  ⟨h.2 i hi 0 (by omega), h.2 i hi 1 (by omega), h.2 i hi 2 (by omega)⟩

theorem bdrew (w : World) : Below w.heap.size w w.drew := (Below.refl _ _).drew

/-- the worlds in which all that lay in W is as it was: a class for regions whose operations only read and whose callees make new memory alone -/
def Cls (W w2 : World) : Prop := Below W.heap.size W w2
theorem Cls.out {W w2 : World} (h : Cls W w2) : Below W.heap.size W w2 := h
theorem Cls.drew (W : World) : Cls W W.drew := bdrew W
theorem Cls.on {W w2 w3 : World} (h : Cls W w2) (k : Below w2.heap.size w2 w3) : Cls W w3 := bthen h.out k

end Go.Proofs.YthkfaeplmmlnlaaGreat
namespace Go.Proofs.YthkfaeplmmlnlaaGreat
open Go.RowKit
set_option linter.unusedVariables false

/-- the cells of n rows of C -/
def rowCells (C : Nat) (g : Nat → Nat → Value) (n : Nat) : List Value := (List.range (n * C)).map fun k => g (k / C) (k % C)
theorem rowCells_len (C : Nat) (g : Nat → Nat → Value) (n : Nat) : (rowCells C g n).length = n * C := by simp [rowCells]
theorem rowCells_at {C : Nat} (g : Nat → Nat → Value) {n i j : Nat} (hi : i < n) (hj : j < C) : (rowCells C g n)[i * C + j]? = some (g i j) := by
  have h : i * C + j < n * C := by
    have : (i + 1) * C ≤ n * C := Nat.mul_le_mul_right C hi
    rw [Nat.add_mul, Nat.one_mul] at this
    omega
  have e1 : (i * C + j) / C = i := by
    rw [Nat.mul_comm, Nat.mul_add_div (by omega), Nat.div_eq_of_lt hj]; omega
  have e2 : (i * C + j) % C = j := by
    rw [Nat.mul_comm, Nat.mul_add_mod]; exact Nat.mod_eq_of_lt hj
  simp [rowCells, h, e1, e2]
theorem rowCells_of {C : Nat} (hC : 0 < C) (g : Nat → Nat → Value) {n k : Nat} {v : Value} (h : (rowCells C g n)[k]? = some v) : k < n * C ∧ k / C < n ∧ k % C < C ∧ v = g (k / C) (k % C) := by
  have hk : k < n * C := by
    rcases Nat.lt_or_ge k (n * C) with h' | h'
    · exact h'
    · rw [List.getElem?_eq_none (by rw [rowCells_len]; exact h')] at h; cases h
  refine ⟨hk, (Nat.div_lt_iff_lt_mul hC).2 hk, Nat.mod_lt _ hC, ?_⟩
  simp [rowCells, hk] at h
  exact h.symm

end Go.Proofs.YthkfaeplmmlnlaaGreat
namespace Go.Proofs.YthkfaeplmmlnlaaGreat
open Go.RowKit
set_option linter.unusedVariables false

theorem cell_block {w : World} {a : Addr} {v : Value} (h : w.cell? a = some v) : ∃ c t f, w.heap[a.block]? = some (.cells c t f) := by
  unfold World.cell? at h
  split at h
  · exact ⟨_, _, _, by assumption⟩
  · cases h
theorem cell_lt {w : World} {a : Addr} {v : Value} (h : w.cell? a = some v) : a.block < w.heap.size := by
  obtain ⟨c, t, f, e⟩ := cell_block h
  exact lt_of_block e
theorem own_low {w : World} {b : Nat} {E : TypeId} {C n : Nat} {v : Value} {xs : List Value} (h : w.ownsRow b E C v n xs) : w.ownsRow 0 E C v n xs := by
  obtain ⟨h1, h2⟩ := h
  refine ⟨h1, ?_⟩
  rcases h2 with h2 | ⟨g, cap, cur, r1, r2, r3⟩
  · exact .inl h2
  · exact .inr ⟨g, cap, cur, r1, Nat.zero_le _, r3⟩
theorem own_kept {w w2 : World} {b : Nat} {E : TypeId} {C n : Nat} {v : Value} {xs : List Value} (h : w.ownsRow b E C v n xs) (k : ∀ g, v.ownBlock = some g → w2.heap[g]? = w.heap[g]?) : w2.ownsRow b E C v n xs := by
  obtain ⟨h1, h2⟩ := h
  refine ⟨h1, ?_⟩
  rcases h2 with h2 | ⟨g, cap, cur, rfl, r2, r3, r4⟩
  · exact .inl h2
  · exact .inr ⟨g, cap, cur, rfl, r2, by rw [k g rfl]; exact r3, r4⟩
theorem own_lt {w : World} {b : Nat} {E : TypeId} {C n : Nat} {v : Value} {xs : List Value} (h : w.ownsRow b E C v n xs) {g : Nat} (e : v.ownBlock = some g) : b ≤ g ∧ g < w.heap.size := h.lt g e
theorem own_below {u u2 : World} {b : Nat} {E : TypeId} {C n : Nat} {v : Value} {xs : List Value} (h : u.ownsRow b E C v n xs) (k : Below u.heap.size u u2) : u2.ownsRow b E C v n xs :=
  own_kept h fun g e => k.block g (own_lt h e).2
theorem own_apart {w : World} {b b2 : Nat} {E E2 : TypeId} {C C2 n n2 : Nat} {v v2 : Value} {xs xs2 : List Value} (h : w.ownsRow b E C v n xs) (k : w.ownsRow b2 E2 C2 v2 n2 xs2) (hE : E ≠ E2) {g : Nat} (e : v.ownBlock = some g) : v2.ownBlock ≠ some g := by
  intro e2
  rcases h.2 with ⟨rfl, _⟩ | ⟨g1, cap1, cur1, rfl, _, h3, _⟩
  · simp [Value.ownBlock] at e
  · rcases k.2 with ⟨rfl, _⟩ | ⟨g2, cap2, cur2, rfl, _, k3, _⟩
    · simp [Value.ownBlock] at e2
    · simp only [Value.ownBlock, Option.some.injEq] at e e2
      subst e
      subst e2
      rw [h3] at k3
      simp only [Option.some.injEq, Obj.cells.injEq] at k3
      exact hE k3.2.1
theorem rowCells_succ {C : Nat} (hC : 0 < C) (g : Nat → Nat → Value) (n : Nat) (l : List Value) (hl : l.length = C) (h : ∀ j, j < C → l[j]? = some (g n j)) : rowCells C g n ++ l = rowCells C g (n + 1) := by
  apply List.ext_getElem?
  intro k
  rcases Nat.lt_or_ge k (n * C) with hk | hk
  · rw [List.getElem?_append_left (by rw [rowCells_len]; exact hk)]
    have e : (n + 1) * C = n * C + C := by rw [Nat.add_mul, Nat.one_mul]
    simp [rowCells, hk, show k < (n + 1) * C by omega]
  · rw [List.getElem?_append_right (by rw [rowCells_len]; exact hk), rowCells_len]
    rcases Nat.lt_or_ge (k - n * C) C with h2 | h2
    · rw [h _ h2]
      have := rowCells_at g (n := n + 1) (i := n) (j := k - n * C) (by omega) h2
      rw [show n * C + (k - n * C) = k by omega] at this
      exact this.symm
    · rw [List.getElem?_eq_none (by omega), List.getElem?_eq_none (by rw [rowCells_len, Nat.add_mul, Nat.one_mul]; omega)]

theorem grown_keep {w w4 : World} {b C n q : Nat} {E t : TypeId} {v : Value} {xs : List Value} {c : Array Value} {f : Nat × Nat} (h : w.ownsRow b E C v n xs) (hg : w.grownBy w4 v.ownBlock) (hq : w.heap[q]? = some (.cells c t f)) (hne : t ≠ E) : w4.heap[q]? = some (.cells c t f) := by
  rw [hg.block q (lt_of_block hq) ?_]
  · exact hq
  · intro he
    rcases h.2 with ⟨rfl, _⟩ | ⟨g, cap, cur, rfl, _, r3, _⟩
    · simp [Value.ownBlock] at he
    · simp only [Value.ownBlock, Option.some.injEq] at he
      subst he
      rw [hq] at r3
      simp only [Option.some.injEq, Obj.cells.injEq] at r3
      exact hne r3.2.1

/-- a row that was made is a slice of rows -/
theorem own_sl {u : World} {b : Nat} {E : TypeId} {C : Nat} {v : Value} {n : Nat} {g : Nat → Nat → Value} (h : u.ownsRow b E C v n (rowCells C g n)) : Sl C g n v u := by
  rcases h.2 with ⟨rfl, rfl⟩ | ⟨b, cap, cur, rfl, _, h3, h4, h5, h6, h7⟩
  · exact ⟨none, 0, rfl, Nat.le_refl _, by omega, fun h => absurd h (Nat.lt_irrefl 0)⟩
  · refine ⟨_, cap, rfl, h4, by unfold maxLen at h5; omega, fun _ => ⟨b, 0, rfl, lt_of_block h3, fun i hi j hj => ?_⟩⟩
    have hk : i * C + j < n * C := by
      have : (i + 1) * C ≤ n * C := Nat.mul_le_mul_right C hi
      rw [Nat.add_mul, Nat.one_mul] at this
      omega
    rw [Lib.cell_of_heap h3, Nat.zero_add, ← Array.getElem?_toList]
    have e := rowCells_at g hi hj
    rw [← h7, List.getElem?_take, if_pos hk] at e
    exact e

end Go.Proofs.YthkfaeplmmlnlaaGreat
namespace Go.Proofs.YthkfaeplmmlnlaaGreat
open Go.RowKit
set_option linter.unusedVariables false

/-- the world with block tb hidden -/
def Hd (tb : Nat) (w : World) : World := { w with heap := w.heap.modify tb fun _ => .finalizers #[] none }
theorem Hd.size (tb : Nat) (w : World) : (Hd tb w).heap.size = w.heap.size := by simp [Hd]
theorem Hd.block (tb k : Nat) (w : World) : (Hd tb w).heap[k]? = if tb = k then (w.heap[k]?).map (fun _ => Obj.finalizers #[] none) else w.heap[k]? := by
  simp only [Hd, Array.getElem?_modify]
theorem Hd.other {tb k : Nat} (w : World) (h : tb ≠ k) : (Hd tb w).heap[k]? = w.heap[k]? := by rw [Hd.block, if_neg h]
theorem Hd.cells {tb k : Nat} {w : World} {c : Array Value} {t : TypeId} {f : Nat × Nat} (h : (Hd tb w).heap[k]? = some (.cells c t f)) : tb ≠ k ∧ w.heap[k]? = some (.cells c t f) := by
  rw [Hd.block] at h
  by_cases e : tb = k
  · rw [if_pos e] at h
    cases hw : w.heap[k]? with
    | none => rw [hw] at h; cases h
    | some o => rw [hw] at h; simp at h
  · rw [if_neg e] at h; exact ⟨e, h⟩
theorem Hd.cell {tb : Nat} {w : World} {a : Addr} {v : Value} (h : (Hd tb w).cell? a = some v) : w.cell? a = some v := by
  obtain ⟨c, t, f, e⟩ := cell_block h
  obtain ⟨h1, h2⟩ := Hd.cells e
  rw [← h]
  exact World.cell?_of_block (by rw [e, h2])
theorem Hd.below {tb B : Nat} {w w2 : World} (h : Below B w w2) : Below B (Hd tb w) (Hd tb w2) :=
  ⟨h.os, h.tape, h.output, by rw [Hd.size, Hd.size]; exact h.size, fun k hk => by rw [Hd.block, Hd.block, h.block k hk]⟩

/-- all but block tb is as it was -/
def Kp (tb : Nat) (w w2 : World) : Prop := Below w.heap.size (Hd tb w) (Hd tb w2)
theorem Kp.refl (tb : Nat) (w : World) : Kp tb w w := Below.refl _ _
theorem Kp.size {tb : Nat} {w w2 : World} (h : Kp tb w w2) : w.heap.size ≤ w2.heap.size := by have := Below.size h; rwa [Hd.size, Hd.size] at this
theorem Kp.trans {tb : Nat} {a b c : World} (h : Kp tb a b) (k : Kp tb b c) : Kp tb a c := Below.trans h (Below.mono k h.size)
theorem Kp.of {tb : Nat} {a b : World} (h : Below a.heap.size a b) : Kp tb a b := Hd.below h
theorem Kp.on {tb : Nat} {a b c : World} (h : Kp tb a b) (k : Below b.heap.size b c) : Kp tb a c := h.trans (Kp.of k)
theorem Kp.low {tb : Nat} {a b c : World} (h : Kp tb a b) (k : Below a.heap.size b c) : Kp tb a c := Below.trans h (Hd.below k)
theorem Kp.blk {tb k : Nat} {a b : World} (h : Kp tb a b) (hk : k < a.heap.size) (hne : tb ≠ k) : b.heap[k]? = a.heap[k]? := by
  have := Below.block h k hk
  rwa [Hd.other _ hne, Hd.other _ hne] at this
theorem Kp.set (tb o : Nat) (v : Value) (w : World) : Kp tb w (w.setCell ⟨tb, o, none⟩ v) := by
  refine ⟨rfl, rfl, rfl, by rw [Hd.size, Hd.size, World.size_setCell]; exact Nat.le_refl _, fun k hk => ?_⟩
  rw [Hd.block, Hd.block]
  by_cases e : tb = k
  · subst e
    rw [if_pos rfl, if_pos rfl]
    have h1 : tb < w.heap.size := hk
    rw [Array.getElem?_eq_getElem h1, Array.getElem?_eq_getElem (by rw [World.size_setCell]; exact h1)]
    rfl
  · rw [if_neg e, if_neg e]
    exact Below.heap_setCell _ _ _ _ (fun h => e h.symm)
theorem Kp.bot {tb B : Nat} {a b : World} (h : Kp tb a b) (hB : B ≤ a.heap.size) (ht : B ≤ tb) : Below B a b := by
  have k : Below a.heap.size (Hd tb a) (Hd tb b) := h
  exact ⟨k.os, k.tape, k.output, h.size, fun i hi => h.blk (by omega) (by omega)⟩
theorem Kp.drew (tb : Nat) (w : World) : Kp tb w w.drew := Kp.of (bdrew w)
/-- hiding a block, and what is done to memory -/
theorem hd_types {B : Nat} {W : World} {cs : Array Value} {E : TypeId} {fr : Nat × Nat} (hB : W.heap[B]? = some (.cells cs E fr)) :
    ∀ (k : Nat) (c : Array Value) (t : TypeId) (f : Nat × Nat), t ≠ E → W.heap[k]? = some (Obj.cells c t f) → (Hd B W).heap[k]? = some (Obj.cells c t f) := by
  intro k c t f hne hc
  rw [Hd.other]
  · exact hc
  · rintro rfl
    rw [hc] at hB
    simp only [Option.some.injEq, Obj.cells.injEq] at hB
    exact hne hB.2.1
theorem hd_set_self (X o : Nat) (v : Value) (W : World) : Hd X (W.setCell ⟨X, o, none⟩ v) = Hd X W := by
  unfold Hd World.setCell
  simp only [World.mk.injEq, and_true]
  apply Array.ext_getElem?
  intro k
  simp only [Array.getElem?_modify]
  by_cases e : X = k
  · simp [e, Function.comp_def]
  · simp [e]
theorem hd_set_other {X tb : Nat} (h : tb ≠ X) (o : Nat) (v : Value) (W : World) : Hd X (W.setCell ⟨tb, o, none⟩ v) = (Hd X W).setCell ⟨tb, o, none⟩ v := by
  unfold Hd World.setCell
  simp only [World.mk.injEq, and_true]
  apply Array.ext_getElem?
  intro k
  simp only [Array.getElem?_modify]
  by_cases e : X = k
  · subst e
    simp [h]
  · simp [e]
theorem hd_sets_self (X : Nat) : ∀ (l : List Value) (o : Nat) (W : World), Hd X (W.setCells X o l) = Hd X W
  | [], _, W => rfl
  | v :: l, o, W => (hd_sets_self X l (o + 1) _).trans (hd_set_self X o v W)
theorem hd_sets_other {X tb : Nat} (h : tb ≠ X) : ∀ (l : List Value) (o : Nat) (W : World), Hd X (W.setCells tb o l) = (Hd X W).setCells tb o l
  | [], _, W => rfl
  | v :: l, o, W => by
    show Hd X ((W.setCell ⟨tb, o, none⟩ v).setCells tb (o + 1) l) = ((Hd X W).setCell ⟨tb, o, none⟩ v).setCells tb (o + 1) l
    rw [hd_sets_other h l (o + 1) _, hd_set_other h]
theorem hd_alloc {X : Nat} {W : World} (h : X < W.heap.size) (o : Obj) : Hd X (W.alloc o) = (Hd X W).alloc o := by
  unfold Hd World.alloc
  simp only [World.mk.injEq, and_true]
  apply Array.ext_getElem?
  intro k
  simp only [Array.getElem?_modify, Array.getElem?_push, Array.size_modify]
  by_cases e : X = k
  · subst e
    have : X ≠ W.heap.size := by omega
    simp [this]
  · simp [e]
theorem hd_grown {X : Nat} {w w4 : World} {row : Option Nat} (h : w.grownBy w4 row) : (Hd X w).grownBy (Hd X w4) row :=
  ⟨h.os, h.tape, h.output, by rw [Hd.size, Hd.size]; exact h.size, fun k hk hne => by rw [Hd.block, Hd.block, h.block k (by rwa [Hd.size] at hk) hne]⟩

end Go.Proofs.YthkfaeplmmlnlaaGreat
namespace Go.Proofs.YthkfaeplmmlnlaaGreat
open Go.RowKit

/-- xored with itself shifted right by k -/
def xsN (k z : Nat) : Nat := z ^^^ z / 2 ^ k
/-- times m, wrap-round -/
def mulN (m z : Nat) : Nat := z * m % 18446744073709551616
/-- 64 bits stirred -/
def stirN (z : Nat) : Nat := xsN 31 (mulN 10723151780598845931 (xsN 27 (mulN 13787848793156543929 (xsN 30 z))))
/-- a number as 64 bits -/
def u64N (n : Int) : Nat := (n % 18446744073709551616).toNat
def addN (a c : Nat) : Nat := (a + mulN 11400714819323198485 (c + 1)) % 18446744073709551616
def wordN (seed process : Int) : Nat := stirN (addN (u64N seed) (u64N process))
def rollN (seed process count : Int) : Nat := stirN (addN (wordN seed process) (u64N count))
/-- what is left of a roll by n -/
def belowN (roll : Nat) (n : Int) : Int := if n < 1 then 0 else (roll : Int) % n

theorem xsN_inj (k : Nat) (hk : 0 < k) (x y : Nat) (h : xsN k x = xsN k y) : x = y := by
  unfold xsN at h
  have e : x ^^^ y = (x ^^^ y) / 2 ^ k := by
    rw [Nat.xor_div_two_pow]
    generalize x / 2 ^ k = p at h
    generalize y / 2 ^ k = q at h
    have e1 : x = (y ^^^ q) ^^^ p := by rw [← h, Nat.xor_assoc, Nat.xor_self, Nat.xor_zero]
    have e2 : x ^^^ y = (y ^^^ y) ^^^ (p ^^^ q) := by
      rw [e1, Nat.xor_assoc y q p, Nat.xor_comm (y ^^^ (q ^^^ p)) y, ← Nat.xor_assoc, Nat.xor_comm q p]
    rw [e2, Nat.xor_self, Nat.zero_xor]
  have h0 : x ^^^ y = 0 := by
    have h2 : 2 ≤ 2 ^ k := by
      have := Nat.pow_le_pow_right (n := 2) (by omega) hk
      simpa using this
    rcases Nat.eq_zero_or_pos (x ^^^ y) with h3 | h3
    · exact h3
    · have h4 := Nat.div_lt_self h3 (show 1 < 2 ^ k by omega)
      omega
  have h5 := congrArg (· ^^^ y) h0
  simpa [Nat.xor_assoc] using h5

theorem xsN_lt (k z : Nat) (h : z < 18446744073709551616) : xsN k z < 18446744073709551616 := by
  unfold xsN
  exact Nat.xor_lt_two_pow (n := 64) h (Nat.lt_of_le_of_lt (Nat.div_le_self _ _) h)
theorem mulN_lt (m z : Nat) : mulN m z < 18446744073709551616 := Nat.mod_lt _ (by omega)
theorem stirN_lt (z : Nat) : stirN z < 18446744073709551616 := xsN_lt _ _ (mulN_lt _ _)
theorem addN_lt (a c : Nat) : addN a c < 18446744073709551616 := Nat.mod_lt _ (by omega)
theorem u64N_lt (n : Int) : u64N n < 18446744073709551616 := by unfold u64N; omega

theorem mulN_inj (m i : Nat) (hm : m * i % 18446744073709551616 = 1) (x y : Nat) (hx : x < 18446744073709551616) (hy : y < 18446744073709551616) (h : mulN m x = mulN m y) : x = y := by
  have back : ∀ z, z < 18446744073709551616 → mulN m z * i % 18446744073709551616 = z := by
    intro z hz
    unfold mulN
    rw [Nat.mod_mul_mod, Nat.mul_assoc, ← Nat.mul_mod_mod, hm, Nat.mul_one, Nat.mod_eq_of_lt hz]
  rw [← back x hx, ← back y hy, h]

theorem stirN_inj (x y : Nat) (hx : x < 18446744073709551616) (hy : y < 18446744073709551616) (h : stirN x = stirN y) : x = y := by
  unfold stirN at h
  have h1 := xsN_inj 31 (by omega) _ _ h
  have h2 := mulN_inj 10723151780598845931 3573116690164977347 (by decide +kernel) _ _ (xsN_lt _ _ (mulN_lt _ _)) (xsN_lt _ _ (mulN_lt _ _)) h1
  have h3 := xsN_inj 27 (by omega) _ _ h2
  have h4 := mulN_inj 13787848793156543929 10871156337175269513 (by decide +kernel) _ _ (xsN_lt _ _ hx) (xsN_lt _ _ hy) h3
  exact xsN_inj 30 (by omega) _ _ h4

theorem addN_inj (a c d : Nat) (hc : c < 18446744073709551616) (hd : d < 18446744073709551616) (h : addN a c = addN a d) : c = d := by
  unfold addN at h
  have hp := mulN_lt 11400714819323198485 (c + 1)
  have hq := mulN_lt 11400714819323198485 (d + 1)
  have h1 : mulN 11400714819323198485 (c + 1) = mulN 11400714819323198485 (d + 1) := by
    generalize mulN 11400714819323198485 (c + 1) = p at h hp
    generalize mulN 11400714819323198485 (d + 1) = q at h hq
    omega
  have e : ∀ z, mulN 11400714819323198485 z = mulN 11400714819323198485 (z % 18446744073709551616) := by
    intro z
    unfold mulN
    rw [Nat.mod_mul_mod]
  rw [e (c + 1), e (d + 1)] at h1
  have h2 := mulN_inj 11400714819323198485 17428512612931826493 (by decide +kernel) _ _ (Nat.mod_lt _ (by omega)) (Nat.mod_lt _ (by omega)) h1
  omega

theorem u64N_inj (n m : Int) (hn : -9223372036854775808 ≤ n ∧ n ≤ 9223372036854775807) (hm : -9223372036854775808 ≤ m ∧ m ≤ 9223372036854775807) (h : u64N n = u64N m) : n = m := by
  unfold u64N at h; omega

/-- unlike counts have unlike rolls -/
theorem rollN_inj (s p n m : Int) (hn : -9223372036854775808 ≤ n ∧ n ≤ 9223372036854775807) (hm : -9223372036854775808 ≤ m ∧ m ≤ 9223372036854775807) (h : rollN s p n = rollN s p m) : n = m :=
  u64N_inj n m hn hm (addN_inj _ _ _ (u64N_lt n) (u64N_lt m) (stirN_inj _ _ (addN_lt _ _) (addN_lt _ _) h))

/-- a chance is from 0 to below the number -/
theorem belowN_within (r : Nat) (n : Int) : (n < 1 → belowN r n = 0) ∧ (1 ≤ n → 0 ≤ belowN r n ∧ belowN r n < n) := by
  refine ⟨fun h => by unfold belowN; rw [if_pos h], fun h => ?_⟩
  unfold belowN
  rw [if_neg (by omega)]
  exact ⟨Int.emod_nonneg _ (by omega), Int.emod_lt_of_pos _ (by omega)⟩

end Go.Proofs.YthkfaeplmmlnlaaGreat
namespace Go.Proofs.YthkfaeplmmlnlaaGreat
open Go.RowKit
set_option linter.unusedVariables false

/-- a number of 64 bits -/
def r64v (n : Int) : Prop := -9223372036854775808 ≤ n ∧ n ≤ 9223372036854775807
/-- what is sent -/
structure Snt where
  dst : Int
  dl : Int
  pay : Int
/-- a machine: registers, words, what was sent, the dice' count, the place, the steps, how it went wrong -/
structure Mch where
  g : Nat → Int
  nw : Nat
  w : Nat → Int
  ns : Nat
  sn : Nat → Snt
  dice : Int
  pc : Nat
  n : Nat
  f : Int
/-- what a run begins with -/
structure Inp where
  nw : Nat
  w : Nat → Int
  pay : Int
  me : Int
  lps : Int
  seed : Int
  dice : Int

def upd (g : Nat → Int) (i : Nat) (v : Int) : Nat → Int := fun k => if k = i then v else g k
/-- a quotient, cut towards 0, and what is left -/
def quotQ (b c : Int) : Int := wrap64 (b.tdiv c)
def quotR (b c : Int) : Int := wrap64 (b.tmod c)
theorem wrap64_mod (x : Int) : wrap64 x % 18446744073709551616 = x % 18446744073709551616 := by unfold wrap64; omega
theorem wrap64_congr {x y : Int} (h : x % 18446744073709551616 = y % 18446744073709551616) : wrap64 x = wrap64 y := by unfold wrap64; omega
theorem quotR_eq (b c : Int) : wrap64 (b - wrap64 (wrap64 (b.tdiv c) * c)) = quotR b c := by
  refine wrap64_congr ?_
  have e : b.tmod c = b - b.tdiv c * c := by rw [Int.tmod_def, Int.mul_comm]
  rw [e, Int.sub_emod, wrap64_mod, Int.mul_emod, wrap64_mod, ← Int.mul_emod, ← Int.sub_emod]
theorem quotQ_neg (b : Int) : quotQ b (-1) = wrap64 (-b) := by unfold quotQ; simp
theorem quotR_neg (b : Int) : quotR b (-1) = 0 := by
  have : b.tmod (-1) = 0 := by rw [Int.tmod_def]; simp
  unfold quotR
  rw [this]; decide +kernel
/-- what computes -/
def twoV (op b c : Int) : Int :=
  if op = 3 then wrap64 (b + c) else if op = 4 then wrap64 (b - c) else if op = 5 then wrap64 (b * c)
  else if op = 6 then quotQ b c else if op = 7 then quotR b c else if b < c then 1 else 0
def twoF (op c : Int) : Int := if (op = 6 ∨ op = 7) ∧ c = 0 then 2 else 0
/-- how an instruction goes wrong (0: it does not) -/
def oneF (x : I4) (lps : Int) (r : Mch) : Int :=
  if x.op = 11 then (if r.g x.b.toNat < 1 then 4 else 0)
  else if x.op = 12 then (if r.g x.a.toNat < 0 ∨ lps ≤ r.g x.a.toNat then 6 else if 4 ≤ r.ns then 5 else 0)
  else if x.op = 13 then (if r.g x.b.toNat < 0 ∨ (r.nw : Int) ≤ r.g x.b.toNat then 3 else 0)
  else if x.op = 14 then (if r.g x.a.toNat < 0 ∨ (r.nw : Int) ≤ r.g x.a.toNat then 3 else 0)
  else if x.op = 6 ∨ x.op = 7 then (if r.g x.c.toNat = 0 then 2 else 0)
  else 0
/-- what an instruction does, if it does not go wrong -/
def oneR (x : I4) (seed me : Int) (r : Mch) : Mch :=
  if x.op = 1 then { r with g := upd r.g x.a.toNat x.b }
  else if x.op = 2 then { r with g := upd r.g x.a.toNat (r.g x.b.toNat) }
  else if x.op = 9 then { r with pc := x.a.toNat }
  else if x.op = 10 then (if r.g x.a.toNat = 0 then { r with pc := x.b.toNat } else r)
  else if x.op = 11 then { r with g := upd r.g x.a.toNat (belowN (rollN seed me r.dice) (r.g x.b.toNat)), dice := wrap64 (r.dice + 1) }
  else if x.op = 12 then { r with ns := r.ns + 1, sn := fun i => if i = r.ns then ⟨r.g x.a.toNat, r.g x.b.toNat, r.g x.c.toNat⟩ else r.sn i }
  else if x.op = 13 then { r with g := upd r.g x.a.toNat (r.w (r.g x.b.toNat).toNat) }
  else if x.op = 14 then { r with w := upd r.w (r.g x.a.toNat).toNat (r.g x.b.toNat) }
  else { r with g := upd r.g x.a.toNat (twoV x.op (r.g x.b.toNat) (r.g x.c.toNat)) }
/-- a run, from a machine on, of a program of pl instructions; k steps are left -/
def runM (pr : Nat → I4) (pl : Nat) (lps seed me : Int) : Nat → Mch → Mch
  | 0, r => if pl ≤ r.pc then r else { r with f := 1 }
  | k + 1, r =>
    if pl ≤ r.pc then r
    else
      let r1 : Mch := { r with n := r.n + 1, pc := r.pc + 1 }
      if (pr r.pc).op = 0 then r1
      else if oneF (pr r.pc) lps r1 = 0 then runM pr pl lps seed me k (oneR (pr r.pc) seed me r1)
      else { r1 with f := oneF (pr r.pc) lps r1 }
def beginM (i : Inp) : Mch := ⟨fun k => if k = 0 then i.pay else if k = 1 then i.me else if k = 2 then i.lps else if k = 3 then (i.nw : Int) else 0, i.nw, i.w, 0, fun _ => ⟨0, 0, 0⟩, i.dice, 0, 0, 0⟩
/-- the whole run -/
def wholeM (pr : Nat → I4) (pl : Nat) (i : Inp) : Mch := runM pr pl i.lps i.seed i.me 120 (beginM i)
/-- may it be run? -/
def mayN (pr : Nat → I4) (pl : Nat) (i : Inp) : Int :=
  if (1 ≤ pl ∧ pl ≤ 48) ∧ allN (fun k => insB (pr k) pl) pl = true then (if 8 < i.nw then 2 else 0) else 15

/-- what stays in a run -/
structure Fit (pl : Nat) (nw0 : Nat) (r : Mch) : Prop where
  pc : r.pc ≤ pl
  nw : r.nw = nw0
  ns : r.ns ≤ 4
  f : 0 ≤ r.f ∧ r.f ≤ 6
theorem oneF_bd (x : I4) (lps : Int) (r : Mch) : 0 ≤ oneF x lps r ∧ oneF x lps r ≤ 6 := by
  unfold oneF
  repeat' split
  all_goals omega
theorem plc_bd {n len : Int} (h : plcB n len = true) : 0 ≤ n ∧ n ≤ len := by
  unfold plcB at h
  simpa using h
theorem reg_bd {n : Int} (h : regB n = true) : 0 ≤ n ∧ n ≤ 7 := by
  unfold regB at h
  simpa using h

end Go.Proofs.YthkfaeplmmlnlaaGreat
namespace Go.Proofs.YthkfaeplmmlnlaaGreat
open Go.RowKit
set_option linter.unusedVariables false
set_option maxRecDepth 100000

def regs (g : Nat → Int) : Array Value := #[.int .i64 (g 0), .int .i64 (g 1), .int .i64 (g 2), .int .i64 (g 3), .int .i64 (g 4), .int .i64 (g 5), .int .i64 (g 6), .int .i64 (g 7)]
theorem regs_at (g : Nat → Int) {i : Nat} (hi : i < 8) : (regs g)[i]? = some (.int .i64 (g i)) := by
  have : i = 0 ∨ i = 1 ∨ i = 2 ∨ i = 3 ∨ i = 4 ∨ i = 5 ∨ i = 6 ∨ i = 7 := by omega
  rcases this with rfl | rfl | rfl | rfl | rfl | rfl | rfl | rfl <;> rfl
theorem regs_set (g : Nat → Int) {i : Nat} (hi : i < 8) (v : Int) : (regs g).setIfInBounds i (.int .i64 v) = regs (upd g i v) := by
  have : i = 0 ∨ i = 1 ∨ i = 2 ∨ i = 3 ∨ i = 4 ∨ i = 5 ∨ i = 6 ∨ i = 7 := by omega
  rcases this with rfl | rfl | rfl | rfl | rfl | rfl | rfl | rfl <;> rfl
/-- the cells of what was sent -/
def gS (f : Nat → Snt) : Nat → Nat → Value := fun i j => match j with
  | 0 => .int .i64 (f i).dst
  | 1 => .int .i64 (f i).dl
  | _ => .int .i64 (f i).pay

/-- the machine lies in block P, its registers in block bg, its words and what it sent in rows of their own -/
structure RunAt (base P bg : Nat) (vw vs : Value) (r : Mch) (u : World) : Prop where
  lo : base ≤ P
  lo2 : base ≤ bg
  regs : u.heap[bg]? = some (.cells (regs r.g) 3 (0, 0))
  box : u.heap[P]? = some (.cells #[.slice (some ⟨bg, 0, none⟩) 8 8, vw, vs, .int .i64 r.dice, .int .i64 (r.pc : Int), .int .i64 (r.n : Int), .int .i64 r.f] 131 (0, 0))
  w : u.ownsRow base 3 1 vw r.nw (rowCells 1 (gW r.w) r.nw)
  wne : vw.ownBlock ≠ some bg
  s : u.ownsRow base 97 3 vs r.ns (rowCells 3 (gS r.sn) r.ns)
section
variable {base P bg : Nat} {vw vs : Value} {r : Mch} {u : World}
theorem RunAt.ne (h : RunAt base P bg vw vs r u) : P ≠ bg := by
  rintro rfl
  have := h.regs.symm.trans h.box
  simp only [Option.some.injEq, Obj.cells.injEq] at this
  exact absurd this.2.1 (by decide)
theorem RunAt.below (h : RunAt base P bg vw vs r u) {u2 : World} (k : Below u.heap.size u u2) : RunAt base P bg vw vs r u2 :=
  ⟨h.lo, h.lo2, (k.block _ (lt_of_block h.regs)).trans h.regs, (k.block _ (lt_of_block h.box)).trans h.box, own_below h.w k, h.wne, own_below h.s k⟩
theorem RunAt.drew (h : RunAt base P bg vw vs r u) : RunAt base P bg vw vs r u.drew := h.below (bdrew u)
theorem RunAt.drewN (h : RunAt base P bg vw vs r u) (n : Nat) : RunAt base P bg vw vs r (u.drewN n) := h.below (below_drewN (Below.refl _ _) n)
theorem RunAt.reg (h : RunAt base P bg vw vs r u) {i : Nat} (hi : i < 8) : u.cell? ⟨bg, i, none⟩ = some (.int .i64 (r.g i)) := by
  rw [Lib.cell_of_heap h.regs]; exact regs_at r.g hi
theorem RunAt.regF (h : RunAt base P bg vw vs r u) (i : Nat) : u.frozen? ⟨bg, i, none⟩ = false := Lib.frozen_of_heap h.regs i
theorem RunAt.cells (h : RunAt base P bg vw vs r u) : u.cell? ⟨P, 0, none⟩ = some (.slice (some ⟨bg, 0, none⟩) 8 8) ∧ u.cell? ⟨P, 1, none⟩ = some vw ∧ u.cell? ⟨P, 2, none⟩ = some vs ∧ u.cell? ⟨P, 3, none⟩ = some (.int .i64 r.dice) ∧ u.cell? ⟨P, 4, none⟩ = some (.int .i64 (r.pc : Int)) ∧ u.cell? ⟨P, 5, none⟩ = some (.int .i64 (r.n : Int)) ∧ u.cell? ⟨P, 6, none⟩ = some (.int .i64 r.f) ∧ ∀ q, u.frozen? ⟨P, q, none⟩ = false := by
  refine ⟨?_, ?_, ?_, ?_, ?_, ?_, ?_, fun q => Lib.frozen_of_heap h.box q⟩ <;> (rw [Lib.cell_of_heap h.box]; rfl)
theorem RunAt.form (h : RunAt base P bg vw vs r u) : ∃ a c, vw = .slice a r.nw c := by
  rcases h.w.2 with ⟨rfl, h0⟩ | ⟨b, cap, cur, rfl, _⟩
  · exact ⟨none, 0, by rw [h0]⟩
  · exact ⟨_, _, rfl⟩
theorem RunAt.form2 (h : RunAt base P bg vw vs r u) : ∃ a c, vs = .slice a r.ns c := by
  rcases h.s.2 with ⟨rfl, h0⟩ | ⟨b, cap, cur, rfl, _⟩
  · exact ⟨none, 0, by rw [h0]⟩
  · exact ⟨_, _, rfl⟩
/-- a row apart from a block of another type -/
theorem own_not {w : World} {b : Nat} {E t : TypeId} {C n : Nat} {v : Value} {xs : List Value} {k : Nat} {c : Array Value} {f : Nat × Nat} (h : w.ownsRow b E C v n xs) (hk : w.heap[k]? = some (.cells c t f)) (hne : t ≠ E) : v.ownBlock ≠ some k := by
  intro e
  rcases h.2 with ⟨rfl, _⟩ | ⟨g, cap, cur, rfl, _, r3, _⟩
  · simp [Value.ownBlock] at e
  · simp only [Value.ownBlock, Option.some.injEq] at e
    subst e
    rw [hk] at r3
    simp only [Option.some.injEq, Obj.cells.injEq] at r3
    exact hne r3.2.1
theorem own_setCell {w : World} {b : Nat} {E : TypeId} {C n : Nat} {v : Value} {xs : List Value} {k o : Nat} {x : Value} (h : w.ownsRow b E C v n xs) (hne : v.ownBlock ≠ some k) : (w.setCell ⟨k, o, none⟩ x).ownsRow b E C v n xs :=
  own_kept h fun g e => Below.heap_setCell w ⟨k, o, none⟩ x g (by rintro rfl; exact hne e)
theorem RunAt.setReg (h : RunAt base P bg vw vs r u) {i : Nat} (hi : i < 8) (v : Int) : RunAt base P bg vw vs { r with g := upd r.g i v } (u.setCell ⟨bg, i, none⟩ (.int .i64 v)) := by
  have hne := h.ne
  refine ⟨h.lo, h.lo2, ?_, (Below.heap_setCell u ⟨bg, i, none⟩ _ _ hne).trans h.box, own_setCell h.w h.wne, h.wne, own_setCell h.s (own_not h.s h.regs (by decide))⟩
  have := Joins.block_setCell (i := i) h.regs (.int .i64 v)
  rw [regs_set r.g hi] at this
  exact this
theorem RunAt.putP (h : RunAt base P bg vw vs r u) {o : Nat} {v : Value} {vs2 : Value} {r2 : Mch} (hg : r2.g = r.g) (hn : r2.nw = r.nw) (hw : r2.w = r.w)
    (hb : (#[.slice (some ⟨bg, 0, none⟩) 8 8, vw, vs, .int .i64 r.dice, .int .i64 (r.pc : Int), .int .i64 (r.n : Int), .int .i64 r.f] : Array Value).setIfInBounds o v = #[.slice (some ⟨bg, 0, none⟩) 8 8, vw, vs2, .int .i64 r2.dice, .int .i64 (r2.pc : Int), .int .i64 (r2.n : Int), .int .i64 r2.f])
    (hs : u.ownsRow base 97 3 vs2 r2.ns (rowCells 3 (gS r2.sn) r2.ns)) : RunAt base P bg vw vs2 r2 (u.setCell ⟨P, o, none⟩ v) := by
  have hne := h.ne
  refine ⟨h.lo, h.lo2, ?_, ?_, ?_, h.wne, own_setCell hs (own_not hs h.box (by decide))⟩
  · rw [hg]; exact (Below.heap_setCell u ⟨P, o, none⟩ _ _ (by show bg ≠ P; omega)).trans h.regs
  · have := Joins.block_setCell (i := o) h.box v
    rw [hb] at this
    exact this
  · rw [hn, hw]; exact own_setCell h.w (own_not h.w h.box (by decide))
theorem RunAt.setPc (h : RunAt base P bg vw vs r u) (p : Nat) : RunAt base P bg vw vs { r with pc := p } (u.setCell ⟨P, 4, none⟩ (.int .i64 (p : Int))) := h.putP rfl rfl rfl rfl h.s
theorem RunAt.setN (h : RunAt base P bg vw vs r u) (p : Nat) : RunAt base P bg vw vs { r with n := p } (u.setCell ⟨P, 5, none⟩ (.int .i64 (p : Int))) := h.putP rfl rfl rfl rfl h.s
theorem RunAt.setDice (h : RunAt base P bg vw vs r u) (d : Int) : RunAt base P bg vw vs { r with dice := d } (u.setCell ⟨P, 3, none⟩ (.int .i64 d)) := h.putP rfl rfl rfl rfl h.s
theorem RunAt.setF (h : RunAt base P bg vw vs r u) (d : Int) : RunAt base P bg vw vs { r with f := d } (u.setCell ⟨P, 6, none⟩ (.int .i64 d)) := h.putP rfl rfl rfl rfl h.s
/-- the words' row: where there are any -/
theorem RunAt.words (h : RunAt base P bg vw vs r u) {k : Nat} (hk : k < r.nw) : ∃ bw cap, vw = .slice (some ⟨bw, 0, none⟩) r.nw cap ∧ bw ≠ bg ∧ bw ≠ P ∧ base ≤ bw ∧ r.nw ≤ cap ∧ cap ≤ maxLen ∧ u.cell? ⟨bw, k, none⟩ = some (.int .i64 (r.w k)) ∧ (∀ q, u.frozen? ⟨bw, q, none⟩ = false) ∧
    ∀ v, RunAt base P bg vw vs { r with w := upd r.w k v } (u.setCell ⟨bw, k, none⟩ (.int .i64 v)) := by
  have hw := h.w
  have hwne := h.wne
  have hwP := own_not h.w h.box (by decide)
  rcases hw.2 with ⟨rfl, h0⟩ | ⟨bw, cap, cur, rfl, l1, l2, l3, l4, l5, l6⟩
  · omega
  have n1 : bw ≠ bg := by rintro rfl; exact hwne rfl
  have n2 : bw ≠ P := by rintro rfl; exact hwP rfl
  have at_ : ∀ j, j < r.nw → cur[j]? = some (.int .i64 (r.w j)) := fun j hj => by
    have e := rowCells_at (gW r.w) (C := 1) (n := r.nw) (i := j) (j := 0) hj (by omega)
    rw [← l6, List.getElem?_take, if_pos (by omega)] at e
    rw [← Array.getElem?_toList]
    simpa [gW] using e
  refine ⟨bw, cap, rfl, n1, n2, l1, l3, l4, ?_, fun q => Lib.frozen_of_heap l2 q, fun v => ?_⟩
  · rw [Lib.cell_of_heap l2]; exact at_ k hk
  refine ⟨h.lo, h.lo2, (Below.heap_setCell u ⟨bw, k, none⟩ _ _ (by show bg ≠ bw; omega)).trans h.regs, (Below.heap_setCell u ⟨bw, k, none⟩ _ _ (by show P ≠ bw; omega)).trans h.box, ?_, hwne, own_setCell h.s (own_not h.s l2 (by decide))⟩
  have hh := Joins.block_setCell (i := k) l2 (.int .i64 v)
  refine ⟨by rw [rowCells_len], .inr ⟨bw, cap, _, rfl, l1, hh, l3, l4, by simpa using l5, ?_⟩⟩
  apply List.ext_getElem?
  intro j
  rw [List.getElem?_take]
  by_cases hj : j < r.nw * 1
  · rw [if_pos hj]
    have e := rowCells_at (gW (upd r.w k v)) (C := 1) (n := r.nw) (i := j) (j := 0) (by omega) (by omega)
    rw [show j * 1 + 0 = j by omega] at e
    rw [show rowCells 1 (gW ({ r with w := upd r.w k v } : Mch).w) ({ r with w := upd r.w k v } : Mch).nw = rowCells 1 (gW (upd r.w k v)) r.nw from rfl, e, Array.getElem?_toList, Array.getElem?_setIfInBounds]
    have hsz : j < cur.size := by rw [l5]; omega
    by_cases e2 : k = j
    · subst e2
      simp [upd, gW, hsz]
    · rw [if_neg e2, at_ j (by omega)]
      simp [upd, gW, show ¬ j = k by omega]
  · rw [if_neg hj, List.getElem?_eq_none (by rw [rowCells_len]; show _ ≤ _; exact Nat.le_of_not_lt hj)]
end

end Go.Proofs.YthkfaeplmmlnlaaGreat
