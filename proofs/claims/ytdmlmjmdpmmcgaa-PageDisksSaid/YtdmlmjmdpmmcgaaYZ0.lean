/- Takes out of a drawn region, said shortly: an operation that is not wanted, one that only reads. Small lemmas that every layer's walks share: Below, bounds of numbers, 64 bits. Sectors: 64 bytes as functions, texts filled up; a disk of them. Plain mathematics. Floats of 64 bits as plain numbers: a word's place in the order of floats, its value in units of the least one, and how sums are rounded: in order. Floats held against each other, by their places in the order. -/
import Derived.WalkKit
import Derived.Deep.RegionHeld3
import Derived.Maps.RangeWalk
import Derived.WalkSpells
import Derived.WalkLawsBesides
import Derived.Laws.BytesArg
import Derived.Laws.FloatArith
namespace Go.Proofs.Ytdmlmjmdpmmcgaa
open Go.RowKit
section
variable {P : Program} {ops : Array Oper} {Q : Exit → Act → World → Prop} {md : Region.Mode} {S : World → Prop}
theorem tq0 (i : Nat) {f1 f2 f3 f4 f5 f6} {fuel : Nat} {listed : Array Bool} {a : Act} {w : World} (hi : ops[i]? = some (Oper.mk f1 f2 f3 f4 f5 f6))
    (h : wpAnyH P md ops Q S fuel (listed.setIfInBounds i true) (a.put (Oper.mk f1 f2 f3 f4 f5 f6).dst undef) w)
    (hs : Region.noSelect ops = true := by kernel_rfl) (hf : Region.free md ops listed i = true := by kernel_rfl) (hr : (Region.ready md ops listed).contains i = true := by kernel_rfl)
    (hQ : ∀ c a w, Q (.panic c) (a.put (Oper.mk f1 f2 f3 f4 f5 f6).dst undef) w → Q (.panic c) a w := by exact fun _ _ _ h => h)
    (hw : Region.wanted (Oper.mk f1 f2 f3 f4 f5 f6) (yielded ops a.tmps) = false := by rfl) (hS : S w := by assumption) : wpAnyH P md ops Q S (fuel + 1) listed a w := wpAnyH_take hi hs hf hr hQ (.inr ⟨hw, rfl⟩) hS h
theorem tq1 (i : Nat) {f1 f2 f3 f4 f5 f6} {v : Value} {fuel : Nat} {listed : Array Bool} {a : Act} {w : World} (hi : ops[i]? = some (Oper.mk f1 f2 f3 f4 f5 f6))
    (h : wpAnyH P md ops Q S fuel (listed.setIfInBounds i true) (a.put (Oper.mk f1 f2 f3 f4 f5 f6).dst v) w)
    (hs : Region.noSelect ops = true := by kernel_rfl) (hf : Region.free md ops listed i = true := by kernel_rfl) (hr : (Region.ready md ops listed).contains i = true := by kernel_rfl)
    (hQ : ∀ c a w, Q (.panic c) (a.put (Oper.mk f1 f2 f3 f4 f5 f6).dst v) w → Q (.panic c) a w := by exact fun _ _ _ h => h)
    (hw : Region.wanted (Oper.mk f1 f2 f3 f4 f5 f6) (yielded ops a.tmps) = true := by rfl)
    (hy : ∀ w5, S w5 → (execOp a.eval (Oper.mk f1 f2 f3 f4 f5 f6)).run P w5 = .ok (.value v) w5 := by intro w5 hSw; (try dsimp only at hSw); go_simp; (try with_reducible rfl)) (hS : S w := by assumption) : wpAnyH P md ops Q S (fuel + 1) listed a w := wpAnyH_take hi hs hf hr hQ (.inl ⟨hw, hy⟩) hS h
end
end Go.Proofs.Ytdmlmjmdpmmcgaa
namespace Go.Proofs.Ytdmlmjmdpmmcgaa
open Go.RowKit

theorem bthen {w b c : World} (h : Below w.heap.size w b) (k : Below b.heap.size b c) : Below w.heap.size w c := h.trans (k.mono h.size)
theorem balloc (w : World) (o : Obj) : Below w.heap.size w (w.alloc o) := (Below.refl _ _).alloc (Nat.le_refl _) o
theorem bdrewN {w b : World} (h : Below w.heap.size w b) (n : Nat) : Below w.heap.size w (b.drewN n) := below_drewN h n
theorem add_plain (b o i : Nat) : (⟨b, o, none⟩ : Addr).add i = ⟨b, o + i, none⟩ := by unfold Addr.add; split <;> simp_all

theorem u64_bd {n : Int} (h : (Lit.int .u64 n).wf = true) : 0 ≤ n ∧ n ≤ 18446744073709551615 := by
  simp [Lit.wf, IntKind.min, IntKind.max, IntKind.signed, IntKind.bits] at h; omega
theorem i64_bd {n : Int} (h : (Lit.int .i64 n).wf = true) : -9223372036854775808 ≤ n ∧ n ≤ 9223372036854775807 := by
  simp [Lit.wf, IntKind.min, IntKind.max, IntKind.signed, IntKind.bits] at h; omega

theorem bits_xor_u64 (x y : Nat) (hx : x < 2 ^ 64) (hy : y < 2 ^ 64) : bits .xor .u64 (x : Int) (y : Int) = ((x ^^^ y : Nat) : Int) := by
  have h := Nat.xor_lt_two_pow hx hy
  show IntKind.u64.wrap (((BitVec.ofInt 64 (x : Int) ^^^ BitVec.ofInt 64 (y : Int)).toNat : Nat) : Int) = _
  rw [BitVec.toNat_xor, BitVec.toNat_ofInt, BitVec.toNat_ofInt]
  have ex : ((x : Int) % ((2 ^ 64 : Nat) : Int)).toNat = x := by omega
  have ey : ((y : Int) % ((2 ^ 64 : Nat) : Int)).toNat = y := by omega
  rw [ex, ey]
  exact IntWalk.u64_in _ (by omega)
theorem bits_and_u64 (x y : Nat) (hx : x < 2 ^ 64) (hy : y < 2 ^ 64) : bits .and .u64 (x : Int) (y : Int) = ((x &&& y : Nat) : Int) := by
  have h := Nat.and_lt_two_pow x hy
  show IntKind.u64.wrap (((BitVec.ofInt 64 (x : Int) &&& BitVec.ofInt 64 (y : Int)).toNat : Nat) : Int) = _
  rw [BitVec.toNat_and, BitVec.toNat_ofInt, BitVec.toNat_ofInt]
  have ex : ((x : Int) % ((2 ^ 64 : Nat) : Int)).toNat = x := by omega
  have ey : ((y : Int) % ((2 ^ 64 : Nat) : Int)).toNat = y := by omega
  rw [ex, ey]
  exact IntWalk.u64_in _ (by omega)

end Go.Proofs.Ytdmlmjmdpmmcgaa
namespace Go.Proofs.Ytdmlmjmdpmmcgaa
open Go.RowKit
set_option maxRecDepth 100000

/-- a text's byte, 0 behind its end -/
def byD (s : ByteArray) (i : Nat) : Int := ((s.data.toList.getD i 0).toNat : Int)
theorem byD_bd (s : ByteArray) (i : Nat) : 0 ≤ byD s i ∧ byD s i ≤ 255 := by
  have := (s.data.toList.getD i 0).toNat_lt
  unfold byD; omega
theorem byD_out {s : ByteArray} {i : Nat} (h : s.size ≤ i) : byD s i = 0 := by
  have hs : s.data.toList.length = s.size := by simp
  unfold byD
  rw [List.getD_eq_getElem?_getD, List.getElem?_eq_none (by omega)]
  rfl
/-- 64 bytes as a text -/
def sec (f : Nat → Int) : ByteArray := strOfNums ((List.range 64).map f)
def SecF (f : Nat → Int) : Prop := ∀ j, j < 64 → 0 ≤ f j ∧ f j ≤ 255
theorem sec_size (f : Nat → Int) : (sec f).size = 64 := by unfold sec; rw [strOfNums_size]; simp
theorem sec_ext {f g : Nat → Int} (h : ∀ j, j < 64 → f j = g j) : sec f = sec g := by
  unfold sec
  congr 1
  apply List.map_congr_left
  intro j hj
  exact h j (List.mem_range.1 hj)
theorem byD_nums (l : List Int) (h : ∀ x ∈ l, 0 ≤ x ∧ x ≤ 255) (j : Nat) (hj : j < l.length) : byD (strOfNums l) j = l[j] := by
  unfold byD
  rw [strOfNums_data, List.getD_eq_getElem?_getD, List.getElem?_map, List.getElem?_eq_getElem hj]
  have := h l[j] (List.getElem_mem hj)
  simp only [Option.map_some, Option.getD_some, UInt8.toNat_ofNat']
  omega
theorem byD_sec {f : Nat → Int} (h : SecF f) {j : Nat} (hj : j < 64) : byD (sec f) j = f j := by
  unfold sec
  rw [byD_nums _ _ _ (by simpa using hj)]
  · simp
  · intro x hx
    obtain ⟨i, hi, rfl⟩ := List.mem_map.1 hx
    exact h i (List.mem_range.1 hi)
theorem sec_inj {f g : Nat → Int} (hf : SecF f) (hg : SecF g) (h : sec f = sec g) : ∀ j, j < 64 → f j = g j := fun j hj => by
  rw [← byD_sec hf hj, h, byD_sec hg hj]
/-- two texts of one length with the same bytes are the same -/
theorem byD_ext {a b : ByteArray} (hs : a.size = b.size) (h : ∀ j, j < a.size → byD a j = byD b j) : a = b := by
  apply Go.WideShapes.bytes_inj
  have ha : a.data.toList.length = a.size := by simp
  have hb : b.data.toList.length = b.size := by simp
  apply List.ext_getElem (by omega)
  intro i h1 h2
  have := h i (by omega)
  unfold byD at this
  rw [List.getD_eq_getElem?_getD, List.getD_eq_getElem?_getD, List.getElem?_eq_getElem h1, List.getElem?_eq_getElem h2] at this
  simp only [Option.getD_some] at this
  exact UInt8.toNat_inj.1 (by omega)
theorem sec_of {s : ByteArray} (hs : s.size = 64) : sec (byD s) = s := by
  apply byD_ext (by rw [sec_size, hs])
  intro j hj
  rw [sec_size] at hj
  exact byD_sec (fun j _ => byD_bd s j) hj
theorem fill_sec (s : ByteArray) : SecF (byD s) := fun j _ => byD_bd s j
theorem byD_app (a b : ByteArray) (j : Nat) : byD (a ++ b) j = if j < a.size then byD a j else byD b (j - a.size) := by
  have ha : a.data.toList.length = a.size := by simp
  unfold byD
  have e : (a ++ b).data.toList = a.data.toList ++ b.data.toList := by simp [ByteArray.data_append]
  rw [e]
  simp only [List.getD_eq_getElem?_getD, List.getElem?_append, ha]
  split <;> rfl
theorem byD_cut (s : ByteArray) (a b : Nat) (j : Nat) (hj : a + j < b) : byD (s.extract a b) j = byD s (a + j) := by
  unfold byD
  have e : (s.extract a b).data.toList = (s.data.toList.drop a).take (b - a) := by
    simp [ByteArray.data_extract, Array.toList_extract, List.extract_eq_take_drop]
  rw [e]
  simp only [List.getD_eq_getElem?_getD]
  rw [List.getElem?_take, if_pos (by omega), List.getElem?_drop]
/-- the first k bytes of one, the rest of another -/
def tornF (k : Nat) (f g : Nat → Int) : Nat → Int := fun j => if j < k then f j else g j
theorem torn_sec {k : Nat} {f g : Nat → Int} (hf : SecF f) (hg : SecF g) : SecF (tornF k f g) := fun j hj => by
  unfold tornF; split
  · exact hf j hj
  · exact hg j hj
theorem sec_torn {k : Nat} {f g : Nat → Int} (hf : SecF f) (hg : SecF g) (hk : k ≤ 64) : (sec f).extract 0 k ++ (sec g).extract k 64 = sec (tornF k f g) := by
  have s1 : ((sec f).extract 0 k).size = k := by rw [ByteArray.size_extract, sec_size]; omega
  have s2 : ((sec g).extract k 64).size = 64 - k := by rw [ByteArray.size_extract, sec_size]; omega
  apply byD_ext
  · rw [ByteArray.size_append, s1, s2, sec_size]; omega
  · intro j hj
    rw [ByteArray.size_append, s1, s2] at hj
    rw [byD_app, s1, byD_sec (torn_sec hf hg) (by omega)]
    unfold tornF
    split
    · rw [byD_cut _ _ _ _ (by omega), Nat.zero_add, byD_sec hf (by omega)]
    · rw [byD_cut _ _ _ _ (by omega), byD_sec hg (by omega)]
      congr 1; omega

/-- a disk: how many sectors; what is safe, what was written since, whether it was; what counts -/
structure Dk where
  n : Nat
  sf : Nat → Nat → Int
  nw : Nat → Nat → Int
  is : Nat → Bool
  arm : Nat
  calls : Nat
  down : Bool
def nowD (d : Dk) (i : Nat) : Nat → Int := if d.is i then d.nw i else d.sf i
def upd {α : Type} (f : Nat → α) (i : Nat) (x : α) : Nat → α := fun k => if k = i then x else f k
theorem upd_at {α : Type} (f : Nat → α) (i : Nat) (x : α) : upd f i x i = x := by simp [upd]
theorem upd_else {α : Type} (f : Nat → α) (i k : Nat) (x : α) (h : k ≠ i) : upd f i x k = f k := by simp [upd, h]
def newD (n : Nat) : Dk := ⟨n, fun _ _ => 0, fun _ _ => 0, fun _ => false, 0, 0, false⟩
/-- a call that counts: it goes down at this one, or not -/
def countD (d : Dk) : Dk := if d.arm = 1 then { d with calls := d.calls + 1, down := true, arm := 0 } else { d with calls := d.calls + 1, arm := d.arm - 1 }
def countE (d : Dk) : Int := if d.arm = 1 then 13 else 0
def writeD (d : Dk) (i : Int) (s : ByteArray) : Dk := if d.down then d else if i < 0 ∨ (d.n : Int) ≤ i then d else countD { d with nw := upd d.nw i.toNat (byD s), is := upd d.is i.toNat true }
def writeE (d : Dk) (i : Int) : Int := if d.down then 13 else if i < 0 ∨ (d.n : Int) ≤ i then 3 else countE d
def safeD (d : Dk) : Dk := { d with sf := fun i => nowD d i, is := fun _ => false }
def syncD (d : Dk) : Dk := if d.down then d else if d.arm = 1 then countD d else safeD (countD d)
def syncE (d : Dk) : Int := if d.down then 13 else countE d
def readE (d : Dk) (i : Int) : Int := if d.down then 13 else if i < 0 ∨ (d.n : Int) ≤ i then 3 else 0
def readS (d : Dk) (i : Int) : ByteArray := if d.down then ByteArray.empty else if i < 0 ∨ (d.n : Int) ≤ i then ByteArray.empty else sec (nowD d i.toNat)
def armD (d : Dk) (n : Int) : Dk := if d.down then d else if n < 1 then d else { d with arm := n.toNat }
def armE (d : Dk) (n : Int) : Int := if d.down then 13 else if n < 1 then 2 else 0
/-- how many of the first i sectors are loose -/
def looseN (is : Nat → Bool) : Nat → Nat
  | 0 => 0
  | i + 1 => looseN is i + (if is i then 1 else 0)
theorem looseN_le (is : Nat → Bool) (i : Nat) : looseN is i ≤ i := by
  induction i with
  | zero => exact Nat.le_refl _
  | succ i ih => simp only [looseN]; split <;> omega
theorem looseN_none {is : Nat → Bool} (h : ∀ i, is i = false) (n : Nat) : looseN is n = 0 := by
  induction n with
  | zero => rfl
  | succ n ih => simp [looseN, ih, h n]
theorem looseN_ext {a b : Nat → Bool} {n : Nat} (h : ∀ i, i < n → a i = b i) : looseN a n = looseN b n := by
  induction n with
  | zero => rfl
  | succ n ih => simp only [looseN]; rw [ih fun i hi => h i (by omega), h n (by omega)]
/-- how much of the j-th loose one stays -/
def keepN (keep : List Bool) (torn bytes : Int) (j : Nat) : Nat :=
  if (j : Int) = torn then (if 0 < bytes then (bytes % 65).toNat else 0) else (if keep.getD j false then 64 else 0)
theorem keepN_le (keep : List Bool) (torn bytes : Int) (j : Nat) : keepN keep torn bytes j ≤ 64 := by
  unfold keepN; split <;> split <;> omega
def crashF (d : Dk) (keep : List Bool) (torn bytes : Int) (i : Nat) : Nat → Int :=
  if d.is i then tornF (keepN keep torn bytes (looseN d.is i)) (d.nw i) (d.sf i) else d.sf i
def crashD (d : Dk) (keep : List Bool) (torn bytes : Int) : Dk :=
  { d with sf := crashF d keep torn bytes, is := fun _ => false, down := false, arm := 0 }

/-- a disk that may be -/
structure OkD (d : Dk) : Prop where
  n : 1 ≤ d.n ∧ d.n ≤ 4096
  sf : ∀ i, SecF (d.sf i)
  nw : ∀ i, SecF (d.nw i)
theorem OkD.now {d : Dk} (h : OkD d) (i : Nat) : SecF (nowD d i) := by
  unfold nowD; split
  · exact h.nw i
  · exact h.sf i
theorem OkD.new {n : Nat} (h : 1 ≤ n ∧ n ≤ 4096) : OkD (newD n) := ⟨h, fun _ _ _ => by simp [newD], fun _ _ _ => by simp [newD]⟩
theorem OkD.count {d : Dk} (h : OkD d) : OkD (countD d) := by unfold countD; split <;> exact ⟨h.n, h.sf, h.nw⟩
theorem OkD.write {d : Dk} (h : OkD d) (i : Int) (s : ByteArray) : OkD (writeD d i s) := by
  unfold writeD; split
  · exact h
  · split
    · exact h
    · refine OkD.count ⟨h.n, h.sf, fun k => ?_⟩
      show SecF (upd d.nw i.toNat (byD s) k)
      unfold upd; split
      · exact fill_sec s
      · exact h.nw k
theorem OkD.safe {d : Dk} (h : OkD d) : OkD (safeD d) := ⟨h.n, fun i => h.now i, h.nw⟩
theorem OkD.sync {d : Dk} (h : OkD d) : OkD (syncD d) := by
  unfold syncD; split
  · exact h
  · split
    · exact h.count
    · exact h.count.safe
theorem OkD.arm {d : Dk} (h : OkD d) (n : Int) : OkD (armD d n) := by
  unfold armD; split
  · exact h
  · split
    · exact h
    · exact ⟨h.n, h.sf, h.nw⟩
theorem OkD.crash {d : Dk} (h : OkD d) (keep : List Bool) (torn bytes : Int) : OkD (crashD d keep torn bytes) := by
  refine ⟨h.n, fun i => ?_, h.nw⟩
  show SecF (crashF d keep torn bytes i)
  unfold crashF; split
  · exact torn_sec (h.nw i) (h.sf i)
  · exact h.sf i
theorem count_n (d : Dk) : (countD d).n = d.n := by unfold countD; split <;> rfl
theorem write_n (d : Dk) (i : Int) (s : ByteArray) : (writeD d i s).n = d.n := by
  unfold writeD; split
  · rfl
  · split
    · rfl
    · rw [count_n]
theorem sync_n (d : Dk) : (syncD d).n = d.n := by
  unfold syncD; split
  · rfl
  · split
    · exact count_n d
    · exact count_n d
theorem arm_n (d : Dk) (n : Int) : (armD d n).n = d.n := by unfold armD; split <;> first | rfl | (split <;> rfl)
theorem crash_n (d : Dk) (keep : List Bool) (torn bytes : Int) : (crashD d keep torn bytes).n = d.n := rfl
/-- a second crash changes nothing that can be seen -/
theorem crash_again (d : Dk) (keep keep2 : List Bool) (torn bytes torn2 bytes2 : Int) (i : Nat) : crashF (crashD d keep torn bytes) keep2 torn2 bytes2 i = crashF d keep torn bytes i := rfl

end Go.Proofs.Ytdmlmjmdpmmcgaa
namespace Go.Proofs.Ytdmlmjmdpmmcgaa
open Ieee

/-- the lower 63 bits -/
def rung (x : Nat) : Nat := x % 9223372036854775808
/-- is it a number (an infinity too)? -/
def isNum (x : Nat) : Prop := rung x ≤ 9218868437227405312
instance (x : Nat) : Decidable (isNum x) := by unfold isNum; exact inferInstance
/-- is it a finite number? -/
def isFin (x : Nat) : Prop := rung x < 9218868437227405312
/-- the sign -/
def sgn (x : Nat) : Bool := x / 9223372036854775808 % 2 == 1
/-- the place in the order of floats -/
def ford (x : Nat) : Int := if sgn x then -(rung x : Int) else (rung x : Int)
/-- the magnitude of a rung, in units of the least one -/
def rv (r : Nat) : Nat := if r < 4503599627370496 then r else (4503599627370496 + r % 4503599627370496) * 2 ^ (r / 4503599627370496 - 1)
/-- the value, in units of the least one -/
def fval (x : Nat) : Int := if sgn x then -(rv (rung x) : Int) else (rv (rung x) : Int)

theorem rv_lt {a b : Nat} (h : a < b) : rv a < rv b := by
  unfold rv
  by_cases hb : b < 4503599627370496
  · rw [if_pos hb, if_pos (by omega)]; exact h
  · rw [if_neg hb]
    have hq : 0 < 2 ^ (b / 4503599627370496 - 1) := Nat.two_pow_pos _
    have hb1 : 4503599627370496 * 2 ^ (b / 4503599627370496 - 1) ≤ (4503599627370496 + b % 4503599627370496) * 2 ^ (b / 4503599627370496 - 1) := Nat.mul_le_mul_right _ (by omega)
    by_cases ha : a < 4503599627370496
    · rw [if_pos ha]
      have : 4503599627370496 * 1 ≤ 4503599627370496 * 2 ^ (b / 4503599627370496 - 1) := Nat.mul_le_mul_left _ hq
      omega
    · rw [if_neg ha]
      by_cases e : a / 4503599627370496 = b / 4503599627370496
      · rw [e]
        exact Nat.mul_lt_mul_of_pos_right (by omega) hq
      · have hlt : a / 4503599627370496 + 1 ≤ b / 4503599627370496 := by omega
        have ha1 : (4503599627370496 + a % 4503599627370496) * 2 ^ (a / 4503599627370496 - 1) < (2 * 4503599627370496) * 2 ^ (a / 4503599627370496 - 1) := Nat.mul_lt_mul_of_pos_right (by omega) (Nat.two_pow_pos _)
        have e2 : (2 * 4503599627370496) * 2 ^ (a / 4503599627370496 - 1) = 4503599627370496 * 2 ^ (a / 4503599627370496) := by
          have : a / 4503599627370496 = (a / 4503599627370496 - 1) + 1 := by omega
          rw [show 2 ^ (a / 4503599627370496) = 2 ^ (a / 4503599627370496 - 1 + 1) from by rw [← this], Nat.pow_succ]
          omega
        have h3 : 2 ^ (a / 4503599627370496) ≤ 2 ^ (b / 4503599627370496 - 1) := Nat.pow_le_pow_right (by omega) (by omega)
        have h4 := Nat.mul_le_mul_left 4503599627370496 h3
        omega

theorem rv_zero : rv 0 = 0 := by decide
theorem rv_le {a b : Nat} (h : a ≤ b) : rv a ≤ rv b := by
  rcases Nat.lt_or_eq_of_le h with h | rfl
  · exact Nat.le_of_lt (rv_lt h)
  · exact Nat.le_refl _

theorem rv_lt_iff {a b : Nat} : rv a < rv b ↔ a < b := by
  constructor
  · intro h
    rcases Nat.lt_or_ge a b with h2 | h2
    · exact h2
    · have := rv_le h2; omega
  · exact rv_lt
theorem rv_pos {a : Nat} (h : 0 < a) : 0 < rv a := by have := rv_lt h; rw [rv_zero] at this; exact this

theorem fval_lt_iff (x y : Nat) : fval x < fval y ↔ ford x < ford y := by
  unfold fval ford
  have h1 := @rv_lt_iff (rung x) (rung y)
  have h2 := @rv_lt_iff (rung y) (rung x)
  have h3 := @rv_pos (rung x)
  have h4 := @rv_pos (rung y)
  have z := rv_zero
  by_cases sx : sgn x <;> by_cases sy : sgn y <;> simp only [sx, sy, if_true, if_false, Bool.false_eq_true]
  · omega
  · constructor
    · intro h
      rcases Nat.eq_zero_or_pos (rung x) with e | e
      · rcases Nat.eq_zero_or_pos (rung y) with e2 | e2
        · rw [e, e2, z] at h; omega
        · omega
      · omega
    · intro h
      rcases Nat.eq_zero_or_pos (rung x) with e | e
      · rcases Nat.eq_zero_or_pos (rung y) with e2 | e2
        · omega
        · have := h4 e2; omega
      · have := h3 e; omega
  · constructor
    · intro h; omega
    · intro h; omega
  · omega

theorem ford_word (s : Bool) (r : Nat) (h : r < 9223372036854775808) : ford (double.word s r) = if s then -(r : Int) else (r : Int) := by
  have hw : double.word s r = if s then 9223372036854775808 + r else r := rfl
  rw [hw]
  unfold ford sgn rung
  cases s
  · have : r / 9223372036854775808 % 2 = 0 := by omega
    have e : r % 9223372036854775808 = r := by omega
    simp [this, e]
  · have e1 : (9223372036854775808 + r) / 9223372036854775808 % 2 = 1 := by omega
    have e : (9223372036854775808 + r) % 9223372036854775808 = r := by omega
    rw [if_pos rfl, e1, e]
    rfl

theorem read_fin (x : Nat) (h : isFin x) : double.read x = if rung x < 4503599627370496 then .number (sgn x) (rung x) (-1074) else .number (sgn x) (4503599627370496 + rung x % 4503599627370496) (-1074 + ((rung x / 4503599627370496 - 1 : Nat) : Int)) := by
  have e : double.read x = (let neg := x / 9223372036854775808 % 2 == 1
      let r := x % 9223372036854775808
      if r < 4503599627370496 then Datum.number neg r (-1074)
      else if r < 9218868437227405312 then .number neg (4503599627370496 + r % 4503599627370496) (-1074 + (r / 4503599627370496 - 1 : Nat))
      else if r = 9218868437227405312 then .infinity neg else .nan neg (r - 9218868437227405312)) := rfl
  rw [e]
  unfold isFin rung at h
  unfold rung sgn
  dsimp only
  by_cases c : x % 9223372036854775808 < 4503599627370496
  · rw [if_pos c, if_pos c]
  · rw [if_neg c, if_neg c, if_pos h]

theorem read_inf (x : Nat) (h : rung x = 9218868437227405312) : double.read x = .infinity (sgn x) := by
  have e : double.read x = (let neg := x / 9223372036854775808 % 2 == 1
      let r := x % 9223372036854775808
      if r < 4503599627370496 then Datum.number neg r (-1074)
      else if r < 9218868437227405312 then .number neg (4503599627370496 + r % 4503599627370496) (-1074 + (r / 4503599627370496 - 1 : Nat))
      else if r = 9218868437227405312 then .infinity neg else .nan neg (r - 9218868437227405312)) := rfl
  rw [e]
  unfold rung at h
  unfold sgn
  dsimp only
  rw [if_neg (by omega), if_neg (by omega), if_pos h]

theorem read_nan (x : Nat) (h : ¬ isNum x) : ∃ s f, double.read x = .nan s f := by
  have e : double.read x = (let neg := x / 9223372036854775808 % 2 == 1
      let r := x % 9223372036854775808
      if r < 4503599627370496 then Datum.number neg r (-1074)
      else if r < 9218868437227405312 then .number neg (4503599627370496 + r % 4503599627370496) (-1074 + (r / 4503599627370496 - 1 : Nat))
      else if r = 9218868437227405312 then .infinity neg else .nan neg (r - 9218868437227405312)) := rfl
  rw [e]
  unfold isNum rung at h
  dsimp only
  rw [if_neg (by omega), if_neg (by omega), if_neg (by omega)]
  exact ⟨_, _, rfl⟩

/-- a finite word is a number m * 2 ^ k in units of the least one -/
theorem read_num (x : Nat) (h : isFin x) : ∃ m k : Nat, double.read x = .number (sgn x) m (-1074 + (k : Int)) ∧ m * 2 ^ k = rv (rung x) := by
  rw [read_fin x h]
  unfold rv
  split
  · exact ⟨rung x, 0, by simp, by simp⟩
  · exact ⟨_, _, rfl, rfl⟩

theorem signed_mul (s : Bool) (m k l : Nat) : signed s m k * ((2 ^ l : Nat) : Int) = if s then -((m * 2 ^ (k + l) : Nat) : Int) else ((m * 2 ^ (k + l) : Nat) : Int) := by
  unfold signed
  rw [Nat.shiftLeft_eq, Nat.pow_add, ← Nat.mul_assoc]
  cases s <;> simp [Int.neg_mul]

theorem compare_int (a b : Int) : compare a b = if a < b then Ordering.lt else if a = b then .eq else .gt := rfl
theorem compare_nat (a b : Nat) : compare a b = if a < b then Ordering.lt else if a = b then .eq else .gt := rfl

theorem compare_scale (a b : Int) (c : Nat) (hc : 0 < c) : compare (a * (c : Int)) (b * (c : Int)) = compare a b := by
  rw [compare_int, compare_int]
  have hc' : (0 : Int) < (c : Int) := by omega
  have h1 : a * (c : Int) < b * (c : Int) ↔ a < b := Int.mul_lt_mul_right hc'
  have h2 : a * (c : Int) = b * (c : Int) ↔ a = b := ⟨fun h => Int.eq_of_mul_eq_mul_right (by omega) h, fun h => by rw [h]⟩
  simp only [h1, h2]

theorem compare_ford (x y : Nat) : compare (fval x) (fval y) = compare (ford x) (ford y) := by
  rw [compare_int, compare_int]
  have h1 := fval_lt_iff x y
  have h2 := fval_lt_iff y x
  have h3 : fval x = fval y ↔ ford x = ford y := by omega
  simp only [h1, h3]

theorem order_nan_left (x y : Nat) (h : ¬ isNum x) : double.order x y = none := by
  obtain ⟨s, f, e⟩ := read_nan x h
  unfold Format.order
  rw [e]
  unfold Datum.order
  rfl
theorem order_nan_right (x y : Nat) (h : ¬ isNum y) : double.order x y = none := by
  obtain ⟨s, f, e⟩ := read_nan y h
  unfold Format.order
  rw [e]
  cases double.read x <;> rfl

theorem sgn_cases (x : Nat) : sgn x = true ∨ sgn x = false := by cases sgn x <;> simp

theorem ford_fin (x : Nat) (h : isFin x) : -9218868437227405312 < ford x ∧ ford x < 9218868437227405312 := by
  unfold ford isFin at *
  split <;> omega

theorem order_num (x y : Nat) (hx : isNum x) (hy : isNum y) : double.order x y = some (compare (ford x) (ford y)) := by
  unfold isNum at hx hy
  unfold Format.order
  by_cases fx : isFin x
  · by_cases fy : isFin y
    · obtain ⟨m, k, e, hm⟩ := read_num x fx
      obtain ⟨n, l, e2, hn⟩ := read_num y fy
      rw [e, e2]
      unfold Datum.order
      dsimp only
      congr 1
      rw [← compare_ford, ← compare_scale _ _ (2 ^ (min k l)) (Nat.two_pow_pos _), signed_mul, signed_mul]
      have a1 : (-1074 + (k : Int) - min (-1074 + (k : Int)) (-1074 + (l : Int))).toNat + min k l = k := by omega
      have a2 : (-1074 + (l : Int) - min (-1074 + (k : Int)) (-1074 + (l : Int))).toNat + min k l = l := by omega
      rw [a1, a2, hm, hn]
      unfold fval
      rfl
    · have iy : rung y = 9218868437227405312 := by unfold isFin at fy; omega
      obtain ⟨m, k, e, _⟩ := read_num x fx
      rw [e, read_inf y iy]
      have b := ford_fin x fx
      have c : ford y = if sgn y then -9218868437227405312 else 9218868437227405312 := by unfold ford; rw [iy]; rfl
      rw [c, compare_int]
      unfold Datum.order
      rcases sgn_cases y with s | s <;> rw [s] <;> simp only [Bool.false_eq_true, if_false, if_true]
      · rw [if_neg (by omega), if_neg (by omega)]
      · rw [if_pos (by omega)]
  · have ix : rung x = 9218868437227405312 := by unfold isFin at fx; omega
    have d : ford x = if sgn x then -9218868437227405312 else 9218868437227405312 := by unfold ford; rw [ix]; rfl
    rw [read_inf x ix]
    by_cases fy : isFin y
    · obtain ⟨m, k, e, _⟩ := read_num y fy
      rw [e]
      have b := ford_fin y fy
      rw [d, compare_int]
      unfold Datum.order
      rcases sgn_cases x with s | s <;> rw [s] <;> simp only [Bool.false_eq_true, if_false, if_true]
      · rw [if_pos (by omega)]
      · rw [if_neg (by omega), if_neg (by omega)]
    · have iy : rung y = 9218868437227405312 := by unfold isFin at fy; omega
      have c : ford y = if sgn y then -9218868437227405312 else 9218868437227405312 := by unfold ford; rw [iy]; rfl
      rw [read_inf y iy, c, d]
      unfold Datum.order
      rcases sgn_cases x with s | s <;> rcases sgn_cases y with t | t <;> rw [s, t] <;> rfl

/- rounding -/

/-- a magnitude in units of the least one, rounded to a rung -/
def rr (u : Nat) : Nat := (u.log2 - 52) * 4503599627370496 + Toward.even.cut false u (u.log2 - 52)

theorem cut_even (neg : Bool) (n d : Nat) (h : d ≤ n.log2 + 2) : Toward.even.cut neg n d = n / 2 ^ d + (decide (2 ^ d < 2 * (n % 2 ^ d)) || (2 ^ d == 2 * (n % 2 ^ d) && n / 2 ^ d % 2 == 1)).toNat := by
  unfold Toward.cut
  dsimp only
  rw [Nat.min_eq_left h, Nat.one_shiftLeft]

theorem cut_sign (neg : Bool) (n d : Nat) : Toward.even.cut neg n d = Toward.even.cut false n d := rfl

theorem cut_zero (neg : Bool) (n : Nat) : Toward.even.cut neg n 0 = n := by
  rw [cut_even _ _ _ (by omega)]
  simp [Nat.mod_one]

theorem log2_mul_pow (m k : Nat) (h : m ≠ 0) : (m * 2 ^ k).log2 = m.log2 + k := by
  induction k with
  | zero => simp
  | succ k ih =>
    rw [Nat.pow_succ, ← Nat.mul_assoc, Nat.mul_comm _ 2, Nat.log2_two_mul (by have := Nat.two_pow_pos k; exact Nat.mul_ne_zero h (by omega)), ih]
    omega

/-- more digits, all 0, make no difference -/
theorem cut_scale (neg : Bool) (n d k : Nat) (h : d ≤ n.log2 + 2) (hn : n ≠ 0) : Toward.even.cut neg (n * 2 ^ k) (d + k) = Toward.even.cut neg n d := by
  rw [cut_even _ _ _ h, cut_even _ _ _ (by rw [log2_mul_pow n k hn]; omega)]
  have hp := Nat.two_pow_pos k
  rw [Nat.pow_add, Nat.mul_div_mul_right _ _ hp, Nat.mul_mod_mul_right]
  have e1 : (2 ^ d * 2 ^ k < 2 * (n % 2 ^ d * 2 ^ k)) ↔ (2 ^ d < 2 * (n % 2 ^ d)) := by
    rw [← Nat.mul_assoc]; exact Nat.mul_lt_mul_right hp
  have e2 : (2 ^ d * 2 ^ k = 2 * (n % 2 ^ d * 2 ^ k)) ↔ (2 ^ d = 2 * (n % 2 ^ d)) := by
    rw [← Nat.mul_assoc]; exact Nat.mul_left_inj (by omega)
  have e3 : (2 ^ d * 2 ^ k == 2 * (n % 2 ^ d * 2 ^ k)) = (2 ^ d == 2 * (n % 2 ^ d)) := by
    rw [Bool.eq_iff_iff]; simp only [beq_iff_eq]; exact e2
  rw [e3]
  simp only [e1]

theorem nearest_dbl (neg : Bool) (mag k : Nat) : double.nearest neg mag (-1074 + (k : Int)) = double.word neg (min (rr (mag * 2 ^ k)) 9218868437227405312) := by
  have e0 : double.nearest neg mag (-1074 + (k : Int)) = (if mag = 0 then double.word neg 0 else
      double.word neg (min ((max (-1074 + (k : Int) + (mag.log2 : Int) - 52) (-1074) - (-1074)).toNat * 4503599627370496 + Toward.even.cut neg (mag <<< (-1074 + (k : Int) - max (-1074 + (k : Int) + (mag.log2 : Int) - 52) (-1074)).toNat) (max (-1074 + (k : Int) + (mag.log2 : Int) - 52) (-1074) - (-1074 + (k : Int))).toNat) 9218868437227405312)) := rfl
  rw [e0]
  by_cases h : mag = 0
  · subst h
    rw [if_pos rfl]
    simp [rr, cut_even]
  · rw [if_neg h]
    unfold rr
    rw [log2_mul_pow mag k h]
    have a1 : (max (-1074 + (k : Int) + (mag.log2 : Int) - 52) (-1074) - (-1074)).toNat = mag.log2 + k - 52 := by omega
    rw [a1, cut_sign]
    congr 3
    rw [Nat.shiftLeft_eq]
    by_cases hk : mag.log2 ≤ 52
    · -- place is not below the last digit
      have b1 : (max (-1074 + (k : Int) + (mag.log2 : Int) - 52) (-1074) - (-1074 + (k : Int))).toNat = 0 := by omega
      rw [b1, cut_zero]
      have b2 : k = (-1074 + (k : Int) - max (-1074 + (k : Int) + (mag.log2 : Int) - 52) (-1074)).toNat + (mag.log2 + k - 52) := by omega
      have b3 : mag * 2 ^ k = (mag * 2 ^ (-1074 + (k : Int) - max (-1074 + (k : Int) + (mag.log2 : Int) - 52) (-1074)).toNat) * 2 ^ (mag.log2 + k - 52) := by
        rw [Nat.mul_assoc, ← Nat.pow_add, ← b2]
      rw [b3]
      have := cut_scale false (mag * 2 ^ (-1074 + (k : Int) - max (-1074 + (k : Int) + (mag.log2 : Int) - 52) (-1074)).toNat) 0 (mag.log2 + k - 52) (by omega) (by have := Nat.two_pow_pos (-1074 + (k : Int) - max (-1074 + (k : Int) + (mag.log2 : Int) - 52) (-1074)).toNat; exact Nat.mul_ne_zero h (by omega))
      rw [Nat.zero_add, cut_zero] at this
      exact this.symm
    · have b1 : (-1074 + (k : Int) - max (-1074 + (k : Int) + (mag.log2 : Int) - 52) (-1074)).toNat = 0 := by omega
      have b2 : (max (-1074 + (k : Int) + (mag.log2 : Int) - 52) (-1074) - (-1074 + (k : Int))).toNat = mag.log2 - 52 := by omega
      rw [b1, b2, Nat.pow_zero, Nat.mul_one]
      have b3 : mag.log2 + k - 52 = (mag.log2 - 52) + k := by omega
      rw [b3]
      exact (cut_scale false mag (mag.log2 - 52) k (by omega) h).symm

theorem log2_bd (u : Nat) (h : u ≠ 0) : 2 ^ u.log2 ≤ u ∧ u < 2 ^ (u.log2 + 1) := ⟨Nat.log2_self_le h, Nat.lt_log2_self⟩

/-- round to even: in order -/
theorem even_mono (g a b : Nat) (_hg : 0 < g) (h : a ≤ b) : a / g + (decide (g < 2 * (a % g)) || (g == 2 * (a % g) && a / g % 2 == 1)).toNat ≤ b / g + (decide (g < 2 * (b % g)) || (g == 2 * (b % g) && b / g % 2 == 1)).toNat := by
  have hq : a / g ≤ b / g := Nat.div_le_div_right h
  have h1 : ∀ c : Bool, c.toNat ≤ 1 := fun c => by cases c <;> decide
  rcases Nat.lt_or_eq_of_le hq with hlt | heq
  · have := h1 (decide (g < 2 * (a % g)) || (g == 2 * (a % g) && a / g % 2 == 1))
    omega
  · have ea := Nat.div_add_mod a g
    have eb := Nat.div_add_mod b g
    rw [heq] at ea
    have hr : a % g ≤ b % g := by omega
    rw [heq]
    refine Nat.add_le_add_left ?_ _
    by_cases c : g < 2 * (b % g)
    · rw [show decide (g < 2 * (b % g)) = true from decide_eq_true c, Bool.true_or]
      exact h1 _
    · have c1 : decide (g < 2 * (a % g)) = false := decide_eq_false (by omega)
      rw [c1, decide_eq_false c, Bool.false_or, Bool.false_or]
      by_cases d : g = 2 * (a % g)
      · have d2 : g = 2 * (b % g) := by omega
        have d1' : (g == 2 * (a % g)) = true := beq_iff_eq.2 d
        have d2' : (g == 2 * (b % g)) = true := beq_iff_eq.2 d2
        rw [d1', d2']
        exact Nat.le_refl _
      · have d1 : (g == 2 * (a % g)) = false := by simpa using d
        rw [d1, Bool.false_and]
        exact Nat.zero_le _

theorem log2_mono {a b : Nat} (h : a ≤ b) : a.log2 ≤ b.log2 := by
  by_cases ha : a = 0
  · subst ha; simp
  · have hb : b ≠ 0 := by omega
    rcases Nat.lt_or_ge b.log2 a.log2 with c | c
    · have := (log2_bd a ha).1
      have := (log2_bd b hb).2
      have : 2 ^ (b.log2 + 1) ≤ 2 ^ a.log2 := Nat.pow_le_pow_right (by omega) (by omega)
      omega
    · exact c

theorem rr_zero : rr 0 = 0 := by decide

theorem rr_mono {a b : Nat} (h : a ≤ b) : rr a ≤ rr b := by
  have hl := log2_mono h
  unfold rr
  rw [cut_even _ _ _ (by omega), cut_even _ _ _ (by omega)]
  by_cases e : a.log2 - 52 = b.log2 - 52
  · rw [e]
    refine Nat.add_le_add_left ?_ _
    exact even_mono _ _ _ (Nat.two_pow_pos _) h
  · have hlt : a.log2 - 52 + 1 ≤ b.log2 - 52 := by omega
    have hb : b ≠ 0 := by intro hb; subst hb; simp at hlt
    have b1 : 2 ^ 52 ≤ b / 2 ^ (b.log2 - 52) := by
      rw [Nat.le_div_iff_mul_le (Nat.two_pow_pos _), ← Nat.pow_add]
      have : 52 + (b.log2 - 52) = b.log2 := by omega
      rw [this]
      exact (log2_bd b hb).1
    have a1 : a / 2 ^ (a.log2 - 52) < 2 ^ 53 := by
      by_cases ha : a = 0
      · subst ha; simp
      rw [Nat.div_lt_iff_lt_mul (Nat.two_pow_pos _), ← Nat.pow_add]
      have := (log2_bd a ha).2
      have : 2 ^ (a.log2 + 1) ≤ 2 ^ (53 + (a.log2 - 52)) := Nat.pow_le_pow_right (by omega) (by omega)
      omega
    have h1 : ∀ c : Bool, c.toNat ≤ 1 := fun c => by cases c <;> decide
    have c1 := h1 (decide (2 ^ (a.log2 - 52) < 2 * (a % 2 ^ (a.log2 - 52))) || (2 ^ (a.log2 - 52) == 2 * (a % 2 ^ (a.log2 - 52)) && a / 2 ^ (a.log2 - 52) % 2 == 1))
    generalize (decide (2 ^ (a.log2 - 52) < 2 * (a % 2 ^ (a.log2 - 52))) || (2 ^ (a.log2 - 52) == 2 * (a % 2 ^ (a.log2 - 52)) && a / 2 ^ (a.log2 - 52) % 2 == 1)).toNat = A at *
    generalize (decide (2 ^ (b.log2 - 52) < 2 * (b % 2 ^ (b.log2 - 52))) || (2 ^ (b.log2 - 52) == 2 * (b % 2 ^ (b.log2 - 52)) && b / 2 ^ (b.log2 - 52) % 2 == 1)).toNat = B at *
    generalize a / 2 ^ (a.log2 - 52) = qa at *
    generalize b / 2 ^ (b.log2 - 52) = qb at *
    have : (a.log2 - 52 + 1) * 4503599627370496 ≤ (b.log2 - 52) * 4503599627370496 := Nat.mul_le_mul_right _ hlt
    omega

theorem rr_pos {u : Nat} (h : 0 < u) : 0 < rr u := by
  have h1 : rr 1 = 1 := by decide
  have := rr_mono (show 1 ≤ u from h)
  omega

/-- the place in the order of a rounded value -/
def rnd (v : Int) : Int := if v < 0 then -((min (rr v.natAbs) 9218868437227405312 : Nat) : Int) else ((min (rr v.natAbs) 9218868437227405312 : Nat) : Int)

theorem rnd_mono {a b : Int} (h : a ≤ b) : rnd a ≤ rnd b := by
  unfold rnd
  by_cases ha : a < 0 <;> by_cases hb : b < 0 <;> simp only [ha, hb, if_true, if_false]
  · have := rr_mono (show b.natAbs ≤ a.natAbs by omega); omega
  · omega
  · omega
  · have := rr_mono (show a.natAbs ≤ b.natAbs by omega); omega

theorem sum_fin (x y : Nat) (hx : isFin x) (hy : isFin y) : ∃ r, double.add x y = some r ∧ r < 18446744073709551616 ∧ isNum r ∧ ford r = rnd (fval x + fval y) ∧ (sgn y = false → ford r = 0 → r = 0) := by
  obtain ⟨m, k, e, hm⟩ := read_num x hx
  obtain ⟨n, l, e2, hn⟩ := read_num y hy
  have ht : (signed (sgn x) m (-1074 + (k : Int) - min (-1074 + (k : Int)) (-1074 + (l : Int))).toNat + signed (sgn y) n (-1074 + (l : Int) - min (-1074 + (k : Int)) (-1074 + (l : Int))).toNat) * ((2 ^ (min k l) : Nat) : Int) = fval x + fval y := by
    rw [Int.add_mul, signed_mul, signed_mul]
    have a1 : (-1074 + (k : Int) - min (-1074 + (k : Int)) (-1074 + (l : Int))).toNat + min k l = k := by omega
    have a2 : (-1074 + (l : Int) - min (-1074 + (k : Int)) (-1074 + (l : Int))).toNat + min k l = l := by omega
    rw [a1, a2, hm, hn]
    unfold fval
    rfl
  unfold Format.add
  rw [e, e2]
  unfold Datum.sum
  dsimp only
  generalize signed (sgn x) m (-1074 + (k : Int) - min (-1074 + (k : Int)) (-1074 + (l : Int))).toNat + signed (sgn y) n (-1074 + (l : Int) - min (-1074 + (k : Int)) (-1074 + (l : Int))).toNat = T at ht ⊢
  have hb : min (-1074 + (k : Int)) (-1074 + (l : Int)) = -1074 + ((min k l : Nat) : Int) := by omega
  rw [hb, Option.map_some]
  have hw : ∀ s M, double.write (.number s M (-1074 + ((min k l : Nat) : Int))) = double.nearest s M (-1074 + ((min k l : Nat) : Int)) := fun _ _ => rfl
  rw [hw, nearest_dbl]
  have hp : (0 : Int) < ((2 ^ (min k l) : Nat) : Int) := by have := Nat.two_pow_pos (min k l); omega
  have hmag : T.natAbs * 2 ^ (min k l) = (fval x + fval y).natAbs := by rw [← ht, Int.natAbs_mul, Int.natAbs_natCast]
  have hneg : T < 0 ↔ fval x + fval y < 0 := by
    rw [← ht]
    constructor
    · intro h; exact Int.mul_neg_of_neg_of_pos h hp
    · intro h
      rcases Int.lt_or_le T 0 with c | c
      · exact c
      · have := Int.mul_nonneg c (Int.le_of_lt hp); omega
  have hzero : T = 0 ↔ fval x + fval y = 0 := by
    rw [← ht]
    constructor
    · intro h; rw [h, Int.zero_mul]
    · intro h
      rcases Int.mul_eq_zero.1 h with c | c
      · exact c
      · omega
  rw [hmag]
  generalize fval x + fval y = v at *
  have hlt : min (rr v.natAbs) 9218868437227405312 < 9223372036854775808 := Nat.lt_of_le_of_lt (Nat.min_le_right _ _) (by decide)
  have hle : min (rr v.natAbs) 9218868437227405312 ≤ 9218868437227405312 := Nat.min_le_right _ _
  have hrp := @rr_pos v.natAbs
  clear ht hmag hp hm hn e e2 hb hw
  refine ⟨_, rfl, ?_, ?_, ?_, ?_⟩
  · have : double.word (if T = 0 then sgn x && sgn y else decide (T < 0)) (min (rr v.natAbs) 9218868437227405312) < 2 ^ double.width := double.word_lt _ (by exact hlt)
    exact this
  · unfold isNum rung
    have hwd : ∀ s r, double.word s r = if s then 9223372036854775808 + r else r := fun _ _ => rfl
    rw [hwd]
    clear hneg hzero hrp
    generalize min (rr v.natAbs) 9218868437227405312 = M at hlt hle ⊢
    generalize (if T = 0 then sgn x && sgn y else decide (T < 0)) = S
    cases S
    · rw [if_neg (by decide)]; omega
    · rw [if_pos rfl]; omega
  · rw [ford_word _ _ hlt]
    unfold rnd
    by_cases h0 : T = 0
    · have := hzero.1 h0
      subst this
      simp [rr_zero]
    · rw [if_neg h0]
      by_cases hv : T < 0
      · simp [hv, hneg.1 hv]
      · simp [hv, mt hneg.2 hv]
  · intro hs hf
    rw [ford_word _ _ hlt] at hf
    have hz : min (rr v.natAbs) 9218868437227405312 = 0 := by
      clear hneg hzero hrp
      generalize min (rr v.natAbs) 9218868437227405312 = M at hf ⊢
      split at hf <;> omega
    have hv : v = 0 := by
      clear hneg hzero hf
      rcases Nat.eq_zero_or_pos v.natAbs with c | c
      · omega
      · have := hrp c; generalize rr v.natAbs = R at this hz; omega
    rw [if_pos (hzero.2 hv), hs, Bool.and_false, hz]
    rfl

end Go.Proofs.Ytdmlmjmdpmmcgaa
namespace Go.Proofs.Ytdmlmjmdpmmcgaa

theorem ord_eq (x y : Nat) : (FloatKind.f64.format.order x y == some .eq) = decide (isNum x ∧ isNum y ∧ ford x = ford y) := by
  change (Ieee.double.order x y == some .eq) = _
  by_cases hx : isNum x
  · by_cases hy : isNum y
    · rw [order_num x y hx hy, compare_int]
      by_cases h1 : ford x < ford y
      · rw [if_pos h1]; simp [hx, hy]; omega
      · rw [if_neg h1]
        by_cases h2 : ford x = ford y
        · rw [if_pos h2]; simp [hx, hy, h2]
        · rw [if_neg h2]; simp [hx, hy, h2]
    · rw [order_nan_right x y hy]; simp [hy]
  · rw [order_nan_left x y hx]; simp [hx]
theorem ord_lt (x y : Nat) : (FloatKind.f64.format.order x y == some .lt) = decide (isNum x ∧ isNum y ∧ ford x < ford y) := by
  change (Ieee.double.order x y == some .lt) = _
  by_cases hx : isNum x
  · by_cases hy : isNum y
    · rw [order_num x y hx hy, compare_int]
      by_cases h1 : ford x < ford y
      · rw [if_pos h1]; simp [hx, hy, h1]
      · rw [if_neg h1]
        by_cases h2 : ford x = ford y
        · rw [if_pos h2]; simp [hx, hy, h2]
        · rw [if_neg h2]; simp [hx, hy]; omega
    · rw [order_nan_right x y hy]; simp [hy]
  · rw [order_nan_left x y hx]; simp [hx]
theorem ord_gt (x y : Nat) : (FloatKind.f64.format.order x y == some .gt) = decide (isNum x ∧ isNum y ∧ ford y < ford x) := by
  change (Ieee.double.order x y == some .gt) = _
  by_cases hx : isNum x
  · by_cases hy : isNum y
    · rw [order_num x y hx hy, compare_int]
      by_cases h1 : ford x < ford y
      · rw [if_pos h1]; simp [hx, hy]; omega
      · rw [if_neg h1]
        by_cases h2 : ford x = ford y
        · rw [if_pos h2]; simp [hx, hy, h2]
        · rw [if_neg h2]; simp [hx, hy]; omega
    · rw [order_nan_right x y hy]; simp [hy]
  · rw [order_nan_left x y hx]; simp [hx]

theorem isNum_zero : isNum 0 := by decide
theorem ford_zero : ford 0 = 0 := by decide

end Go.Proofs.Ytdmlmjmdpmmcgaa
