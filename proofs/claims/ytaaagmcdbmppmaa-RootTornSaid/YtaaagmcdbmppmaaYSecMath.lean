/- Sectors: 64 bytes as functions, texts filled up; a disk of them. Plain mathematics. -/
import Derived.Laws.BytesArg
import Derived.Test.YtaaagmcdbmppmaaYBase
namespace Go.Proofs.Ytaaagmcdbmppmaa
open Go.RowKit
set_option maxRecDepth 100000

/-- a text's byte, 0 behind its end -/
def byD (s : ByteArray) (i : Nat) : Int := ((s.data.toList.getD i 0).toNat : Int)
theorem byD_bd (s : ByteArray) (i : Nat) : 0 ≤ byD s i ∧ byD s i ≤ 255 := by
  have := (s.data.toList.getD i 0).toNat_lt
  unfold byD; omega
theorem byD_out {s : ByteArray} {i : Nat} (h : s.size ≤ i) : byD s i = 0 := by
  have hs : s.data.toList.length = s.size := by simp
  unfold byD
  rw [List.getD_eq_getElem?_getD, List.getElem?_eq_none (by omega)]
  rfl
/-- 64 bytes as a text -/
def sec (f : Nat → Int) : ByteArray := strOfNums ((List.range 64).map f)
def SecF (f : Nat → Int) : Prop := ∀ j, j < 64 → 0 ≤ f j ∧ f j ≤ 255
theorem sec_size (f : Nat → Int) : (sec f).size = 64 := by unfold sec; rw [strOfNums_size]; simp
theorem sec_ext {f g : Nat → Int} (h : ∀ j, j < 64 → f j = g j) : sec f = sec g := by
  unfold sec
  congr 1
  apply List.map_congr_left
  intro j hj
  exact h j (List.mem_range.1 hj)
theorem byD_nums (l : List Int) (h : ∀ x ∈ l, 0 ≤ x ∧ x ≤ 255) (j : Nat) (hj : j < l.length) : byD (strOfNums l) j = l[j] := by
  unfold byD
  rw [strOfNums_data, List.getD_eq_getElem?_getD, List.getElem?_map, List.getElem?_eq_getElem hj]
  have := h l[j] (List.getElem_mem hj)
  simp only [Option.map_some, Option.getD_some, UInt8.toNat_ofNat']
  omega
theorem byD_sec {f : Nat → Int} (h : SecF f) {j : Nat} (hj : j < 64) : byD (sec f) j = f j := by
  unfold sec
  rw [byD_nums _ _ _ (by simpa using hj)]
  · simp
  · intro x hx
    obtain ⟨i, hi, rfl⟩ := List.mem_map.1 hx
    exact h i (List.mem_range.1 hi)
theorem sec_inj {f g : Nat → Int} (hf : SecF f) (hg : SecF g) (h : sec f = sec g) : ∀ j, j < 64 → f j = g j := fun j hj => by
  rw [← byD_sec hf hj, h, byD_sec hg hj]
/-- two texts of one length with the same bytes are the same -/
theorem byD_ext {a b : ByteArray} (hs : a.size = b.size) (h : ∀ j, j < a.size → byD a j = byD b j) : a = b := by
  apply Go.WideShapes.bytes_inj
  have ha : a.data.toList.length = a.size := by simp
  have hb : b.data.toList.length = b.size := by simp
  apply List.ext_getElem (by omega)
  intro i h1 h2
  have := h i (by omega)
  unfold byD at this
  rw [List.getD_eq_getElem?_getD, List.getD_eq_getElem?_getD, List.getElem?_eq_getElem h1, List.getElem?_eq_getElem h2] at this
  simp only [Option.getD_some] at this
  exact UInt8.toNat_inj.1 (by omega)
theorem sec_of {s : ByteArray} (hs : s.size = 64) : sec (byD s) = s := by
  apply byD_ext (by rw [sec_size, hs])
  intro j hj
  rw [sec_size] at hj
  exact byD_sec (fun j _ => byD_bd s j) hj
theorem fill_sec (s : ByteArray) : SecF (byD s) := fun j _ => byD_bd s j
theorem byD_app (a b : ByteArray) (j : Nat) : byD (a ++ b) j = if j < a.size then byD a j else byD b (j - a.size) := by
  have ha : a.data.toList.length = a.size := by simp
  unfold byD
  have e : (a ++ b).data.toList = a.data.toList ++ b.data.toList := by simp [ByteArray.data_append]
  rw [e]
  simp only [List.getD_eq_getElem?_getD, List.getElem?_append, ha]
  split <;> rfl
theorem byD_cut (s : ByteArray) (a b : Nat) (j : Nat) (hj : a + j < b) : byD (s.extract a b) j = byD s (a + j) := by
  unfold byD
  have e : (s.extract a b).data.toList = (s.data.toList.drop a).take (b - a) := by
    simp [ByteArray.data_extract, Array.toList_extract, List.extract_eq_take_drop]
  rw [e]
  simp only [List.getD_eq_getElem?_getD]
  rw [List.getElem?_take, if_pos (by omega), List.getElem?_drop]
/-- the first k bytes of one, the rest of another -/
def tornF (k : Nat) (f g : Nat → Int) : Nat → Int := fun j => if j < k then f j else g j
theorem torn_sec {k : Nat} {f g : Nat → Int} (hf : SecF f) (hg : SecF g) : SecF (tornF k f g) := fun j hj => by
  unfold tornF; split
  · exact hf j hj
  · exact hg j hj
theorem sec_torn {k : Nat} {f g : Nat → Int} (hf : SecF f) (hg : SecF g) (hk : k ≤ 64) : (sec f).extract 0 k ++ (sec g).extract k 64 = sec (tornF k f g) := by
  have s1 : ((sec f).extract 0 k).size = k := by rw [ByteArray.size_extract, sec_size]; omega
  have s2 : ((sec g).extract k 64).size = 64 - k := by rw [ByteArray.size_extract, sec_size]; omega
  apply byD_ext
  · rw [ByteArray.size_append, s1, s2, sec_size]; omega
  · intro j hj
    rw [ByteArray.size_append, s1, s2] at hj
    rw [byD_app, s1, byD_sec (torn_sec hf hg) (by omega)]
    unfold tornF
    split
    · rw [byD_cut _ _ _ _ (by omega), Nat.zero_add, byD_sec hf (by omega)]
    · rw [byD_cut _ _ _ _ (by omega), byD_sec hg (by omega)]
      congr 1; omega

/-- a disk: how many sectors; what is safe, what was written since, whether it was; what counts -/
structure Dk where
  n : Nat
  sf : Nat → Nat → Int
  nw : Nat → Nat → Int
  is : Nat → Bool
  arm : Nat
  calls : Nat
  down : Bool
def nowD (d : Dk) (i : Nat) : Nat → Int := if d.is i then d.nw i else d.sf i
def upd {α : Type} (f : Nat → α) (i : Nat) (x : α) : Nat → α := fun k => if k = i then x else f k
theorem upd_at {α : Type} (f : Nat → α) (i : Nat) (x : α) : upd f i x i = x := by simp [upd]
theorem upd_else {α : Type} (f : Nat → α) (i k : Nat) (x : α) (h : k ≠ i) : upd f i x k = f k := by simp [upd, h]
def newD (n : Nat) : Dk := ⟨n, fun _ _ => 0, fun _ _ => 0, fun _ => false, 0, 0, false⟩
/-- a call that counts: it goes down at this one, or not -/
def countD (d : Dk) : Dk := if d.arm = 1 then { d with calls := d.calls + 1, down := true, arm := 0 } else { d with calls := d.calls + 1, arm := d.arm - 1 }
def countE (d : Dk) : Int := if d.arm = 1 then 13 else 0
def writeD (d : Dk) (i : Int) (s : ByteArray) : Dk := if d.down then d else if i < 0 ∨ (d.n : Int) ≤ i then d else countD { d with nw := upd d.nw i.toNat (byD s), is := upd d.is i.toNat true }
def writeE (d : Dk) (i : Int) : Int := if d.down then 13 else if i < 0 ∨ (d.n : Int) ≤ i then 3 else countE d
def safeD (d : Dk) : Dk := { d with sf := fun i => nowD d i, is := fun _ => false }
def syncD (d : Dk) : Dk := if d.down then d else if d.arm = 1 then countD d else safeD (countD d)
def syncE (d : Dk) : Int := if d.down then 13 else countE d
def readE (d : Dk) (i : Int) : Int := if d.down then 13 else if i < 0 ∨ (d.n : Int) ≤ i then 3 else 0
def readS (d : Dk) (i : Int) : ByteArray := if d.down then ByteArray.empty else if i < 0 ∨ (d.n : Int) ≤ i then ByteArray.empty else sec (nowD d i.toNat)
def armD (d : Dk) (n : Int) : Dk := if d.down then d else if n < 1 then d else { d with arm := n.toNat }
def armE (d : Dk) (n : Int) : Int := if d.down then 13 else if n < 1 then 2 else 0
/-- how many of the first i sectors are loose -/
def looseN (is : Nat → Bool) : Nat → Nat
  | 0 => 0
  | i + 1 => looseN is i + (if is i then 1 else 0)
theorem looseN_le (is : Nat → Bool) (i : Nat) : looseN is i ≤ i := by
  induction i with
  | zero => exact Nat.le_refl _
  | succ i ih => simp only [looseN]; split <;> omega
theorem looseN_none {is : Nat → Bool} (h : ∀ i, is i = false) (n : Nat) : looseN is n = 0 := by
  induction n with
  | zero => rfl
  | succ n ih => simp [looseN, ih, h n]
theorem looseN_ext {a b : Nat → Bool} {n : Nat} (h : ∀ i, i < n → a i = b i) : looseN a n = looseN b n := by
  induction n with
  | zero => rfl
  | succ n ih => simp only [looseN]; rw [ih fun i hi => h i (by omega), h n (by omega)]
/-- how much of the j-th loose one stays -/
def keepN (keep : List Bool) (torn bytes : Int) (j : Nat) : Nat :=
  if (j : Int) = torn then (if 0 < bytes then (bytes % 65).toNat else 0) else (if keep.getD j false then 64 else 0)
theorem keepN_le (keep : List Bool) (torn bytes : Int) (j : Nat) : keepN keep torn bytes j ≤ 64 := by
  unfold keepN; split <;> split <;> omega
def crashF (d : Dk) (keep : List Bool) (torn bytes : Int) (i : Nat) : Nat → Int :=
  if d.is i then tornF (keepN keep torn bytes (looseN d.is i)) (d.nw i) (d.sf i) else d.sf i
def crashD (d : Dk) (keep : List Bool) (torn bytes : Int) : Dk :=
  { d with sf := crashF d keep torn bytes, is := fun _ => false, down := false, arm := 0 }

/-- a disk that may be -/
structure OkD (d : Dk) : Prop where
  n : 1 ≤ d.n ∧ d.n ≤ 4096
  sf : ∀ i, SecF (d.sf i)
  nw : ∀ i, SecF (d.nw i)
theorem OkD.now {d : Dk} (h : OkD d) (i : Nat) : SecF (nowD d i) := by
  unfold nowD; split
  · exact h.nw i
  · exact h.sf i
theorem OkD.new {n : Nat} (h : 1 ≤ n ∧ n ≤ 4096) : OkD (newD n) := ⟨h, fun _ _ _ => by simp [newD], fun _ _ _ => by simp [newD]⟩
theorem OkD.count {d : Dk} (h : OkD d) : OkD (countD d) := by unfold countD; split <;> exact ⟨h.n, h.sf, h.nw⟩
theorem OkD.write {d : Dk} (h : OkD d) (i : Int) (s : ByteArray) : OkD (writeD d i s) := by
  unfold writeD; split
  · exact h
  · split
    · exact h
    · refine OkD.count ⟨h.n, h.sf, fun k => ?_⟩
      show SecF (upd d.nw i.toNat (byD s) k)
      unfold upd; split
      · exact fill_sec s
      · exact h.nw k
theorem OkD.safe {d : Dk} (h : OkD d) : OkD (safeD d) := ⟨h.n, fun i => h.now i, h.nw⟩
theorem OkD.sync {d : Dk} (h : OkD d) : OkD (syncD d) := by
  unfold syncD; split
  · exact h
  · split
    · exact h.count
    · exact h.count.safe
theorem OkD.arm {d : Dk} (h : OkD d) (n : Int) : OkD (armD d n) := by
  unfold armD; split
  · exact h
  · split
    · exact h
    · exact ⟨h.n, h.sf, h.nw⟩
theorem OkD.crash {d : Dk} (h : OkD d) (keep : List Bool) (torn bytes : Int) : OkD (crashD d keep torn bytes) := by
  refine ⟨h.n, fun i => ?_, h.nw⟩
  show SecF (crashF d keep torn bytes i)
  unfold crashF; split
  · exact torn_sec (h.nw i) (h.sf i)
  · exact h.sf i
theorem count_n (d : Dk) : (countD d).n = d.n := by unfold countD; split <;> rfl
theorem write_n (d : Dk) (i : Int) (s : ByteArray) : (writeD d i s).n = d.n := by
  unfold writeD; split
  · rfl
  · split
    · rfl
    · rw [count_n]
theorem sync_n (d : Dk) : (syncD d).n = d.n := by
  unfold syncD; split
  · rfl
  · split
    · exact count_n d
    · exact count_n d
theorem arm_n (d : Dk) (n : Int) : (armD d n).n = d.n := by unfold armD; split <;> first | rfl | (split <;> rfl)
theorem crash_n (d : Dk) (keep : List Bool) (torn bytes : Int) : (crashD d keep torn bytes).n = d.n := rfl
/-- a second crash changes nothing that can be seen -/
theorem crash_again (d : Dk) (keep keep2 : List Bool) (torn bytes torn2 bytes2 : Int) (i : Nat) : crashF (crashD d keep torn bytes) keep2 torn2 bytes2 i = crashF d keep torn bytes i := rfl

end Go.Proofs.Ytaaagmcdbmppmaa
