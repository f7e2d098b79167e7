/- The document's disk and the program's in memory: a struct, rows and a map in blocks of their own, which are written again and again. Takes out of a drawn region, said shortly: an operation that is not wanted, one that only reads. What is asked of the program's store of logical pages, whatever it is made of. Roots and lists of numbers in memory; what is put, what is got. (Moved out of RtR1, RtR2, RtSame, RtLaw0.) What a call on a map answers and leaves. (Moved out of FmRef1, FmBoth.) -/
import Derived.Maps.RangeWalk
import Derived.Deep.MidRow
import Derived.Lib.BufferWrite
import Derived.WalkKit
import Derived.Deep.RegionHeld3
import Derived.Deep.DeepCutAuto
import Derived.Deep.AppendSrc
import Derived.Test.YtmflkkkbahghgaaGreatYZ0
import Derived.Test.YtmflkkkbahghgaaGreatYZ6
import Derived.Test.YtmflkkkbahghgaaGreatYZ1
import Derived.Test.YtmflkkkbahghgaaGreatYZ3
import Derived.Test.YtmflkkkbahghgaaGreatYZ5
namespace Go.Proofs.YtmflkkkbahghgaaGreat
open Go.RowKit Go.Deep Go.Maps
set_option linter.unusedVariables false
set_option maxRecDepth 100000

/-- a sector as an element of a map reads as its cells -/
def secR (v : Value) : Option (DataW (Array Value) × List MemPlace) := match v with
  | .agg cs => some (.held cs, [])
  | _ => none
theorem secR_inv {v : Value} {cs : Array Value} {ps : List MemPlace} (h : secR v = some (.held cs, ps)) : v = .agg cs := by
  unfold secR at h
  split at h
  · cases h; rfl
  · cases h
abbrev kl (n : Int) : Lit := .int .i64 n
theorem kl_key (n : Int) : WideAt.IsKeyLit (kl n) := trivial
theorem kl_ne {a b : Int} (h : a ≠ b) : kl a ≠ kl b := fun e => h (by injection e)
def gB (f : Nat → Nat → Int) : Nat → Nat → Value := fun i j => .int .u8 (f i j)
def secV (f : Nat → Int) : List Value := (List.range 64).map fun j => .int .u8 (f j)
theorem secV_len (f : Nat → Int) : (secV f).length = 64 := by simp [secV]
theorem secV_size (f : Nat → Int) : (secV f).toArray.size = 64 := by simp [secV]
theorem secV_at (f : Nat → Int) {j : Nat} (h : j < 64) : (secV f)[j]'(by rw [secV_len]; exact h) = .int .u8 (f j) := by simp [secV]
theorem secV_at? (f : Nat → Int) {j : Nat} (h : j < 64) : (secV f)[j]? = some (.int .u8 (f j)) := by rw [List.getElem?_eq_getElem (by rw [secV_len]; exact h), secV_at f h]
theorem secV_one (f : Nat → Int) : ∀ v ∈ secV f, v.oneCell' = true := by
  intro v hv
  obtain ⟨j, _, rfl⟩ := List.mem_map.1 hv
  rfl
theorem secV_ext {f g : Nat → Int} (h : ∀ j, j < 64 → f j = g j) : secV f = secV g := by
  unfold secV
  apply List.map_congr_left
  intro j hj
  rw [h j (List.mem_range.1 hj)]

/-- what a row holds, behind many stores -/
theorem block_setCells {T : TypeId} {fz : Nat × Nat} (b : Nat) : ∀ (vs : List Value) (o : Nat) (u : World), (∃ cs, u.heap[b]? = some (.cells cs T fz)) → ∃ cs, (u.setCells b o vs).heap[b]? = some (.cells cs T fz)
  | [], _, _, h => h
  | v :: r, o, u, ⟨cs, h⟩ => block_setCells b r (o + 1) _ ⟨_, Joins.block_setCell h v⟩
section
variable {T : TypeId} {C b n : Nat} {G : Nat → Nat → Value} {v : Value} {u : World}
theorem RowB.sets (h : RowB T C b G n v u) {i o : Nat} (hi : i < n) (vs : List Value) (ho : o + vs.length ≤ C) {G2 : Nat → Nat → Value}
    (h0 : ∀ k (hk : k < vs.length), G2 i (o + k) = vs[k]) (h1 : ∀ i2, i2 < n → ∀ j, j < C → ¬ (i2 = i ∧ o ≤ j ∧ j < o + vs.length) → G2 i2 j = G i2 j) : RowB T C b G2 n v (u.setCells b (i * C + o) vs) := by
  refine ⟨h.v, block_setCells b vs _ u h.b, fun i2 hi2 j hj => ?_⟩
  by_cases c : i2 = i ∧ o ≤ j ∧ j < o + vs.length
  · obtain ⟨rfl, c1, c2⟩ := c
    have := World.cell?_setCells_in b vs (i2 * C + o) u (fun q hq => by
      have := h.c i2 hi (o + q) (by omega)
      rw [show i2 * C + o + q = i2 * C + (o + q) by omega, this]; rfl) (j - o) (by omega)
    rw [show i2 * C + o + (j - o) = i2 * C + j by omega] at this
    rw [this, ← h0 (j - o) (by omega), show o + (j - o) = j by omega]
  · rw [h1 i2 hi2 j hj c]
    rw [World.cell?_setCells_out b vs (i * C + o) u ⟨b, i2 * C + j, none⟩ (fun _ _ => by
      show i2 * C + j < i * C + o ∨ i * C + o + vs.length ≤ i2 * C + j
      by_cases d : i2 = i
      · subst d; omega
      · rcases Nat.lt_or_gt_of_ne d with d | d
        · left
          have : (i2 + 1) * C ≤ i * C := Nat.mul_le_mul_right C d
          rw [Nat.add_mul, Nat.one_mul] at this
          omega
        · right
          have : (i + 1) * C ≤ i2 * C := Nat.mul_le_mul_right C d
          rw [Nat.add_mul, Nat.one_mul] at this
          omega)]
    exact h.c i2 hi2 j hj
theorem RowB.there (h : RowB T C b G n v u) {i : Nat} (hi : i < n) (o m : Nat) (hm : o + m ≤ C) : u.there b (i * C + o) m := fun j hj => by
  have := h.c i hi (o + j) (by omega)
  rw [← Nat.add_assoc] at this
  exact ⟨by rw [this]; rfl, h.frozen _⟩
end
theorem RowB.range {T : TypeId} {b n : Nat} {f : Nat → Nat → Int} {v : Value} {u : World} (h : RowB T 64 b (gB f) n v u) {i : Nat} (hi : i < n) : u.rangeAt b (i * 64) (secV (f i)) := by
  intro j x hx
  have hj : j < 64 := by
    rcases Nat.lt_or_ge j 64 with c | c
    · exact c
    · rw [List.getElem?_eq_none (by rw [secV_len]; exact c)] at hx; cases hx
  rw [secV_at? _ hj] at hx
  rw [h.c i hi j hj, ← hx]; rfl

/-- 'copy(dst, s)' from a text into cells that are there -/
theorem run_copy_text {P : Program} (w : World) (dT sT ty elem : TypeId) (b o dLen dCap : Nat) (s : ByteArray)
    (hu : P.underlying dT = some (.slice elem)) (hs : (P.info? elem).map (·.size) = some 1) (ht : w.there b o (Nat.min s.size dLen)) :
    (Builtin.copy_ #[dT, sT] ty #[.slice (some ⟨b, o, none⟩) dLen dCap, .string s]).run P w =
      .ok (goInt (Nat.min s.size dLen)) (w.setCells b o ((Lib.byteCells s.data.toList).take (Nat.min s.size dLen))) := by
  have hsz : s.data.toList.length = s.size := by simp
  have hl : ((Lib.byteCells s.data.toList).take (Nat.min s.size dLen)).length = Nat.min s.size dLen := by
    rw [List.length_take, Lib.byteCells_length, hsz]
    exact Nat.min_eq_left (Nat.min_le_left _ _)
  have hst := run_storeCells_cells (P := P) b o ((Lib.byteCells s.data.toList).take (Nat.min s.size dLen)) 0 w (fun j hj => by simpa using (ht j (by rw [hl] at hj; exact hj)).1) (fun j hj => by simpa using (ht j (by rw [hl] at hj; exact hj)).2)
    (fun v hv => Lib.byteCells_one _ v (List.mem_of_mem_take hv))
  have e : List.take (Nat.min s.size dLen) (List.map (fun b : UInt8 => Value.int IntKind.u8 (b.toNat : Int)) s.data.toList) = (Lib.byteCells s.data.toList).take (Nat.min s.size dLen) := rfl
  rw [Nat.add_zero] at hst
  cases hq : P.info? elem with
  | none => simp [hq] at hs
  | some i =>
    simp [Builtin.copy_, run_underlying hu, Builtin.lenOf, Builtin.firstCells, sizeOf, typeInfo, hq]
    rw [e, hst]
    simp [Result.andThen]
theorem lawInt : Keyed Tryz.prog 3 := int_keyed Tryz.underlying3
/-- a map's bound is its size -/
theorem own_tight {P : Program} {k : TypeId} {R : Value → Option (DataW (Array Value) × List MemPlace)} {w : World} {b n : Nat} {D : DataW (Array Value)} (h : w.ownsMap P k R b n D) : w.ownsMap P k R b (Maps.size D) D := by
  obtain ⟨es, clock, hb, F, hs, rfl⟩ := h
  exact ⟨es, clock, hb, F, by simp [Maps.size, length_sorted], rfl⟩

/-- the map, and what it holds: of each loose sector what is safe -/
def MpD (bm n : Nat) (is : Nat → Bool) (sf : Nat → Nat → Int) (u : World) : Prop :=
  ∃ D, u.ownsMap Tryz.prog 3 secR bm n D ∧ Tidy D ∧ (∀ q : Int, Maps.has D (kl q) = true ↔ ∃ i : Nat, i < n ∧ q = (i : Int) ∧ is i = true) ∧ (∀ i, i < n → is i = true → ∀ z, D.atKey (kl (i : Int)) z = .held (secV (sf i)).toArray) ∧ Maps.size D = looseN is n
section
variable {bm n : Nat} {is : Nat → Bool} {sf : Nat → Nat → Int} {u u2 : World}
theorem MpD.kept (h : MpD bm n is sf u) (e : u2.heap[bm]? = u.heap[bm]?) : MpD bm n is sf u2 := by
  obtain ⟨D, ⟨es, ck, h1, h2⟩, h3⟩ := h
  exact ⟨D, ⟨es, ck, e.trans h1, h2⟩, h3⟩
theorem MpD.blk (h : MpD bm n is sf u) : ∃ es ck, u.heap[bm]? = some (.map es ck) := by
  obtain ⟨D, ⟨es, ck, h1, _⟩, _⟩ := h
  exact ⟨es, ck, h1⟩
theorem MpD.congr (h : MpD bm n is sf u) {is2 : Nat → Bool} {sf2 : Nat → Nat → Int} (e : ∀ i, i < n → is2 i = is i) (e2 : ∀ i, i < n → is i = true → ∀ j, j < 64 → sf2 i j = sf i j) : MpD bm n is2 sf2 u := by
  obtain ⟨D, h1, h2, h3, h4, h5⟩ := h
  refine ⟨D, h1, h2, fun q => (h3 q).trans ⟨?_, ?_⟩, fun i hi hs z => ?_, by rw [h5]; exact (looseN_ext e).symm⟩
  · rintro ⟨i, a, b, c⟩; exact ⟨i, a, b, by rw [e i a]; exact c⟩
  · rintro ⟨i, a, b, c⟩; exact ⟨i, a, b, by rw [e i a] at c; exact c⟩
  · rw [e i hi] at hs
    rw [h4 i hi hs z, secV_ext (e2 i hi hs)]
theorem MpD.none (h : u.heap[bm]? = some (.map #[] 0)) (hi : ∀ i, is i = false) : MpD bm n is sf u :=
  ⟨.map [], ⟨#[], 0, h, ⟨by simp, MapKept.stamped_empty 0, by simp⟩, Nat.zero_le _, rfl⟩, tidy_empty, fun q => by simp [Maps.has, hi], fun i _ hs => (by rw [hi i] at hs; cases hs), by rw [looseN_none hi]; rfl⟩
/-- how a map's look answers -/
theorem MpD.look (h : MpD bm n is sf u) {z : Value} {zc : Array Value} (hz : (zeroValue 129).run Tryz.prog u = .ok z u) (hzc : z = .agg zc) {i : Nat} (hi : i < n) (hn : n ≤ 4096) :
    ∃ c, (Instr.lookup 120 (.map (some bm)) (.int .i64 (i : Int)) true).run Tryz.prog u = .ok (.tuple #[.agg c, .bool (is i)]) u ∧ c.size = (if is i then 64 else zc.size) ∧ (is i = true → c = (secV (sf i)).toArray) ∧ (is i = false → c = zc) := by
  subst hzc
  obtain ⟨D, h1, h2, h3, h4, h5⟩ := h
  have hw : (Lit.int .i64 (i : Int)).wf = true := WalkArith.wf_i64 (by omega)
  obtain ⟨v, ps, r1, r2⟩ := h1.look_ok lawInt Tryz.underlying120 hz (zd := .held zc) (zp := []) rfl (keyOf_int_mk Tryz.underlying3 hw)
  cases c : is i with
  | true =>
    rw [h4 i hi c] at r2
    have := secR_inv r2
    subst this
    have hh : Maps.has D (kl i) = true := (h3 i).2 ⟨i, hi, rfl, c⟩
    rw [hh] at r1
    exact ⟨_, r1, by simp [secV_len], fun _ => rfl, fun e => (by cases e)⟩
  | false =>
    have hh : Maps.has D (kl i) = false := by
      cases c2 : Maps.has D (kl i) with
      | false => rfl
      | true =>
        obtain ⟨i2, _, e, hs⟩ := (h3 i).1 c2
        obtain rfl : i2 = i := by omega
        rw [c] at hs; cases hs
    have hat : D.atKey (kl i) (.held zc) = .held zc := atKey_of_not_has hh _
    rw [hat] at r2
    have := secR_inv r2
    subst this
    rw [hh] at r1
    exact ⟨_, r1, by simp, fun e => (by cases e), fun _ => rfl⟩
theorem upd_loose {is : Nat → Bool} {i : Nat} (h : is i = false) : ∀ n, i < n → looseN (upd is i true) n = looseN is n + 1
  | 0, hn => by omega
  | n + 1, hn => by
    simp only [looseN]
    by_cases e : i = n
    · subst e
      rw [upd_at, h, looseN_ext (b := is) (fun k hk => upd_else _ _ _ _ (by omega))]
      simp
    · rw [upd_loose h n (by omega), upd_else _ _ _ _ (fun e2 => e e2.symm)]
      omega
/-- one more loose sector -/
theorem MpD.put (h : MpD bm n is sf u) {i : Nat} (hi : i < n) (hn : n ≤ 4096) (h0 : is i = false) (f : Nat → Int) : ∃ u2, (Instr.mapUpdate 120 (.map (some bm)) (.int .i64 (i : Int)) (.agg (secV f).toArray)).run Tryz.prog u = .ok () u2 ∧ MpD bm n (upd is i true) (upd sf i f) u2 ∧ u.grownBy u2 (some bm) ∧ u2.heap.size = u.heap.size := by
  obtain ⟨D, h1, h2, h3, h4, h5⟩ := h
  have hw : (Lit.int .i64 (i : Int)).wf = true := WalkArith.wf_i64 (by omega)
  obtain ⟨u2, r1, r2, r3⟩ := h1.store lawInt Tryz.underlying120 (by unfold maxLen; omega) (keyOf_int_mk Tryz.underlying3 hw) (show secR (.agg (secV f).toArray) = some (.held (secV f).toArray, []) from rfl)
  have hh : Maps.has D (kl i) = false := by
    cases c2 : Maps.has D (kl i) with
    | false => rfl
    | true =>
      obtain ⟨i2, _, e, hs⟩ := (h3 i).1 c2
      obtain rfl : i2 = i := by omega
      rw [h0] at hs; cases hs
  have hsz : Maps.size (D.put (kl i) (.held (secV f).toArray)) = looseN (upd is i true) n := by
    rw [size_put h2, hh, h5, upd_loose h0 n hi]; rfl
  refine ⟨u2, r1, ⟨_, (own_tight r2).mono (by rw [hsz]; exact looseN_le _ _), h2.put (kl_key _) _, fun q => ?_, fun k hk hs z => ?_, hsz⟩, r3.grown, ?_⟩
  · by_cases c : q = (i : Int)
    · subst c
      rw [has_put_same h2.isMap (kl_key _)]
      exact ⟨fun _ => ⟨i, hi, rfl, upd_at _ _ _⟩, fun _ => rfl⟩
    · rw [has_put_other (kl_ne c), h3 q]
      constructor
      · rintro ⟨k, a, rfl, b⟩
        exact ⟨k, a, rfl, by rw [upd_else _ _ _ _ (by omega)]; exact b⟩
      · rintro ⟨k, a, rfl, b⟩
        exact ⟨k, a, rfl, by rw [upd_else _ _ _ _ (by omega)] at b; exact b⟩
  · by_cases c : k = i
    · subst c
      rw [upd_at]
      exact atKey_put_same h2.isMap (kl_key _) _ _
    · rw [upd_else _ _ _ _ c]
      rw [upd_else _ _ _ _ c] at hs
      rw [atKey_put_other (kl_ne (by omega))]
      exact h4 k hk hs z
  · obtain ⟨es, ck, es2, ck2, _, rfl⟩ := r3
    simp [ChangeMaps.setBlock]
theorem MpD.len (h : MpD bm n is sf u) (ty : TypeId) : (Builtin.len_ #[120] ty #[.map (some bm)]).run Tryz.prog u = .ok (.int .i64 (looseN is n)) u := by
  obtain ⟨D, h1, h2, h3, h4, h5⟩ := h
  rw [← h5]
  exact h1.len Tryz.underlying120 ty
end

/-! ### the program's disk -/
def pbx (bS cS bm : Nat) (d : Dk) : Array Value := #[.slice (some ⟨bS, 0, none⟩) d.n cS, .map (some bm), .int .i64 (d.calls : Int), .int .i64 (d.arm : Int), .bool d.down]
structure PDk (base P bS bm cS : Nat) (d : Dk) (u : World) : Prop where
  box : u.heap[P]? = some (.cells (pbx bS cS bm d) 122 (0, 0))
  row : RowB 129 64 bS (gB (nowD d)) d.n (.slice (some ⟨bS, 0, none⟩) d.n cS) u
  mp : MpD bm d.n d.is d.sf u
  lo : base ≤ P ∧ base ≤ bS ∧ base ≤ bm
def P3 (P bS bm : Nat) : Nat → Bool := fun k => k == P || k == bS || k == bm
theorem P3.a (P bS bm : Nat) : P3 P bS bm P = true := by simp [P3]
theorem P3.b (P bS bm : Nat) : P3 P bS bm bS = true := by simp [P3]
theorem P3.c (P bS bm : Nat) : P3 P bS bm bm = true := by simp [P3]
theorem P3.no {P bS bm k : Nat} (h1 : k ≠ P) (h2 : k ≠ bS) (h3 : k ≠ bm) : P3 P bS bm k = false := by simp [P3, h1, h2, h3]
section
variable {base P bS bm bm2 cS : Nat} {d d2 : Dk} {u u2 : World}
theorem PDk.lt (h : PDk base P bS bm cS d u) : P < u.heap.size ∧ bS < u.heap.size ∧ bm < u.heap.size := by
  obtain ⟨es, ck, e⟩ := h.mp.blk
  exact ⟨lt_of_block h.box, h.row.lt, (Array.getElem?_eq_some_iff.1 e).1⟩
theorem PDk.ne (h : PDk base P bS bm cS d u) : P ≠ bS ∧ P ≠ bm ∧ bS ≠ bm := by
  obtain ⟨es, ck, e⟩ := h.mp.blk
  obtain ⟨cs, eb⟩ := h.row.b
  have h1 := h.box
  refine ⟨?_, ?_, ?_⟩
  · rintro rfl
    rw [eb] at h1
    simp only [Option.some.injEq, Obj.cells.injEq] at h1
    exact absurd h1.2.1 (by decide)
  · rintro rfl; rw [e] at h1; cases h1
  · rintro rfl; rw [e] at eb; cases eb
theorem PDk.kept (h : PDk base P bS bm cS d u) (e1 : u2.heap[P]? = u.heap[P]?) (e2 : u2.heap[bS]? = u.heap[bS]?) (e3 : u2.heap[bm]? = u.heap[bm]?) : PDk base P bS bm cS d u2 :=
  ⟨e1.trans h.box, h.row.kept e2, h.mp.kept e3, h.lo⟩
theorem PDk.below (h : PDk base P bS bm cS d u) (k : Below u.heap.size u u2) : PDk base P bS bm cS d u2 :=
  h.kept (k.block _ h.lt.1) (k.block _ h.lt.2.1) (k.block _ h.lt.2.2)
theorem PDk.congr (h : PDk base P bS bm cS d u) (hn : d2.n = d.n) (ha : d2.arm = d.arm) (hc : d2.calls = d.calls) (hd : d2.down = d.down) (e : ∀ i, i < d.n → d2.is i = d.is i) (e2 : ∀ i, i < d.n → d.is i = true → ∀ j, j < 64 → d2.sf i j = d.sf i j)
    (e3 : ∀ i, i < d.n → ∀ j, j < 64 → nowD d2 i j = nowD d i j) : PDk base P bS bm cS d2 u := by
  refine ⟨?_, ?_, ?_, h.lo⟩
  · rw [h.box]; unfold pbx; rw [hn, ha, hc, hd]
  · rw [hn]
    exact h.row.congr fun i hi j hj => by unfold gB; rw [e3 i hi j hj]
  · rw [hn]
    exact h.mp.congr e e2
theorem PDk.cells (h : PDk base P bS bm cS d u) : u.cell? ⟨P, 0, none⟩ = some (.slice (some ⟨bS, 0, none⟩) d.n cS) ∧ u.cell? ⟨P, 1, none⟩ = some (.map (some bm)) ∧ u.cell? ⟨P, 2, none⟩ = some (.int .i64 (d.calls : Int)) ∧ u.cell? ⟨P, 3, none⟩ = some (.int .i64 (d.arm : Int)) ∧ u.cell? ⟨P, 4, none⟩ = some (.bool d.down) ∧ ∀ q, u.frozen? ⟨P, q, none⟩ = false := by
  refine ⟨?_, ?_, ?_, ?_, ?_, fun q => Lib.frozen_of_heap h.box q⟩ <;> (rw [Lib.cell_of_heap h.box]; rfl)
theorem PDk.bot (h : PDk base P bS bm cS d u) (k : KpS (P3 P bS bm) u u2) (hb : base ≤ u.heap.size) : Below base u u2 :=
  k.bot hb fun q hq => P3.no (by have := h.lo.1; omega) (by have := h.lo.2.1; omega) (by have := h.lo.2.2; omega)
end
theorem PDk.mono {base base2 P bS bm cS : Nat} {d : Dk} {u : World} (h : PDk base P bS bm cS d u) (hb : base2 ≤ base) : PDk base2 P bS bm cS d u :=
  ⟨h.box, h.row, h.mp, Nat.le_trans hb h.lo.1, Nat.le_trans hb h.lo.2.1, Nat.le_trans hb h.lo.2.2⟩

end Go.Proofs.YtmflkkkbahghgaaGreat
namespace Go.Proofs.YtmflkkkbahghgaaGreat
open Go.RowKit
section
variable {P : Program} {ops : Array Oper} {Q : Exit → Act → World → Prop} {md : Region.Mode} {S : World → Prop}
theorem tq0 (i : Nat) {f1 f2 f3 f4 f5 f6} {fuel : Nat} {listed : Array Bool} {a : Act} {w : World} (hi : ops[i]? = some (Oper.mk f1 f2 f3 f4 f5 f6))
    (h : wpAnyH P md ops Q S fuel (listed.setIfInBounds i true) (a.put (Oper.mk f1 f2 f3 f4 f5 f6).dst undef) w)
    (hs : Region.noSelect ops = true := by kernel_rfl) (hf : Region.free md ops listed i = true := by kernel_rfl) (hr : (Region.ready md ops listed).contains i = true := by kernel_rfl)
    (hQ : ∀ c a w, Q (.panic c) (a.put (Oper.mk f1 f2 f3 f4 f5 f6).dst undef) w → Q (.panic c) a w := by exact fun _ _ _ h => h)
    (hw : Region.wanted (Oper.mk f1 f2 f3 f4 f5 f6) (yielded ops a.tmps) = false := by rfl) (hS : S w := by assumption) : wpAnyH P md ops Q S (fuel + 1) listed a w := wpAnyH_take hi hs hf hr hQ (.inr ⟨hw, rfl⟩) hS h
theorem tq1 (i : Nat) {f1 f2 f3 f4 f5 f6} {v : Value} {fuel : Nat} {listed : Array Bool} {a : Act} {w : World} (hi : ops[i]? = some (Oper.mk f1 f2 f3 f4 f5 f6))
    (h : wpAnyH P md ops Q S fuel (listed.setIfInBounds i true) (a.put (Oper.mk f1 f2 f3 f4 f5 f6).dst v) w)
    (hs : Region.noSelect ops = true := by kernel_rfl) (hf : Region.free md ops listed i = true := by kernel_rfl) (hr : (Region.ready md ops listed).contains i = true := by kernel_rfl)
    (hQ : ∀ c a w, Q (.panic c) (a.put (Oper.mk f1 f2 f3 f4 f5 f6).dst v) w → Q (.panic c) a w := by exact fun _ _ _ h => h)
    (hw : Region.wanted (Oper.mk f1 f2 f3 f4 f5 f6) (yielded ops a.tmps) = true := by rfl)
    (hy : ∀ w5, S w5 → (execOp a.eval (Oper.mk f1 f2 f3 f4 f5 f6)).run P w5 = .ok (.value v) w5 := by intro w5 hSw; (try dsimp only at hSw); go_simp; (try with_reducible rfl)) (hS : S w := by assumption) : wpAnyH P md ops Q S (fuel + 1) listed a w := wpAnyH_take hi hs hf hr hQ (.inl ⟨hw, hy⟩) hS h
end
end Go.Proofs.YtmflkkkbahghgaaGreat
namespace Go.Proofs.YtmflkkkbahghgaaGreat
open Go.RowKit Go.Deep
set_option linter.unusedVariables false
set_option linter.unusedSimpArgs false
set_option maxRecDepth 100000

/-- base, the disk's block, the store's, what it holds, at which call the disk goes down (0: at none), its blocks -/
abbrev StM := Nat → Nat → Nat → Stt → Nat → (Nat → Bool) → World → Prop
/-- base, the disk's block, what was committed, what was being committed, its blocks -/
abbrev FlM := Nat → Nat → Stt → List Slt → (Nat → Bool) → World → Prop
def NewB (S S2 : Nat → Bool) (u : World) : Prop := ∀ k, S2 k = true → S k = true ∨ u.heap.size ≤ k
/-- limits -/
structure OkX (x : Stt) : Prop where
  now : x.now.length ≤ 512
  old : x.old.length ≤ 512
  many : 0 ≤ x.many ∧ x.many ≤ 1024
  ep : 1 ≤ x.ep ∧ x.ep ≤ 1000000
  cl : x.cl ≤ 900000
/-- what a call leaves: it went (and said what it should), or the disk went down in it -/
def Out14 (PM : StM) (PF : FlM) (base D P : Nat) (x x2 : Stt) (nxt : List Slt) (a : Nat) (S : Nat → Bool) (ok : Prop) (u u2 : World) : Prop :=
  ∃ S2, NewB S S2 u ∧ KpS S u u2 ∧ ((ok ∧ ∃ a2, (a = 0 → a2 = 0) ∧ PM base D P x2 a2 S2 u2) ∨ (a ≠ 0 ∧ PF base D x nxt S2 u2))
structure Sh14 (PM : StM) (PF PC : FlM) : Prop where
  kept : ∀ {base D P a : Nat} {x : Stt} {S T : Nat → Bool} {u u2 : World}, PM base D P x a S u → (∀ k, S k = true → T k = false) → KpS T u u2 → PM base D P x a S u2
  lo : ∀ {base D P a : Nat} {x : Stt} {S : Nat → Bool} {u : World}, PM base D P x a S u → ∀ k, S k = true → base ≤ k ∧ k < u.heap.size
  fkept : ∀ {base D : Nat} {x : Stt} {n : List Slt} {S T : Nat → Bool} {u u2 : World}, PF base D x n S u → (∀ k, S k = true → T k = false) → KpS T u u2 → PF base D x n S u2
  flo : ∀ {base D : Nat} {x : Stt} {n : List Slt} {S : Nat → Bool} {u : World}, PF base D x n S u → ∀ k, S k = true → base ≤ k ∧ k < u.heap.size
  ckept : ∀ {base D : Nat} {x : Stt} {n : List Slt} {S T : Nat → Bool} {u u2 : World}, PC base D x n S u → (∀ k, S k = true → T k = false) → KpS T u u2 → PC base D x n S u2
  clo : ∀ {base D : Nat} {x : Stt} {n : List Slt} {S : Nat → Bool} {u : World}, PC base D x n S u → ∀ k, S k = true → base ≤ k ∧ k < u.heap.size
  format : ∀ {base D bS bm cS n : Nat} {u : World}, PDk base D bS bm cS (newD (2 + 4 * n)) u → 1 ≤ n → n ≤ 1000 → base ≤ u.heap.size → Calls Tryz.prog 23 #[.pointer (some ⟨D, 0, none⟩)] u fun r u' => ∃ P S2, r = .returned (.tuple #[.pointer (some ⟨P, 0, none⟩), .int .i64 0]) ∧ PM base D P ⟨(n : Int), [], [], 1, 64⟩ 0 S2 u' ∧ NewB (P3 D bS bm) S2 u ∧ KpS (P3 D bS bm) u u'
  new : ∀ {base D P a : Nat} {x : Stt} {S : Nat → Bool} {u : World} (s : ByteArray), PM base D P x a S u → OkX x → base ≤ u.heap.size → s.size ≤ 1000000 → Calls Tryz.prog 59 #[.pointer (some ⟨P, 0, none⟩), .string s] u fun r u' => ∃ i e, r = .returned (.tuple #[.int .i64 i, .int .i64 e]) ∧ Out14 PM PF base D P x (newX x s) x.old a S (i = newI x s ∧ e = newE x s) u u'
  write : ∀ {base D P a : Nat} {x : Stt} {S : Nat → Bool} {u : World} (l : Int) (s : ByteArray), PM base D P x a S u → OkX x → base ≤ u.heap.size → s.size ≤ 1000000 → Calls Tryz.prog 86 #[.pointer (some ⟨P, 0, none⟩), .int .i64 l, .string s] u fun r u' => ∃ e, r = .returned (.int .i64 e) ∧ Out14 PM PF base D P x (putWX x l s) x.old a S (e = putWE x l s) u u'
  drop : ∀ {base D P a : Nat} {x : Stt} {S : Nat → Bool} {u : World} (l : Int), PM base D P x a S u → OkX x → base ≤ u.heap.size → Calls Tryz.prog 73 #[.pointer (some ⟨P, 0, none⟩), .int .i64 l] u fun r u' => ∃ e, r = .returned (.int .i64 e) ∧ Out14 PM PF base D P x (dropSX x l) x.old a S (e = dropSE x l) u u'
  commit : ∀ {base D P a : Nat} {x : Stt} {S : Nat → Bool} {u : World}, PM base D P x a S u → OkX x → base ≤ u.heap.size → Calls Tryz.prog 51 #[.pointer (some ⟨P, 0, none⟩)] u fun r u' => ∃ e, r = .returned (.int .i64 e) ∧ Out14 PM PF base D P x (comSX x) (nextS x.now) a S (e = comSE x) u u'
  abort : ∀ {base D P a : Nat} {x : Stt} {S : Nat → Bool} {u : World}, PM base D P x a S u → OkX x → base ≤ u.heap.size → Calls Tryz.prog 55 #[.pointer (some ⟨P, 0, none⟩)] u fun r u' => r = .returned (.bool true) ∧ ∃ S2, NewB S S2 u ∧ KpS S u u' ∧ PM base D P (aboSX x) a S2 u'
  read : ∀ {base D P a : Nat} {x : Stt} {S : Nat → Bool} {u : World} (i : Int), PM base D P x a S u → OkX x → base ≤ u.heap.size → Calls Tryz.prog 141 #[.pointer (some ⟨P, 0, none⟩), .int .i64 i] u fun r u' => r = .returned (.tuple #[.string (if inS x.now i then (slA x.now i.toNat).b else ByteArray.empty), .int .i64 (if inS x.now i then 0 else 3)]) ∧ Below u.heap.size u u'

section
variable {PM : StM} {PF PC : FlM} {base D P a : Nat} {x x2 : Stt} {S : Nat → Bool} {u u2 : World}
def noB : Nat → Bool := fun _ => false
theorem Sh14.below (I : Sh14 PM PF PC) (h : PM base D P x a S u) (k : Below u.heap.size u u2) : PM base D P x a S u2 := I.kept h (T := noB) (fun _ _ => rfl) (KpS.of k)
theorem out_zero {nxt : List Slt} {ok : Prop} (h : Out14 PM PF base D P x x2 nxt 0 S ok u u2) : ok ∧ ∃ S2, NewB S S2 u ∧ KpS S u u2 ∧ PM base D P x2 0 S2 u2 := by
  obtain ⟨S2, n, k, h | h⟩ := h
  · obtain ⟨hok, a2, ha, hp⟩ := h
    rw [ha rfl] at hp
    exact ⟨hok, S2, n, k, hp⟩
  · exact absurd rfl h.1
theorem Sh14.bot (I : Sh14 PM PF PC) (h : PM base D P x a S u) (hz : base ≤ u.heap.size) (k : KpS S u u2) : Below base u u2 := k.bot hz fun q hq => by
  cases c : S q with
  | false => rfl
  | true => have := (I.lo h q c).1; omega
end

end Go.Proofs.YtmflkkkbahghgaaGreat
namespace Go.Proofs.YtmflkkkbahghgaaGreat
open Go.RowKit Go.Deep
set_option linter.unusedVariables false
set_option linter.unusedSimpArgs false
set_option maxRecDepth 100000

theorem infoInt13 : (Tryz.prog.info? 3).map (fun i => (i.zero, i.size, i.bytes)) = some (some (.int .i64 0), 1, 8) := by kernel_rfl
/-- a list of numbers as a slice -/
def LstI (l : List Int) (v : Value) (u : World) : Prop := Sl 1 (gW fun i => l.getD i 0) l.length v u
theorem LstI.below {l : List Int} {v : Value} {u u2 : World} (h : LstI l v u) (k : Below u.heap.size u u2) : LstI l v u2 := Sl.below h k
theorem LstI.nil (u : World) : LstI [] (.slice none 0 0) u := ⟨none, 0, rfl, Nat.le_refl _, by omega, fun h => absurd h (Nat.lt_irrefl 0)⟩
def intV (l : List Int) : List Value := l.map (Value.int .i64)
theorem intV_row (l : List Int) : intV l = rowCells 1 (gW fun i => l.getD i 0) l.length := by
  apply List.ext_getElem?
  intro k
  have hl : (rowCells 1 (gW fun i => l.getD i 0) l.length).length = l.length := by rw [rowCells_len, Nat.mul_one]
  rcases Nat.lt_or_ge k l.length with h | h
  · have e := rowCells_at (gW fun i => l.getD i 0) (C := 1) (n := l.length) (i := k) (j := 0) h (by omega)
    rw [Nat.mul_one, Nat.add_zero] at e
    rw [e]
    show _ = some (Value.int .i64 (l.getD k 0))
    unfold intV
    rw [List.getElem?_map, List.getElem?_eq_getElem h, List.getD_eq_getElem?_getD, List.getElem?_eq_getElem h]
    rfl
  · rw [List.getElem?_eq_none (by unfold intV; simpa using h), List.getElem?_eq_none (by rw [hl]; exact h)]
theorem LstI.of {b : Nat} {l : List Int} {v : Value} {u : World} (h : u.ownsRow b 3 1 v l.length (intV l)) : LstI l v u := by
  rw [intV_row] at h
  exact own_sl h
theorem twosL_snoc (l : List Int) (x : Int) : twosL (l ++ [x]) = twosL l ++ beI 2 x := by
  induction l with
  | nil => simp [twosL]
  | cons a l ih => simp only [List.cons_append, twosL, ih, List.append_assoc]
/-- the bytes of the first j pages of a part -/
def ppN (l : List Int) (p j : Nat) : List Int := twosL (((partT l p).take j).map fun x => clampP x + 1)
theorem ppN_len {l : List Int} {p j : Nat} (h : j ≤ (partT l p).length) : (ppN l p j).length = 2 * j := by
  unfold ppN
  rw [twosL_len, List.length_map, List.length_take]; omega
theorem ppN_succ {l : List Int} {p j : Nat} (h : j < (partT l p).length) : ppN l p (j + 1) = ppN l p j ++ beI 2 (clampP (l.getD (116 * p + j) 0) + 1) := by
  unfold ppN
  rw [List.take_succ_eq_append_getElem h, List.map_append, List.map_singleton, twosL_snoc, partT_at l p j h, List.getD_eq_getElem?_getD, List.getElem?_eq_getElem (by rw [partT_len] at h; omega)]
  rfl
theorem ppN_all (l : List Int) (p : Nat) : strOfNums (ppN l p (partT l p).length) = partS l p := by
  unfold ppN partS
  rw [List.take_of_length_le (Nat.le_refl _)]
/-- what PutPart hands back -/
def partO (l : List Int) (p : Int) : ByteArray := if partE l p = 0 then partS l p.toNat else ⟨#[]⟩
theorem need_bd {n : Nat} (h : n ≤ 9223372036854775807) : 0 ≤ needR (n : Int) ∧ needR (n : Int) ≤ 79512896912102203 := by
  unfold needR; split <;> omega
theorem three_of {w : World} {C : Nat} {a b c : Value} {T : TypeId} {z : Nat × Nat} (h : w.heap[C]? = some (.cells #[a, b, c] T z)) : w.cell? ⟨C, 0, none⟩ = some a ∧ w.cell? ⟨C, 1, none⟩ = some b ∧ w.cell? ⟨C, 2, none⟩ = some c := by
  refine ⟨?_, ?_, ?_⟩ <;> (rw [Lib.cell_of_heap h]; rfl)
def rtV (ep lg : Int) (v : Value) : Value := .agg #[.int .i64 ep, .int .i64 lg, v]
def big64 (x : Int) : Prop := -9223372036854775808 ≤ x ∧ x ≤ 9223372036854775807
def rtE (r : Rt) : Int := if RightR r then 0 else 2
def rtO (r : Rt) : ByteArray := if RightR r then bytesR r else ⟨#[]⟩
theorem heap_stays13 {u u2 : World} {B : Nat} {o : Obj} (h : u.heap[B]? = some o) (k : Below u.heap.size u u2) : u2.heap[B]? = some o := (k.block _ (lt_of_block h)).trans h

end Go.Proofs.YtmflkkkbahghgaaGreat
namespace Go.Proofs.YtmflkkkbahghgaaGreat
open Go.RowKit
set_option linter.unusedVariables false

def inE (n : Nat) (i : Int) : Int := if inF n i then 0 else 3
abbrev PMap := Nat → Nat → Nat → (Nat → Nat) → (Nat → Bool) → World → Prop
/-- what a call that writes leaves: the map anew, in its own blocks or in new ones -/
def Post12 (PM : PMap) (base P n : Nat) (K2 : Nat → Nat) (S : Nat → Bool) (u u2 : World) : Prop := ∃ S2, (∀ k, S2 k = true → S k = true ∨ u.heap.size ≤ k) ∧ PM base P n K2 S2 u2 ∧ KpS S u u2

end Go.Proofs.YtmflkkkbahghgaaGreat
