/- The document's disk and the program's in memory: a struct, rows and a map in blocks of their own, which are written again and again. -/
import Derived.Test.YtdmlmjmdpmmcgaaSecMath
import Derived.Test.YtdmlmjmdpmmcgaaRowB
import Derived.Maps.RangeWalk
import Derived.Deep.MidRow
import Derived.Lib.BufferWrite
namespace Go.Proofs.Ytdmlmjmdpmmcgaa
open Go.RowKit Go.Deep Go.Maps
set_option linter.unusedVariables false
set_option maxRecDepth 100000

/-- a sector as an element of a map reads as its cells -/
def secR (v : Value) : Option (DataW (Array Value) × List MemPlace) := match v with
  | .agg cs => some (.held cs, [])
  | _ => none
theorem secR_inv {v : Value} {cs : Array Value} {ps : List MemPlace} (h : secR v = some (.held cs, ps)) : v = .agg cs := by
  unfold secR at h
  split at h
  · cases h; rfl
  · cases h
abbrev kl (n : Int) : Lit := .int .i64 n
theorem kl_key (n : Int) : WideAt.IsKeyLit (kl n) := trivial
theorem kl_ne {a b : Int} (h : a ≠ b) : kl a ≠ kl b := fun e => h (by injection e)
/-- texts, bools, bytes as cells -/
def gT (t : Nat → ByteArray) : Nat → Nat → Value := fun i _ => .string (t i)
def gO (b : Nat → Bool) : Nat → Nat → Value := fun i _ => .bool (b i)
def gB (f : Nat → Nat → Int) : Nat → Nat → Value := fun i j => .int .u8 (f i j)
def secV (f : Nat → Int) : List Value := (List.range 64).map fun j => .int .u8 (f j)
theorem secV_len (f : Nat → Int) : (secV f).length = 64 := by simp [secV]
theorem secV_size (f : Nat → Int) : (secV f).toArray.size = 64 := by simp [secV]
theorem secV_at (f : Nat → Int) {j : Nat} (h : j < 64) : (secV f)[j]'(by rw [secV_len]; exact h) = .int .u8 (f j) := by simp [secV]
theorem secV_at? (f : Nat → Int) {j : Nat} (h : j < 64) : (secV f)[j]? = some (.int .u8 (f j)) := by rw [List.getElem?_eq_getElem (by rw [secV_len]; exact h), secV_at f h]
theorem secV_one (f : Nat → Int) : ∀ v ∈ secV f, v.oneCell' = true := by
  intro v hv
  obtain ⟨j, _, rfl⟩ := List.mem_map.1 hv
  rfl
theorem secV_ext {f g : Nat → Int} (h : ∀ j, j < 64 → f j = g j) : secV f = secV g := by
  unfold secV
  apply List.map_congr_left
  intro j hj
  rw [h j (List.mem_range.1 hj)]

/-- what a row holds, behind many stores -/
theorem block_setCells {T : TypeId} {fz : Nat × Nat} (b : Nat) : ∀ (vs : List Value) (o : Nat) (u : World), (∃ cs, u.heap[b]? = some (.cells cs T fz)) → ∃ cs, (u.setCells b o vs).heap[b]? = some (.cells cs T fz)
  | [], _, _, h => h
  | v :: r, o, u, ⟨cs, h⟩ => block_setCells b r (o + 1) _ ⟨_, Joins.block_setCell h v⟩
section
variable {T : TypeId} {C b n : Nat} {G : Nat → Nat → Value} {v : Value} {u : World}
theorem RowB.sets (h : RowB T C b G n v u) {i o : Nat} (hi : i < n) (vs : List Value) (ho : o + vs.length ≤ C) {G2 : Nat → Nat → Value}
    (h0 : ∀ k (hk : k < vs.length), G2 i (o + k) = vs[k]) (h1 : ∀ i2, i2 < n → ∀ j, j < C → ¬ (i2 = i ∧ o ≤ j ∧ j < o + vs.length) → G2 i2 j = G i2 j) : RowB T C b G2 n v (u.setCells b (i * C + o) vs) := by
  refine ⟨h.v, block_setCells b vs _ u h.b, fun i2 hi2 j hj => ?_⟩
  by_cases c : i2 = i ∧ o ≤ j ∧ j < o + vs.length
  · obtain ⟨rfl, c1, c2⟩ := c
    have := World.cell?_setCells_in b vs (i2 * C + o) u (fun q hq => by
      have := h.c i2 hi (o + q) (by omega)
      rw [show i2 * C + o + q = i2 * C + (o + q) by omega, this]; rfl) (j - o) (by omega)
    rw [show i2 * C + o + (j - o) = i2 * C + j by omega] at this
    rw [this, ← h0 (j - o) (by omega), show o + (j - o) = j by omega]
  · rw [h1 i2 hi2 j hj c]
    rw [World.cell?_setCells_out b vs (i * C + o) u ⟨b, i2 * C + j, none⟩ (fun _ _ => by
      show i2 * C + j < i * C + o ∨ i * C + o + vs.length ≤ i2 * C + j
      by_cases d : i2 = i
      · subst d; omega
      · rcases Nat.lt_or_gt_of_ne d with d | d
        · left
          have : (i2 + 1) * C ≤ i * C := Nat.mul_le_mul_right C d
          rw [Nat.add_mul, Nat.one_mul] at this
          omega
        · right
          have : (i + 1) * C ≤ i2 * C := Nat.mul_le_mul_right C d
          rw [Nat.add_mul, Nat.one_mul] at this
          omega)]
    exact h.c i2 hi2 j hj
theorem RowB.there (h : RowB T C b G n v u) {i : Nat} (hi : i < n) (o m : Nat) (hm : o + m ≤ C) : u.there b (i * C + o) m := fun j hj => by
  have := h.c i hi (o + j) (by omega)
  rw [← Nat.add_assoc] at this
  exact ⟨by rw [this]; rfl, h.frozen _⟩
end
theorem RowB.range {T : TypeId} {b n : Nat} {f : Nat → Nat → Int} {v : Value} {u : World} (h : RowB T 64 b (gB f) n v u) {i : Nat} (hi : i < n) : u.rangeAt b (i * 64) (secV (f i)) := by
  intro j x hx
  have hj : j < 64 := by
    rcases Nat.lt_or_ge j 64 with c | c
    · exact c
    · rw [List.getElem?_eq_none (by rw [secV_len]; exact c)] at hx; cases hx
  rw [secV_at? _ hj] at hx
  rw [h.c i hi j hj, ← hx]; rfl

/-- 'copy(dst, s)' from a text into cells that are there -/
theorem run_copy_text {P : Program} (w : World) (dT sT ty elem : TypeId) (b o dLen dCap : Nat) (s : ByteArray)
    (hu : P.underlying dT = some (.slice elem)) (hs : (P.info? elem).map (·.size) = some 1) (ht : w.there b o (Nat.min s.size dLen)) :
    (Builtin.copy_ #[dT, sT] ty #[.slice (some ⟨b, o, none⟩) dLen dCap, .string s]).run P w =
      .ok (goInt (Nat.min s.size dLen)) (w.setCells b o ((Lib.byteCells s.data.toList).take (Nat.min s.size dLen))) := by
  have hsz : s.data.toList.length = s.size := by simp
  have hl : ((Lib.byteCells s.data.toList).take (Nat.min s.size dLen)).length = Nat.min s.size dLen := by
    rw [List.length_take, Lib.byteCells_length, hsz]
    exact Nat.min_eq_left (Nat.min_le_left _ _)
  have hst := run_storeCells_cells (P := P) b o ((Lib.byteCells s.data.toList).take (Nat.min s.size dLen)) 0 w (fun j hj => by simpa using (ht j (by rw [hl] at hj; exact hj)).1) (fun j hj => by simpa using (ht j (by rw [hl] at hj; exact hj)).2)
    (fun v hv => Lib.byteCells_one _ v (List.mem_of_mem_take hv))
  have e : List.take (Nat.min s.size dLen) (List.map (fun b : UInt8 => Value.int IntKind.u8 (b.toNat : Int)) s.data.toList) = (Lib.byteCells s.data.toList).take (Nat.min s.size dLen) := rfl
  rw [Nat.add_zero] at hst
  cases hq : P.info? elem with
  | none => simp [hq] at hs
  | some i =>
    simp [Builtin.copy_, run_underlying hu, Builtin.lenOf, Builtin.firstCells, sizeOf, typeInfo, hq]
    rw [e, hst]
    simp [Result.andThen]
theorem byD_cell (s : ByteArray) {j : Nat} (h : j < s.size) : (Lib.byteCells s.data.toList)[j]? = some (.int .u8 (byD s j)) := by
  have hs : s.data.toList.length = s.size := by simp
  simp only [Lib.byteCells, List.getElem?_map, List.getElem?_eq_getElem (show j < s.data.toList.length by omega), Option.map_some]
  unfold byD
  rw [List.getD_eq_getElem?_getD, List.getElem?_eq_getElem (by omega)]
  rfl

theorem lawInt : Keyed Try.prog 3 := int_keyed Try.underlying3
/-- a map's bound is its size -/
theorem own_tight {P : Program} {k : TypeId} {R : Value → Option (DataW (Array Value) × List MemPlace)} {w : World} {b n : Nat} {D : DataW (Array Value)} (h : w.ownsMap P k R b n D) : w.ownsMap P k R b (Maps.size D) D := by
  obtain ⟨es, clock, hb, F, hs, rfl⟩ := h
  exact ⟨es, clock, hb, F, by simp [Maps.size, length_sorted], rfl⟩

/-- the map, and what it holds: of each loose sector what is safe -/
def MpD (bm n : Nat) (is : Nat → Bool) (sf : Nat → Nat → Int) (u : World) : Prop :=
  ∃ D, u.ownsMap Try.prog 3 secR bm n D ∧ Tidy D ∧ (∀ q : Int, Maps.has D (kl q) = true ↔ ∃ i : Nat, i < n ∧ q = (i : Int) ∧ is i = true) ∧ (∀ i, i < n → is i = true → ∀ z, D.atKey (kl (i : Int)) z = .held (secV (sf i)).toArray) ∧ Maps.size D = looseN is n
section
variable {bm n : Nat} {is : Nat → Bool} {sf : Nat → Nat → Int} {u u2 : World}
theorem MpD.kept (h : MpD bm n is sf u) (e : u2.heap[bm]? = u.heap[bm]?) : MpD bm n is sf u2 := by
  obtain ⟨D, ⟨es, ck, h1, h2⟩, h3⟩ := h
  exact ⟨D, ⟨es, ck, e.trans h1, h2⟩, h3⟩
theorem MpD.blk (h : MpD bm n is sf u) : ∃ es ck, u.heap[bm]? = some (.map es ck) := by
  obtain ⟨D, ⟨es, ck, h1, _⟩, _⟩ := h
  exact ⟨es, ck, h1⟩
theorem MpD.congr (h : MpD bm n is sf u) {is2 : Nat → Bool} {sf2 : Nat → Nat → Int} (e : ∀ i, i < n → is2 i = is i) (e2 : ∀ i, i < n → is i = true → ∀ j, j < 64 → sf2 i j = sf i j) : MpD bm n is2 sf2 u := by
  obtain ⟨D, h1, h2, h3, h4, h5⟩ := h
  refine ⟨D, h1, h2, fun q => (h3 q).trans ⟨?_, ?_⟩, fun i hi hs z => ?_, by rw [h5]; exact (looseN_ext e).symm⟩
  · rintro ⟨i, a, b, c⟩; exact ⟨i, a, b, by rw [e i a]; exact c⟩
  · rintro ⟨i, a, b, c⟩; exact ⟨i, a, b, by rw [e i a] at c; exact c⟩
  · rw [e i hi] at hs
    rw [h4 i hi hs z, secV_ext (e2 i hi hs)]
theorem MpD.none (h : u.heap[bm]? = some (.map #[] 0)) (hi : ∀ i, is i = false) : MpD bm n is sf u :=
  ⟨.map [], ⟨#[], 0, h, ⟨by simp, MapKept.stamped_empty 0, by simp⟩, Nat.zero_le _, rfl⟩, tidy_empty, fun q => by simp [Maps.has, hi], fun i _ hs => (by rw [hi i] at hs; cases hs), by rw [looseN_none hi]; rfl⟩
/-- how a map's look answers -/
theorem MpD.look (h : MpD bm n is sf u) {z : Value} {zc : Array Value} (hz : (zeroValue 85).run Try.prog u = .ok z u) (hzc : z = .agg zc) {i : Nat} (hi : i < n) (hn : n ≤ 4096) :
    ∃ c, (Instr.lookup 80 (.map (some bm)) (.int .i64 (i : Int)) true).run Try.prog u = .ok (.tuple #[.agg c, .bool (is i)]) u ∧ c.size = (if is i then 64 else zc.size) ∧ (is i = true → c = (secV (sf i)).toArray) ∧ (is i = false → c = zc) := by
  subst hzc
  obtain ⟨D, h1, h2, h3, h4, h5⟩ := h
  have hw : (Lit.int .i64 (i : Int)).wf = true := WalkArith.wf_i64 (by omega)
  obtain ⟨v, ps, r1, r2⟩ := h1.look_ok lawInt Try.underlying80 hz (zd := .held zc) (zp := []) rfl (keyOf_int_mk Try.underlying3 hw)
  cases c : is i with
  | true =>
    rw [h4 i hi c] at r2
    have := secR_inv r2
    subst this
    have hh : Maps.has D (kl i) = true := (h3 i).2 ⟨i, hi, rfl, c⟩
    rw [hh] at r1
    exact ⟨_, r1, by simp [secV_len], fun _ => rfl, fun e => (by cases e)⟩
  | false =>
    have hh : Maps.has D (kl i) = false := by
      cases c2 : Maps.has D (kl i) with
      | false => rfl
      | true =>
        obtain ⟨i2, _, e, hs⟩ := (h3 i).1 c2
        obtain rfl : i2 = i := by omega
        rw [c] at hs; cases hs
    have hat : D.atKey (kl i) (.held zc) = .held zc := atKey_of_not_has hh _
    rw [hat] at r2
    have := secR_inv r2
    subst this
    rw [hh] at r1
    exact ⟨_, r1, by simp, fun e => (by cases e), fun _ => rfl⟩
theorem upd_loose {is : Nat → Bool} {i : Nat} (h : is i = false) : ∀ n, i < n → looseN (upd is i true) n = looseN is n + 1
  | 0, hn => by omega
  | n + 1, hn => by
    simp only [looseN]
    by_cases e : i = n
    · subst e
      rw [upd_at, h, looseN_ext (b := is) (fun k hk => upd_else _ _ _ _ (by omega))]
      simp
    · rw [upd_loose h n (by omega), upd_else _ _ _ _ (fun e2 => e e2.symm)]
      omega
/-- one more loose sector -/
theorem MpD.put (h : MpD bm n is sf u) {i : Nat} (hi : i < n) (hn : n ≤ 4096) (h0 : is i = false) (f : Nat → Int) : ∃ u2, (Instr.mapUpdate 80 (.map (some bm)) (.int .i64 (i : Int)) (.agg (secV f).toArray)).run Try.prog u = .ok () u2 ∧ MpD bm n (upd is i true) (upd sf i f) u2 ∧ u.grownBy u2 (some bm) ∧ u2.heap.size = u.heap.size := by
  obtain ⟨D, h1, h2, h3, h4, h5⟩ := h
  have hw : (Lit.int .i64 (i : Int)).wf = true := WalkArith.wf_i64 (by omega)
  obtain ⟨u2, r1, r2, r3⟩ := h1.store lawInt Try.underlying80 (by unfold maxLen; omega) (keyOf_int_mk Try.underlying3 hw) (show secR (.agg (secV f).toArray) = some (.held (secV f).toArray, []) from rfl)
  have hh : Maps.has D (kl i) = false := by
    cases c2 : Maps.has D (kl i) with
    | false => rfl
    | true =>
      obtain ⟨i2, _, e, hs⟩ := (h3 i).1 c2
      obtain rfl : i2 = i := by omega
      rw [h0] at hs; cases hs
  have hsz : Maps.size (D.put (kl i) (.held (secV f).toArray)) = looseN (upd is i true) n := by
    rw [size_put h2, hh, h5, upd_loose h0 n hi]; rfl
  refine ⟨u2, r1, ⟨_, (own_tight r2).mono (by rw [hsz]; exact looseN_le _ _), h2.put (kl_key _) _, fun q => ?_, fun k hk hs z => ?_, hsz⟩, r3.grown, ?_⟩
  · by_cases c : q = (i : Int)
    · subst c
      rw [has_put_same h2.isMap (kl_key _)]
      exact ⟨fun _ => ⟨i, hi, rfl, upd_at _ _ _⟩, fun _ => rfl⟩
    · rw [has_put_other (kl_ne c), h3 q]
      constructor
      · rintro ⟨k, a, rfl, b⟩
        exact ⟨k, a, rfl, by rw [upd_else _ _ _ _ (by omega)]; exact b⟩
      · rintro ⟨k, a, rfl, b⟩
        exact ⟨k, a, rfl, by rw [upd_else _ _ _ _ (by omega)] at b; exact b⟩
  · by_cases c : k = i
    · subst c
      rw [upd_at]
      exact atKey_put_same h2.isMap (kl_key _) _ _
    · rw [upd_else _ _ _ _ c]
      rw [upd_else _ _ _ _ c] at hs
      rw [atKey_put_other (kl_ne (by omega))]
      exact h4 k hk hs z
  · obtain ⟨es, ck, es2, ck2, _, rfl⟩ := r3
    simp [ChangeMaps.setBlock]
theorem MpD.len (h : MpD bm n is sf u) (ty : TypeId) : (Builtin.len_ #[80] ty #[.map (some bm)]).run Try.prog u = .ok (.int .i64 (looseN is n)) u := by
  obtain ⟨D, h1, h2, h3, h4, h5⟩ := h
  rw [← h5]
  exact h1.len Try.underlying80 ty
end

/-! ### the program's disk -/
def pbx (bS cS bm : Nat) (d : Dk) : Array Value := #[.slice (some ⟨bS, 0, none⟩) d.n cS, .map (some bm), .int .i64 (d.calls : Int), .int .i64 (d.arm : Int), .bool d.down]
structure PDk (base P bS bm cS : Nat) (d : Dk) (u : World) : Prop where
  box : u.heap[P]? = some (.cells (pbx bS cS bm d) 82 (0, 0))
  row : RowB 85 64 bS (gB (nowD d)) d.n (.slice (some ⟨bS, 0, none⟩) d.n cS) u
  mp : MpD bm d.n d.is d.sf u
  lo : base ≤ P ∧ base ≤ bS ∧ base ≤ bm
def P3 (P bS bm : Nat) : Nat → Bool := fun k => k == P || k == bS || k == bm
theorem P3.a (P bS bm : Nat) : P3 P bS bm P = true := by simp [P3]
theorem P3.b (P bS bm : Nat) : P3 P bS bm bS = true := by simp [P3]
theorem P3.c (P bS bm : Nat) : P3 P bS bm bm = true := by simp [P3]
theorem P3.no {P bS bm k : Nat} (h1 : k ≠ P) (h2 : k ≠ bS) (h3 : k ≠ bm) : P3 P bS bm k = false := by simp [P3, h1, h2, h3]
section
variable {base P bS bm bm2 cS : Nat} {d d2 : Dk} {u u2 : World}
theorem PDk.lt (h : PDk base P bS bm cS d u) : P < u.heap.size ∧ bS < u.heap.size ∧ bm < u.heap.size := by
  obtain ⟨es, ck, e⟩ := h.mp.blk
  exact ⟨lt_of_block h.box, h.row.lt, (Array.getElem?_eq_some_iff.1 e).1⟩
theorem PDk.ne (h : PDk base P bS bm cS d u) : P ≠ bS ∧ P ≠ bm ∧ bS ≠ bm := by
  obtain ⟨es, ck, e⟩ := h.mp.blk
  obtain ⟨cs, eb⟩ := h.row.b
  have h1 := h.box
  refine ⟨?_, ?_, ?_⟩
  · rintro rfl
    rw [eb] at h1
    simp only [Option.some.injEq, Obj.cells.injEq] at h1
    exact absurd h1.2.1 (by decide)
  · rintro rfl; rw [e] at h1; cases h1
  · rintro rfl; rw [e] at eb; cases eb
theorem PDk.kept (h : PDk base P bS bm cS d u) (e1 : u2.heap[P]? = u.heap[P]?) (e2 : u2.heap[bS]? = u.heap[bS]?) (e3 : u2.heap[bm]? = u.heap[bm]?) : PDk base P bS bm cS d u2 :=
  ⟨e1.trans h.box, h.row.kept e2, h.mp.kept e3, h.lo⟩
theorem PDk.below (h : PDk base P bS bm cS d u) (k : Below u.heap.size u u2) : PDk base P bS bm cS d u2 :=
  h.kept (k.block _ h.lt.1) (k.block _ h.lt.2.1) (k.block _ h.lt.2.2)
theorem PDk.congr (h : PDk base P bS bm cS d u) (hn : d2.n = d.n) (ha : d2.arm = d.arm) (hc : d2.calls = d.calls) (hd : d2.down = d.down) (e : ∀ i, i < d.n → d2.is i = d.is i) (e2 : ∀ i, i < d.n → d.is i = true → ∀ j, j < 64 → d2.sf i j = d.sf i j)
    (e3 : ∀ i, i < d.n → ∀ j, j < 64 → nowD d2 i j = nowD d i j) : PDk base P bS bm cS d2 u := by
  refine ⟨?_, ?_, ?_, h.lo⟩
  · rw [h.box]; unfold pbx; rw [hn, ha, hc, hd]
  · rw [hn]
    exact h.row.congr fun i hi j hj => by unfold gB; rw [e3 i hi j hj]
  · rw [hn]
    exact h.mp.congr e e2
theorem PDk.cells (h : PDk base P bS bm cS d u) : u.cell? ⟨P, 0, none⟩ = some (.slice (some ⟨bS, 0, none⟩) d.n cS) ∧ u.cell? ⟨P, 1, none⟩ = some (.map (some bm)) ∧ u.cell? ⟨P, 2, none⟩ = some (.int .i64 (d.calls : Int)) ∧ u.cell? ⟨P, 3, none⟩ = some (.int .i64 (d.arm : Int)) ∧ u.cell? ⟨P, 4, none⟩ = some (.bool d.down) ∧ ∀ q, u.frozen? ⟨P, q, none⟩ = false := by
  refine ⟨?_, ?_, ?_, ?_, ?_, fun q => Lib.frozen_of_heap h.box q⟩ <;> (rw [Lib.cell_of_heap h.box]; rfl)
theorem PDk.bot (h : PDk base P bS bm cS d u) (k : KpS (P3 P bS bm) u u2) (hb : base ≤ u.heap.size) : Below base u u2 :=
  k.bot hb fun q hq => P3.no (by have := h.lo.1; omega) (by have := h.lo.2.1; omega) (by have := h.lo.2.2; omega)
end
theorem PDk.mono {base base2 P bS bm cS : Nat} {d : Dk} {u : World} (h : PDk base P bS bm cS d u) (hb : base2 ≤ base) : PDk base2 P bS bm cS d u :=
  ⟨h.box, h.row, h.mp, Nat.le_trans hb h.lo.1, Nat.le_trans hb h.lo.2.1, Nat.le_trans hb h.lo.2.2⟩

/-! ### the document's disk -/
def rbx (b1 b2 b3 c1 c2 c3 : Nat) (d : Dk) : Array Value := #[.slice (some ⟨b1, 0, none⟩) d.n c1, .slice (some ⟨b2, 0, none⟩) d.n c2, .slice (some ⟨b3, 0, none⟩) d.n c3, .int .i64 (d.arm : Int), .int .i64 (d.calls : Int), .bool d.down]
structure RDk (base Q b1 b2 b3 c1 c2 c3 : Nat) (d : Dk) (u : World) : Prop where
  box : u.heap[Q]? = some (.cells (rbx b1 b2 b3 c1 c2 c3 d) 53 (0, 0))
  r1 : RowB 9 1 b1 (gT fun i => sec (d.sf i)) d.n (.slice (some ⟨b1, 0, none⟩) d.n c1) u
  r2 : ∃ t, RowB 9 1 b2 (gT t) d.n (.slice (some ⟨b2, 0, none⟩) d.n c2) u ∧ ∀ i, i < d.n → d.is i = true → t i = sec (d.nw i)
  r3 : RowB 4 1 b3 (gO d.is) d.n (.slice (some ⟨b3, 0, none⟩) d.n c3) u
  ne : b1 ≠ b2
  lo : base ≤ Q ∧ base ≤ b1 ∧ base ≤ b2 ∧ base ≤ b3
def R4 (Q b1 b2 b3 : Nat) : Nat → Bool := fun k => k == Q || k == b1 || k == b2 || k == b3
theorem R4.a (Q b1 b2 b3 : Nat) : R4 Q b1 b2 b3 Q = true := by simp [R4]
theorem R4.b (Q b1 b2 b3 : Nat) : R4 Q b1 b2 b3 b1 = true := by simp [R4]
theorem R4.c (Q b1 b2 b3 : Nat) : R4 Q b1 b2 b3 b2 = true := by simp [R4]
theorem R4.d (Q b1 b2 b3 : Nat) : R4 Q b1 b2 b3 b3 = true := by simp [R4]
theorem R4.no {Q b1 b2 b3 k : Nat} (h1 : k ≠ Q) (h2 : k ≠ b1) (h3 : k ≠ b2) (h4 : k ≠ b3) : R4 Q b1 b2 b3 k = false := by simp [R4, h1, h2, h3, h4]
theorem blocks_ne {u : World} {a b : Nat} {c1 c2 : Array Value} {t1 t2 : TypeId} {f1 f2 : Nat × Nat} (h1 : u.heap[a]? = some (.cells c1 t1 f1)) (h2 : u.heap[b]? = some (.cells c2 t2 f2)) (h : t1 ≠ t2) : a ≠ b := by
  rintro rfl
  rw [h1] at h2
  simp only [Option.some.injEq, Obj.cells.injEq] at h2
  exact h h2.2.1
theorem blocks_ne_map {u : World} {a b : Nat} {c1 : Array Value} {t1 : TypeId} {f1 : Nat × Nat} {es : Array MapEntry} {ck : Nat} (h1 : u.heap[a]? = some (.cells c1 t1 f1)) (h2 : u.heap[b]? = some (.map es ck)) : a ≠ b := by
  rintro rfl
  rw [h1] at h2; cases h2
section
variable {base Q b1 b2 b3 c1 c2 c3 : Nat} {d d2 : Dk} {u u2 : World}
theorem RDk.lt (h : RDk base Q b1 b2 b3 c1 c2 c3 d u) : Q < u.heap.size ∧ b1 < u.heap.size ∧ b2 < u.heap.size ∧ b3 < u.heap.size := by
  obtain ⟨t, r, _⟩ := h.r2
  exact ⟨lt_of_block h.box, h.r1.lt, r.lt, h.r3.lt⟩
theorem RDk.nes (h : RDk base Q b1 b2 b3 c1 c2 c3 d u) : Q ≠ b1 ∧ Q ≠ b2 ∧ Q ≠ b3 ∧ b1 ≠ b2 ∧ b1 ≠ b3 ∧ b2 ≠ b3 := by
  obtain ⟨t, r, _⟩ := h.r2
  obtain ⟨_, e1⟩ := h.r1.b
  obtain ⟨_, e2⟩ := r.b
  obtain ⟨_, e3⟩ := h.r3.b
  exact ⟨blocks_ne h.box e1 (by decide), blocks_ne h.box e2 (by decide), blocks_ne h.box e3 (by decide), h.ne, blocks_ne e1 e3 (by decide), blocks_ne e2 e3 (by decide)⟩
theorem RDk.kept (h : RDk base Q b1 b2 b3 c1 c2 c3 d u) (e0 : u2.heap[Q]? = u.heap[Q]?) (e1 : u2.heap[b1]? = u.heap[b1]?) (e2 : u2.heap[b2]? = u.heap[b2]?) (e3 : u2.heap[b3]? = u.heap[b3]?) : RDk base Q b1 b2 b3 c1 c2 c3 d u2 := by
  obtain ⟨t, r, ht⟩ := h.r2
  exact ⟨e0.trans h.box, h.r1.kept e1, ⟨t, r.kept e2, ht⟩, h.r3.kept e3, h.ne, h.lo⟩
theorem RDk.below (h : RDk base Q b1 b2 b3 c1 c2 c3 d u) (k : Below u.heap.size u u2) : RDk base Q b1 b2 b3 c1 c2 c3 d u2 :=
  h.kept (k.block _ h.lt.1) (k.block _ h.lt.2.1) (k.block _ h.lt.2.2.1) (k.block _ h.lt.2.2.2)
theorem RDk.congr (h : RDk base Q b1 b2 b3 c1 c2 c3 d u) (hn : d2.n = d.n) (ha : d2.arm = d.arm) (hc : d2.calls = d.calls) (hd : d2.down = d.down) (e : ∀ i, i < d.n → d2.is i = d.is i) (e2 : ∀ i, i < d.n → ∀ j, j < 64 → d2.sf i j = d.sf i j)
    (e3 : ∀ i, i < d.n → d.is i = true → ∀ j, j < 64 → d2.nw i j = d.nw i j) : RDk base Q b1 b2 b3 c1 c2 c3 d2 u := by
  obtain ⟨t, r, ht⟩ := h.r2
  refine ⟨?_, ?_, ⟨t, by rw [hn]; exact r, fun i hi hs => ?_⟩, ?_, h.ne, h.lo⟩
  · rw [h.box]; unfold rbx; rw [hn, ha, hc, hd]
  · rw [hn]
    exact h.r1.congr fun i hi j hj => by show Value.string _ = Value.string _; exact congrArg _ (sec_ext (e2 i hi))
  · rw [hn] at hi
    rw [e i hi] at hs
    rw [ht i hi hs, sec_ext (e3 i hi hs)]
  · rw [hn]
    exact h.r3.congr fun i hi j hj => by unfold gO; rw [e i hi]
theorem RDk.cells (h : RDk base Q b1 b2 b3 c1 c2 c3 d u) : u.cell? ⟨Q, 0, none⟩ = some (.slice (some ⟨b1, 0, none⟩) d.n c1) ∧ u.cell? ⟨Q, 1, none⟩ = some (.slice (some ⟨b2, 0, none⟩) d.n c2) ∧ u.cell? ⟨Q, 2, none⟩ = some (.slice (some ⟨b3, 0, none⟩) d.n c3) ∧ u.cell? ⟨Q, 3, none⟩ = some (.int .i64 (d.arm : Int)) ∧ u.cell? ⟨Q, 4, none⟩ = some (.int .i64 (d.calls : Int)) ∧ u.cell? ⟨Q, 5, none⟩ = some (.bool d.down) ∧ ∀ q, u.frozen? ⟨Q, q, none⟩ = false := by
  refine ⟨?_, ?_, ?_, ?_, ?_, ?_, fun q => Lib.frozen_of_heap h.box q⟩ <;> (rw [Lib.cell_of_heap h.box]; rfl)
theorem RDk.bot (h : RDk base Q b1 b2 b3 c1 c2 c3 d u) (k : KpS (R4 Q b1 b2 b3) u u2) (hb : base ≤ u.heap.size) : Below base u u2 :=
  k.bot hb fun q hq => R4.no (by have := h.lo.1; omega) (by have := h.lo.2.1; omega) (by have := h.lo.2.2.1; omega) (by have := h.lo.2.2.2; omega)
end

/-! ### one is written, the other stays -/
section
variable {base base2 P bS bm cS Q b1 b2 b3 c1 c2 c3 : Nat} {d d2 : Dk} {u u2 : World}
theorem PDk.beside (h : PDk base P bS bm cS d u) (k : RDk base2 Q b1 b2 b3 c1 c2 c3 d2 u) : ∀ q, R4 Q b1 b2 b3 q = true → P3 P bS bm q = false := by
  obtain ⟨t, r, _⟩ := k.r2
  obtain ⟨_, e1⟩ := k.r1.b
  obtain ⟨_, e2⟩ := r.b
  obtain ⟨_, e3⟩ := k.r3.b
  obtain ⟨_, f1⟩ := h.row.b
  obtain ⟨_, _, f2⟩ := h.mp.blk
  intro q hq
  unfold R4 at hq
  simp only [Bool.or_eq_true, beq_iff_eq] at hq
  rcases hq with ((rfl | rfl) | rfl) | rfl
  · exact P3.no (blocks_ne k.box h.box (by decide)) (blocks_ne k.box f1 (by decide)) (blocks_ne_map k.box f2)
  · exact P3.no (blocks_ne e1 h.box (by decide)) (blocks_ne e1 f1 (by decide)) (blocks_ne_map e1 f2)
  · exact P3.no (blocks_ne e2 h.box (by decide)) (blocks_ne e2 f1 (by decide)) (blocks_ne_map e2 f2)
  · exact P3.no (blocks_ne e3 h.box (by decide)) (blocks_ne e3 f1 (by decide)) (blocks_ne_map e3 f2)
theorem RDk.stays (k : RDk base2 Q b1 b2 b3 c1 c2 c3 d2 u) (h : PDk base P bS bm cS d u) (kp : KpS (P3 P bS bm) u u2) : RDk base2 Q b1 b2 b3 c1 c2 c3 d2 u2 := by
  have hb := h.beside k
  exact k.kept (kp.blk k.lt.1 (hb _ (R4.a ..))) (kp.blk k.lt.2.1 (hb _ (R4.b ..))) (kp.blk k.lt.2.2.1 (hb _ (R4.c ..))) (kp.blk k.lt.2.2.2 (hb _ (R4.d ..)))
theorem PDk.stays (h : PDk base P bS bm cS d u) (k : RDk base2 Q b1 b2 b3 c1 c2 c3 d2 u) (kp : KpS (R4 Q b1 b2 b3) u u2) : PDk base P bS bm cS d u2 := by
  have hb := h.beside k
  have no : ∀ q, P3 P bS bm q = true → R4 Q b1 b2 b3 q = false := fun q hq => by
    cases c : R4 Q b1 b2 b3 q with
    | false => rfl
    | true => rw [hb q c] at hq; cases hq
  exact h.kept (kp.blk h.lt.1 (no _ (P3.a ..))) (kp.blk h.lt.2.1 (no _ (P3.b ..))) (kp.blk h.lt.2.2 (no _ (P3.c ..)))
end

end Go.Proofs.Ytdmlmjmdpmmcgaa
