/- A row of bytes that the call owns, of which nothing is frozen (also one that a conversion '[]byte(s)' has made, whose mark lies behind its end): append of a string's bytes to it. append of a row's cells to a row of bytes; a text's bytes as cells. (Moved out of DkFill, DkMem.) The document's disk and the program's in memory: a struct, rows and a map in blocks of their own, which are written again and again. Takes out of a drawn region, said shortly: an operation that is not wanted, one that only reads. -/
import Derived.Lib.Builder
import Derived.Laws.Tables
import Derived.Lib.FrozenHead
import Derived.Laws.IdiomStrings
import Derived.Deep.AppendSrc
import Derived.Laws.BytesArg
import Derived.Maps.RangeWalk
import Derived.Deep.MidRow
import Derived.Lib.BufferWrite
import Derived.WalkKit
import Derived.Deep.RegionHeld3
import Derived.Test.YtdpmpmaepjgndaaGreatYZ0
import Derived.Test.YtdpmpmaepjgndaaGreatYZ2
namespace Go.Proofs.YtdpmpmaepjgndaaGreat
open Go.RowKit

/-- no cell of the row is frozen -/
def FreeRow (cur : Array Value) (fz : Nat × Nat) : Prop := ∀ i, i < cur.size → ¬ (fz.1 ≤ i ∧ i < fz.2)

/-- the slice v, of n bytes, owns the cells xs -/
def OwnsB (w : World) (base : Nat) (e : TypeId) (v : Value) (n : Nat) (xs : List Value) : Prop :=
  xs.length = n ∧ ∃ g cap cur fz, v = .slice (some ⟨g, 0, none⟩) n cap ∧ base ≤ g ∧ w.heap[g]? = some (.cells cur e fz) ∧ FreeRow cur fz ∧ n ≤ cap ∧ cap ≤ maxLen ∧ cur.size = cap ∧ cur.toList.take n = xs

theorem storeCells_free (P : Program) (g o : Nat) (t : TypeId) (fz : Nat × Nat) : ∀ (vs : List Value) (i : Nat) (cur : Array Value) (w : World), w.heap[g]? = some (.cells cur t fz) → FreeRow cur fz → o + i + vs.length ≤ cur.size → (∀ v ∈ vs, v.oneCell' = true) →
    (storeCells ⟨g, o, none⟩ vs i).run P w = .ok () (w.setRow g (cur.toList.take (o + i) ++ vs ++ cur.toList.drop (o + i + vs.length)).toArray)
  | [], i, cur, w, hg, _, _, _ => by
    simp only [storeCells, List.append_nil, List.length_nil, Nat.add_zero, List.take_append_drop, Array.toArray_toList]
    rw [setRow_self w g cur t fz hg]
    rfl
  | v :: rest, i, cur, w, hg, hfz, hl, h1 => by
    have hi : o + i < cur.size := by simp at hl; omega
    have hadd : (⟨g, o, none⟩ : Addr).add i = ⟨g, o + i, none⟩ := by unfold Addr.add; split <;> simp_all
    have hcell : w.cell? ⟨g, o + i, none⟩ = some cur[o + i] := by simp [World.cell?, hg, hi]
    have hfro : w.frozen? ⟨g, o + i, none⟩ = false := by
      have := hfz (o + i) hi
      obtain ⟨lo, hi'⟩ := fz
      simp only [World.frozen?, hg, Bool.and_eq_false_iff, decide_eq_false_iff_not]
      simp only at this
      omega
    have hst : (store ((⟨g, o, none⟩ : Addr).add i) v).run P w = .ok () (w.setRow g (cur.setIfInBounds (o + i) v)) := by
      rw [hadd, run_store P w _ v _ (h1 v (by simp)), hcell]
      simp [hfro, setCell_eq_setRow w g (o + i) cur t fz v hg]
    have ih := storeCells_free P g o t fz rest (i + 1) (cur.setIfInBounds (o + i) v) (w.setRow g (cur.setIfInBounds (o + i) v)) (setRow_heap w g cur _ t _ hg) (by intro j hj; exact hfz j (by simpa using hj)) (by simp at hl ⊢; omega) (fun x hx => h1 x (by simp [hx]))
    simp only [storeCells, Sem.run_bind, hst, Result.andThen_ok, ih, setRow_setRow]
    congr 3
    have e := list_seg_step cur.toList (o + i) v rest (by simp at hl ⊢; omega)
    simpa [Array.toList_setIfInBounds, Nat.add_assoc] using e

section
variable {P : Program} (w : World)
/-- '[]byte(s)' -/
theorem run_bytes_free (src dst e : TypeId) (s : ByteArray) (hs : P.underlying src = some .string) (hd : P.underlying dst = some (.slice e)) (he : P.underlying e = some (.int .u8)) (hm : s.size ≤ maxLen) :
    ∃ v w', (convert src dst (.string s)).run P w = .ok v w' ∧ OwnsB w' w.heap.size e v s.size (Lib.strCells s) ∧ Below w.heap.size w w' := by
  have hr := run_bytes_of_string (P := P) w src dst e s hs hd he
  have hge := grownCap_ge w s.size 0 e
  have hcm := grownCap_le_maxLen w s.size 0 e hm
  have hsz : (bytesRow s (grownCap w s.size 0 e)).size = grownCap w s.size 0 e := by
    unfold bytesRow; simp only [Array.size_append, Array.size_map, Array.size_replicate]
    have : s.data.size = s.size := rfl
    omega
  refine ⟨_, _, hr, ⟨Lib.strCells_length s, w.heap.size, _, _, _, rfl, Nat.le_refl _, heap_alloc_new w.drew _, ?_, hge, hcm, hsz, ?_⟩, ((Below.refl _ w).drew).alloc (Nat.le_refl _) _⟩
  · intro j hj h; simp only at h; omega
  · unfold bytesRow Lib.strCells
    rw [Array.toList_append, Array.toList_map]
    have : (List.map (fun b : UInt8 => Value.int .u8 (b.toNat : Int)) s.data.toList).length = s.size := by simp
    rw [← this]
    exact List.take_left
end

theorem ownsB_below {w w' : World} {base : Nat} {e : TypeId} {v : Value} {n : Nat} {xs : List Value} (h : OwnsB w base e v n xs) (hb : Below w.heap.size w w') : OwnsB w' base e v n xs := by
  obtain ⟨h1, g, cap, cur, fz, hv, hbg, hg, rest⟩ := h
  have hgs : g < w.heap.size := (Array.getElem?_eq_some_iff.1 hg).1
  exact ⟨h1, g, cap, cur, fz, hv, hbg, by rw [hb.block g hgs]; exact hg, rest⟩

/-- the cells that such a slice holds -/
theorem ownsB_cells {w : World} {base : Nat} {e : TypeId} {v : Value} {n : Nat} {xs : List Value} (h : OwnsB w base e v n xs) : ∃ g cap, v = .slice (some ⟨g, 0, none⟩) n cap ∧ ∀ i, i < n → w.cell? ⟨g, 0 + i, none⟩ = xs[i]? := by
  obtain ⟨h1, g, cap, cur, fz, hv, hbg, hg, _, hnc, _, hcs, htake⟩ := h
  refine ⟨g, cap, hv, fun i hi => ?_⟩
  rw [Nat.zero_add, cell_of_row w g i cur e fz hg, ← htake, List.getElem?_take, if_pos hi]
  simp

end Go.Proofs.YtdpmpmaepjgndaaGreat
namespace Go.Proofs.YtdpmpmaepjgndaaGreat
open Go.RowKit
set_option linter.unusedVariables false
set_option linter.unusedSimpArgs false
set_option maxRecDepth 100000

theorem byD_cell (s : ByteArray) {j : Nat} (h : j < s.size) : (Lib.byteCells s.data.toList)[j]? = some (.int .u8 (byD s j)) := by
  have hs : s.data.toList.length = s.size := by simp
  simp only [Lib.byteCells, List.getElem?_map, List.getElem?_eq_getElem (show j < s.data.toList.length by omega), Option.map_some]
  unfold byD
  rw [List.getD_eq_getElem?_getD, List.getElem?_eq_getElem (by omega)]
  rfl

section
variable {P : Program} (w : World)
theorem append_room_src9 (t tx ty e : TypeId) (i : TypeInfo) (ht : P.underlying t = some (.slice e)) (hi : P.info? e = some i) (hs1 : i.size = 1)
    (g sLen sCap : Nat) (cur : Array Value) (fz : Nat × Nat) (hg : w.heap[g]? = some (.cells cur e fz)) (hfz : FreeRow cur fz) (x : Value) (n : Nat) (news : List Value) (hs : Src P 1 tx x n news w)
    (hroom : sLen + n ≤ sCap) (hfit : sLen + n ≤ cur.size) :
    (Builtin.append_ #[t, tx] ty #[.slice (some ⟨g, 0, none⟩) sLen sCap, x]).run P w =
      .ok (.slice (some ⟨g, 0, none⟩) (sLen + n) sCap) (w.setRow g (cur.toList.take sLen ++ news ++ cur.toList.drop (sLen + n)).toArray) := by
  have hl : news.length = n := by rw [hs.newsLen, Nat.mul_one]
  have hst := storeCells_free P g sLen e fz news 0 cur w hg hfz (by rw [hl]; simpa using hfit) hs.one
  simp only [Nat.add_zero, hl] at hst
  rcases hs.kind with ⟨e', hk⟩ | hk <;> simp [Builtin.append_, run_underlying ht, run_underlying hk, sizeOf, typeInfo, hi, hs1, hs.len, hroom, hs.cells, Addr.add_lit, hst]

theorem run_append_src9 (base : Nat) (t tx ty e : TypeId) (i : TypeInfo) (ht : P.underlying t = some (.slice e)) (hi : P.info? e = some i) (hz : i.zero = some (.int .u8 0))
    (hsize : i.size = 1) (hby : i.bytes = 1) (v : Value) (n : Nat) (xs : List Value) (hown : OwnsB w base e v n xs) (x : Value) (m : Nat) (news : List Value) (hsrc : Src P 1 tx x m news w)
    (h63 : n + m ≤ maxLen) (hbytes : n + m ≤ 140737488355328) (hbase : base ≤ w.heap.size) :
    ∃ v' w', (Builtin.append_ #[t, tx] ty #[v, x]).run P w = .ok v' w' ∧ OwnsB w' base e v' (n + m) (xs ++ news) ∧ Below base w w' := by
  obtain ⟨hxl, g, cap, cur, fz, rfl, hbg, hg, hfz, hnc, hcm, hcs, htake⟩ := hown
  have hl : news.length = m := by rw [hsrc.newsLen, Nat.mul_one]
  have hlen : (xs ++ news).length = n + m := by rw [List.length_append, hxl, hl]
  have hgs : g < w.heap.size := (Array.getElem?_eq_some_iff.1 hg).1
  by_cases hroom : n + m ≤ cap
  · have hr := append_room_src9 (P := P) w t tx ty e i ht hi hsize g n cap cur fz hg hfz x m news hsrc hroom (by omega)
    refine ⟨_, _, hr, ⟨hlen, g, cap, _, fz, rfl, hbg, setRow_heap w g cur _ e _ hg, ?_, hroom, hcm, ?_, ?_⟩, ⟨rfl, rfl, rfl, by simp, fun k hk => setRow_other w g k _ (by omega)⟩⟩
    · intro j hj
      apply hfz
      simp only [List.size_toArray, List.length_append, List.length_take, List.length_drop, Array.length_toList, hl] at hj
      omega
    · simp only [List.size_toArray, List.length_append, List.length_take, List.length_drop, Array.length_toList, hl]
      omega
    · rw [htake, ← hlen]
      exact List.take_left
  · have holds : ∀ j u, xs[j]? = some u → w.drew.cell? ((⟨g, 0, none⟩ : Addr).add j) = some u := by
      intro j u hu
      rw [World.cell?_drew, add_plain, Nat.zero_add, cell_of_row w g j cur e fz hg]
      rw [← htake, List.getElem?_take] at hu
      split at hu
      · simpa using hu
      · cases hu
    have hr := run_append_grow_src (P := P) w t tx ty e i (.int .u8 0) ht hi hz (some ⟨g, 0, none⟩) n cap xs (by rw [hsize]; exact run_firstCells_some w.drew 1 n ⟨g, 0, none⟩ n cap xs (by rw [hxl, Nat.mul_one]) holds) x m news (by rw [hsize]; exact hsrc) (by omega) (by simp only [maxLen] at h63; omega) (by rw [hby]; exact growslice_fits (by omega) (by omega))
    have hge := grownCap_ge w (n + m) cap e
    have hcm2 : grownCap w (n + m) cap e ≤ maxLen := grownCap_le_maxLen w (n + m) cap e h63
    refine ⟨_, _, hr, ⟨hlen, w.heap.size, _, _, (0, 0), rfl, hbase, heap_alloc_new w.drew _, fun j _ h => by omega, hge, hcm2, ?_, ?_⟩, ((Below.refl base w).drew).alloc hbase _⟩
    · have hz1 : (Value.int IntKind.u8 0).cells.size = 1 := rfl
      simp only [Array.size_append, List.size_toArray, size_zeroCells, hz1, hlen]
      omega
    · simp only [Array.toList_append]
      rw [← hlen]
      exact List.take_left
theorem wpList_append_src9 {ops : Array Oper} {rest : List Oper} {o : Oper} {a : Act} {Q : Exit → Act → World → Prop} (hgd : o.guard = none) (sl x : Operand) (t u : TypeId)
    (ho : o.op = .call { callee := .builtin .append, args := #[sl, x], argTypes := #[t, u] })
    (base : Nat) (e : TypeId) (i : TypeInfo) (ht : P.underlying t = some (.slice e)) (hi : P.info? e = some i) (hz : i.zero = some (.int .u8 0))
    (hsize : i.size = 1) (hby : i.bytes = 1)
    (v : Value) (n : Nat) (xs : List Value) (hs : a.eval sl = v) (hown : OwnsB w base e v n xs) (xv : Value) (hx : a.eval x = xv) (m : Nat) (news : List Value) (hsrc : Src P 1 u xv m news w)
    (h63 : n + m ≤ maxLen) (hbytes : n + m ≤ 140737488355328) (hbase : base ≤ w.heap.size)
    (h : ∀ v' w', OwnsB w' base e v' (n + m) (xs ++ news) → Below base w w' → wpList P ops Q rest (a.put o.dst v') w') : wpList P ops Q (o :: rest) a w := by
  refine wpList_plain hgd fun K hK => ?_
  obtain ⟨v', w', hr, h2, h3⟩ := run_append_src9 (P := P) w base t u o.type e i ht hi hz hsize hby v n xs hown xv m news hsrc h63 hbytes hbase
  unfold Oper.wp execOp
  simp only [ho, resolve, invoke, builtin, Sem.run_bind, Sem.run_pure, Result.andThen_ok, List.map_toArray, List.map_cons, List.map_nil, hs, hx, hr]
  exact hK _ _ (h v' w' h2 h3)
end
theorem infoByte9 : (Tryz.prog.info? 5).map (fun i => (i.zero, i.size, i.bytes)) = some (some (.int .u8 0), 1, 1) := by kernel_rfl
def bytV (s : ByteArray) (j : Nat) : List Value := (List.range j).map fun k => .int .u8 (byD s k)
theorem bytV_len (s : ByteArray) (j : Nat) : (bytV s j).length = j := by simp [bytV]
theorem bytV_succ (s : ByteArray) (j : Nat) (h : s.size ≤ j) : bytV s j ++ [.int .u8 0] = bytV s (j + 1) := by
  unfold bytV
  rw [List.range_succ, List.map_append, List.map_cons, List.map_nil, byD_out h]
theorem bytV_str (s : ByteArray) : Lib.strCells s = bytV s s.size := by
  apply List.ext_getElem?
  intro k
  have e : Lib.strCells s = Lib.byteCells s.data.toList := rfl
  rcases Nat.lt_or_ge k s.size with h | h
  · rw [e, byD_cell s h]
    unfold bytV
    rw [List.getElem?_map, List.getElem?_range h]
    rfl
  · rw [List.getElem?_eq_none (by rw [Lib.strCells_length]; exact h), List.getElem?_eq_none (by rw [bytV_len]; exact h)]
def lenV : Value → Nat
  | .slice _ n _ => n
  | _ => 0

end Go.Proofs.YtdpmpmaepjgndaaGreat
namespace Go.Proofs.YtdpmpmaepjgndaaGreat
open Go.RowKit Go.Deep Go.Maps
set_option linter.unusedVariables false
set_option maxRecDepth 100000

/-- a sector as an element of a map reads as its cells -/
def secR (v : Value) : Option (DataW (Array Value) × List MemPlace) := match v with
  | .agg cs => some (.held cs, [])
  | _ => none
theorem secR_inv {v : Value} {cs : Array Value} {ps : List MemPlace} (h : secR v = some (.held cs, ps)) : v = .agg cs := by
  unfold secR at h
  split at h
  · cases h; rfl
  · cases h
abbrev kl (n : Int) : Lit := .int .i64 n
theorem kl_key (n : Int) : WideAt.IsKeyLit (kl n) := trivial
theorem kl_ne {a b : Int} (h : a ≠ b) : kl a ≠ kl b := fun e => h (by injection e)
def gB (f : Nat → Nat → Int) : Nat → Nat → Value := fun i j => .int .u8 (f i j)
def secV (f : Nat → Int) : List Value := (List.range 64).map fun j => .int .u8 (f j)
theorem secV_len (f : Nat → Int) : (secV f).length = 64 := by simp [secV]
theorem secV_size (f : Nat → Int) : (secV f).toArray.size = 64 := by simp [secV]
theorem secV_at (f : Nat → Int) {j : Nat} (h : j < 64) : (secV f)[j]'(by rw [secV_len]; exact h) = .int .u8 (f j) := by simp [secV]
theorem secV_at? (f : Nat → Int) {j : Nat} (h : j < 64) : (secV f)[j]? = some (.int .u8 (f j)) := by rw [List.getElem?_eq_getElem (by rw [secV_len]; exact h), secV_at f h]
theorem secV_one (f : Nat → Int) : ∀ v ∈ secV f, v.oneCell' = true := by
  intro v hv
  obtain ⟨j, _, rfl⟩ := List.mem_map.1 hv
  rfl
theorem secV_ext {f g : Nat → Int} (h : ∀ j, j < 64 → f j = g j) : secV f = secV g := by
  unfold secV
  apply List.map_congr_left
  intro j hj
  rw [h j (List.mem_range.1 hj)]

/-- what a row holds, behind many stores -/
theorem block_setCells {T : TypeId} {fz : Nat × Nat} (b : Nat) : ∀ (vs : List Value) (o : Nat) (u : World), (∃ cs, u.heap[b]? = some (.cells cs T fz)) → ∃ cs, (u.setCells b o vs).heap[b]? = some (.cells cs T fz)
  | [], _, _, h => h
  | v :: r, o, u, ⟨cs, h⟩ => block_setCells b r (o + 1) _ ⟨_, Joins.block_setCell h v⟩
section
variable {T : TypeId} {C b n : Nat} {G : Nat → Nat → Value} {v : Value} {u : World}
theorem RowB.sets (h : RowB T C b G n v u) {i o : Nat} (hi : i < n) (vs : List Value) (ho : o + vs.length ≤ C) {G2 : Nat → Nat → Value}
    (h0 : ∀ k (hk : k < vs.length), G2 i (o + k) = vs[k]) (h1 : ∀ i2, i2 < n → ∀ j, j < C → ¬ (i2 = i ∧ o ≤ j ∧ j < o + vs.length) → G2 i2 j = G i2 j) : RowB T C b G2 n v (u.setCells b (i * C + o) vs) := by
  refine ⟨h.v, block_setCells b vs _ u h.b, fun i2 hi2 j hj => ?_⟩
  by_cases c : i2 = i ∧ o ≤ j ∧ j < o + vs.length
  · obtain ⟨rfl, c1, c2⟩ := c
    have := World.cell?_setCells_in b vs (i2 * C + o) u (fun q hq => by
      have := h.c i2 hi (o + q) (by omega)
      rw [show i2 * C + o + q = i2 * C + (o + q) by omega, this]; rfl) (j - o) (by omega)
    rw [show i2 * C + o + (j - o) = i2 * C + j by omega] at this
    rw [this, ← h0 (j - o) (by omega), show o + (j - o) = j by omega]
  · rw [h1 i2 hi2 j hj c]
    rw [World.cell?_setCells_out b vs (i * C + o) u ⟨b, i2 * C + j, none⟩ (fun _ _ => by
      show i2 * C + j < i * C + o ∨ i * C + o + vs.length ≤ i2 * C + j
      by_cases d : i2 = i
      · subst d; omega
      · rcases Nat.lt_or_gt_of_ne d with d | d
        · left
          have : (i2 + 1) * C ≤ i * C := Nat.mul_le_mul_right C d
          rw [Nat.add_mul, Nat.one_mul] at this
          omega
        · right
          have : (i + 1) * C ≤ i2 * C := Nat.mul_le_mul_right C d
          rw [Nat.add_mul, Nat.one_mul] at this
          omega)]
    exact h.c i2 hi2 j hj
theorem RowB.there (h : RowB T C b G n v u) {i : Nat} (hi : i < n) (o m : Nat) (hm : o + m ≤ C) : u.there b (i * C + o) m := fun j hj => by
  have := h.c i hi (o + j) (by omega)
  rw [← Nat.add_assoc] at this
  exact ⟨by rw [this]; rfl, h.frozen _⟩
end
theorem RowB.range {T : TypeId} {b n : Nat} {f : Nat → Nat → Int} {v : Value} {u : World} (h : RowB T 64 b (gB f) n v u) {i : Nat} (hi : i < n) : u.rangeAt b (i * 64) (secV (f i)) := by
  intro j x hx
  have hj : j < 64 := by
    rcases Nat.lt_or_ge j 64 with c | c
    · exact c
    · rw [List.getElem?_eq_none (by rw [secV_len]; exact c)] at hx; cases hx
  rw [secV_at? _ hj] at hx
  rw [h.c i hi j hj, ← hx]; rfl

/-- 'copy(dst, s)' from a text into cells that are there -/
theorem run_copy_text {P : Program} (w : World) (dT sT ty elem : TypeId) (b o dLen dCap : Nat) (s : ByteArray)
    (hu : P.underlying dT = some (.slice elem)) (hs : (P.info? elem).map (·.size) = some 1) (ht : w.there b o (Nat.min s.size dLen)) :
    (Builtin.copy_ #[dT, sT] ty #[.slice (some ⟨b, o, none⟩) dLen dCap, .string s]).run P w =
      .ok (goInt (Nat.min s.size dLen)) (w.setCells b o ((Lib.byteCells s.data.toList).take (Nat.min s.size dLen))) := by
  have hsz : s.data.toList.length = s.size := by simp
  have hl : ((Lib.byteCells s.data.toList).take (Nat.min s.size dLen)).length = Nat.min s.size dLen := by
    rw [List.length_take, Lib.byteCells_length, hsz]
    exact Nat.min_eq_left (Nat.min_le_left _ _)
  have hst := run_storeCells_cells (P := P) b o ((Lib.byteCells s.data.toList).take (Nat.min s.size dLen)) 0 w (fun j hj => by simpa using (ht j (by rw [hl] at hj; exact hj)).1) (fun j hj => by simpa using (ht j (by rw [hl] at hj; exact hj)).2)
    (fun v hv => Lib.byteCells_one _ v (List.mem_of_mem_take hv))
  have e : List.take (Nat.min s.size dLen) (List.map (fun b : UInt8 => Value.int IntKind.u8 (b.toNat : Int)) s.data.toList) = (Lib.byteCells s.data.toList).take (Nat.min s.size dLen) := rfl
  rw [Nat.add_zero] at hst
  cases hq : P.info? elem with
  | none => simp [hq] at hs
  | some i =>
    simp [Builtin.copy_, run_underlying hu, Builtin.lenOf, Builtin.firstCells, sizeOf, typeInfo, hq]
    rw [e, hst]
    simp [Result.andThen]
theorem lawInt : Keyed Tryz.prog 3 := int_keyed Tryz.underlying3
/-- a map's bound is its size -/
theorem own_tight {P : Program} {k : TypeId} {R : Value → Option (DataW (Array Value) × List MemPlace)} {w : World} {b n : Nat} {D : DataW (Array Value)} (h : w.ownsMap P k R b n D) : w.ownsMap P k R b (Maps.size D) D := by
  obtain ⟨es, clock, hb, F, hs, rfl⟩ := h
  exact ⟨es, clock, hb, F, by simp [Maps.size, length_sorted], rfl⟩

/-- the map, and what it holds: of each loose sector what is safe -/
def MpD (bm n : Nat) (is : Nat → Bool) (sf : Nat → Nat → Int) (u : World) : Prop :=
  ∃ D, u.ownsMap Tryz.prog 3 secR bm n D ∧ Tidy D ∧ (∀ q : Int, Maps.has D (kl q) = true ↔ ∃ i : Nat, i < n ∧ q = (i : Int) ∧ is i = true) ∧ (∀ i, i < n → is i = true → ∀ z, D.atKey (kl (i : Int)) z = .held (secV (sf i)).toArray) ∧ Maps.size D = looseN is n
section
variable {bm n : Nat} {is : Nat → Bool} {sf : Nat → Nat → Int} {u u2 : World}
theorem MpD.kept (h : MpD bm n is sf u) (e : u2.heap[bm]? = u.heap[bm]?) : MpD bm n is sf u2 := by
  obtain ⟨D, ⟨es, ck, h1, h2⟩, h3⟩ := h
  exact ⟨D, ⟨es, ck, e.trans h1, h2⟩, h3⟩
theorem MpD.blk (h : MpD bm n is sf u) : ∃ es ck, u.heap[bm]? = some (.map es ck) := by
  obtain ⟨D, ⟨es, ck, h1, _⟩, _⟩ := h
  exact ⟨es, ck, h1⟩
theorem MpD.congr (h : MpD bm n is sf u) {is2 : Nat → Bool} {sf2 : Nat → Nat → Int} (e : ∀ i, i < n → is2 i = is i) (e2 : ∀ i, i < n → is i = true → ∀ j, j < 64 → sf2 i j = sf i j) : MpD bm n is2 sf2 u := by
  obtain ⟨D, h1, h2, h3, h4, h5⟩ := h
  refine ⟨D, h1, h2, fun q => (h3 q).trans ⟨?_, ?_⟩, fun i hi hs z => ?_, by rw [h5]; exact (looseN_ext e).symm⟩
  · rintro ⟨i, a, b, c⟩; exact ⟨i, a, b, by rw [e i a]; exact c⟩
  · rintro ⟨i, a, b, c⟩; exact ⟨i, a, b, by rw [e i a] at c; exact c⟩
  · rw [e i hi] at hs
    rw [h4 i hi hs z, secV_ext (e2 i hi hs)]
theorem MpD.none (h : u.heap[bm]? = some (.map #[] 0)) (hi : ∀ i, is i = false) : MpD bm n is sf u :=
  ⟨.map [], ⟨#[], 0, h, ⟨by simp, MapKept.stamped_empty 0, by simp⟩, Nat.zero_le _, rfl⟩, tidy_empty, fun q => by simp [Maps.has, hi], fun i _ hs => (by rw [hi i] at hs; cases hs), by rw [looseN_none hi]; rfl⟩
/-- how a map's look answers -/
theorem MpD.look (h : MpD bm n is sf u) {z : Value} {zc : Array Value} (hz : (zeroValue 96).run Tryz.prog u = .ok z u) (hzc : z = .agg zc) {i : Nat} (hi : i < n) (hn : n ≤ 4096) :
    ∃ c, (Instr.lookup 88 (.map (some bm)) (.int .i64 (i : Int)) true).run Tryz.prog u = .ok (.tuple #[.agg c, .bool (is i)]) u ∧ c.size = (if is i then 64 else zc.size) ∧ (is i = true → c = (secV (sf i)).toArray) ∧ (is i = false → c = zc) := by
  subst hzc
  obtain ⟨D, h1, h2, h3, h4, h5⟩ := h
  have hw : (Lit.int .i64 (i : Int)).wf = true := WalkArith.wf_i64 (by omega)
  obtain ⟨v, ps, r1, r2⟩ := h1.look_ok lawInt Tryz.underlying88 hz (zd := .held zc) (zp := []) rfl (keyOf_int_mk Tryz.underlying3 hw)
  cases c : is i with
  | true =>
    rw [h4 i hi c] at r2
    have := secR_inv r2
    subst this
    have hh : Maps.has D (kl i) = true := (h3 i).2 ⟨i, hi, rfl, c⟩
    rw [hh] at r1
    exact ⟨_, r1, by simp [secV_len], fun _ => rfl, fun e => (by cases e)⟩
  | false =>
    have hh : Maps.has D (kl i) = false := by
      cases c2 : Maps.has D (kl i) with
      | false => rfl
      | true =>
        obtain ⟨i2, _, e, hs⟩ := (h3 i).1 c2
        obtain rfl : i2 = i := by omega
        rw [c] at hs; cases hs
    have hat : D.atKey (kl i) (.held zc) = .held zc := atKey_of_not_has hh _
    rw [hat] at r2
    have := secR_inv r2
    subst this
    rw [hh] at r1
    exact ⟨_, r1, by simp, fun e => (by cases e), fun _ => rfl⟩
theorem upd_loose {is : Nat → Bool} {i : Nat} (h : is i = false) : ∀ n, i < n → looseN (upd is i true) n = looseN is n + 1
  | 0, hn => by omega
  | n + 1, hn => by
    simp only [looseN]
    by_cases e : i = n
    · subst e
      rw [upd_at, h, looseN_ext (b := is) (fun k hk => upd_else _ _ _ _ (by omega))]
      simp
    · rw [upd_loose h n (by omega), upd_else _ _ _ _ (fun e2 => e e2.symm)]
      omega
/-- one more loose sector -/
theorem MpD.put (h : MpD bm n is sf u) {i : Nat} (hi : i < n) (hn : n ≤ 4096) (h0 : is i = false) (f : Nat → Int) : ∃ u2, (Instr.mapUpdate 88 (.map (some bm)) (.int .i64 (i : Int)) (.agg (secV f).toArray)).run Tryz.prog u = .ok () u2 ∧ MpD bm n (upd is i true) (upd sf i f) u2 ∧ u.grownBy u2 (some bm) ∧ u2.heap.size = u.heap.size := by
  obtain ⟨D, h1, h2, h3, h4, h5⟩ := h
  have hw : (Lit.int .i64 (i : Int)).wf = true := WalkArith.wf_i64 (by omega)
  obtain ⟨u2, r1, r2, r3⟩ := h1.store lawInt Tryz.underlying88 (by unfold maxLen; omega) (keyOf_int_mk Tryz.underlying3 hw) (show secR (.agg (secV f).toArray) = some (.held (secV f).toArray, []) from rfl)
  have hh : Maps.has D (kl i) = false := by
    cases c2 : Maps.has D (kl i) with
    | false => rfl
    | true =>
      obtain ⟨i2, _, e, hs⟩ := (h3 i).1 c2
      obtain rfl : i2 = i := by omega
      rw [h0] at hs; cases hs
  have hsz : Maps.size (D.put (kl i) (.held (secV f).toArray)) = looseN (upd is i true) n := by
    rw [size_put h2, hh, h5, upd_loose h0 n hi]; rfl
  refine ⟨u2, r1, ⟨_, (own_tight r2).mono (by rw [hsz]; exact looseN_le _ _), h2.put (kl_key _) _, fun q => ?_, fun k hk hs z => ?_, hsz⟩, r3.grown, ?_⟩
  · by_cases c : q = (i : Int)
    · subst c
      rw [has_put_same h2.isMap (kl_key _)]
      exact ⟨fun _ => ⟨i, hi, rfl, upd_at _ _ _⟩, fun _ => rfl⟩
    · rw [has_put_other (kl_ne c), h3 q]
      constructor
      · rintro ⟨k, a, rfl, b⟩
        exact ⟨k, a, rfl, by rw [upd_else _ _ _ _ (by omega)]; exact b⟩
      · rintro ⟨k, a, rfl, b⟩
        exact ⟨k, a, rfl, by rw [upd_else _ _ _ _ (by omega)] at b; exact b⟩
  · by_cases c : k = i
    · subst c
      rw [upd_at]
      exact atKey_put_same h2.isMap (kl_key _) _ _
    · rw [upd_else _ _ _ _ c]
      rw [upd_else _ _ _ _ c] at hs
      rw [atKey_put_other (kl_ne (by omega))]
      exact h4 k hk hs z
  · obtain ⟨es, ck, es2, ck2, _, rfl⟩ := r3
    simp [ChangeMaps.setBlock]
theorem MpD.len (h : MpD bm n is sf u) (ty : TypeId) : (Builtin.len_ #[88] ty #[.map (some bm)]).run Tryz.prog u = .ok (.int .i64 (looseN is n)) u := by
  obtain ⟨D, h1, h2, h3, h4, h5⟩ := h
  rw [← h5]
  exact h1.len Tryz.underlying88 ty
end

/-! ### the program's disk -/
def pbx (bS cS bm : Nat) (d : Dk) : Array Value := #[.slice (some ⟨bS, 0, none⟩) d.n cS, .map (some bm), .int .i64 (d.calls : Int), .int .i64 (d.arm : Int), .bool d.down]
structure PDk (base P bS bm cS : Nat) (d : Dk) (u : World) : Prop where
  box : u.heap[P]? = some (.cells (pbx bS cS bm d) 90 (0, 0))
  row : RowB 96 64 bS (gB (nowD d)) d.n (.slice (some ⟨bS, 0, none⟩) d.n cS) u
  mp : MpD bm d.n d.is d.sf u
  lo : base ≤ P ∧ base ≤ bS ∧ base ≤ bm
def P3 (P bS bm : Nat) : Nat → Bool := fun k => k == P || k == bS || k == bm
theorem P3.a (P bS bm : Nat) : P3 P bS bm P = true := by simp [P3]
theorem P3.b (P bS bm : Nat) : P3 P bS bm bS = true := by simp [P3]
theorem P3.c (P bS bm : Nat) : P3 P bS bm bm = true := by simp [P3]
theorem P3.no {P bS bm k : Nat} (h1 : k ≠ P) (h2 : k ≠ bS) (h3 : k ≠ bm) : P3 P bS bm k = false := by simp [P3, h1, h2, h3]
section
variable {base P bS bm bm2 cS : Nat} {d d2 : Dk} {u u2 : World}
theorem PDk.lt (h : PDk base P bS bm cS d u) : P < u.heap.size ∧ bS < u.heap.size ∧ bm < u.heap.size := by
  obtain ⟨es, ck, e⟩ := h.mp.blk
  exact ⟨lt_of_block h.box, h.row.lt, (Array.getElem?_eq_some_iff.1 e).1⟩
theorem PDk.ne (h : PDk base P bS bm cS d u) : P ≠ bS ∧ P ≠ bm ∧ bS ≠ bm := by
  obtain ⟨es, ck, e⟩ := h.mp.blk
  obtain ⟨cs, eb⟩ := h.row.b
  have h1 := h.box
  refine ⟨?_, ?_, ?_⟩
  · rintro rfl
    rw [eb] at h1
    simp only [Option.some.injEq, Obj.cells.injEq] at h1
    exact absurd h1.2.1 (by decide)
  · rintro rfl; rw [e] at h1; cases h1
  · rintro rfl; rw [e] at eb; cases eb
theorem PDk.kept (h : PDk base P bS bm cS d u) (e1 : u2.heap[P]? = u.heap[P]?) (e2 : u2.heap[bS]? = u.heap[bS]?) (e3 : u2.heap[bm]? = u.heap[bm]?) : PDk base P bS bm cS d u2 :=
  ⟨e1.trans h.box, h.row.kept e2, h.mp.kept e3, h.lo⟩
theorem PDk.below (h : PDk base P bS bm cS d u) (k : Below u.heap.size u u2) : PDk base P bS bm cS d u2 :=
  h.kept (k.block _ h.lt.1) (k.block _ h.lt.2.1) (k.block _ h.lt.2.2)
theorem PDk.congr (h : PDk base P bS bm cS d u) (hn : d2.n = d.n) (ha : d2.arm = d.arm) (hc : d2.calls = d.calls) (hd : d2.down = d.down) (e : ∀ i, i < d.n → d2.is i = d.is i) (e2 : ∀ i, i < d.n → d.is i = true → ∀ j, j < 64 → d2.sf i j = d.sf i j)
    (e3 : ∀ i, i < d.n → ∀ j, j < 64 → nowD d2 i j = nowD d i j) : PDk base P bS bm cS d2 u := by
  refine ⟨?_, ?_, ?_, h.lo⟩
  · rw [h.box]; unfold pbx; rw [hn, ha, hc, hd]
  · rw [hn]
    exact h.row.congr fun i hi j hj => by unfold gB; rw [e3 i hi j hj]
  · rw [hn]
    exact h.mp.congr e e2
theorem PDk.cells (h : PDk base P bS bm cS d u) : u.cell? ⟨P, 0, none⟩ = some (.slice (some ⟨bS, 0, none⟩) d.n cS) ∧ u.cell? ⟨P, 1, none⟩ = some (.map (some bm)) ∧ u.cell? ⟨P, 2, none⟩ = some (.int .i64 (d.calls : Int)) ∧ u.cell? ⟨P, 3, none⟩ = some (.int .i64 (d.arm : Int)) ∧ u.cell? ⟨P, 4, none⟩ = some (.bool d.down) ∧ ∀ q, u.frozen? ⟨P, q, none⟩ = false := by
  refine ⟨?_, ?_, ?_, ?_, ?_, fun q => Lib.frozen_of_heap h.box q⟩ <;> (rw [Lib.cell_of_heap h.box]; rfl)
theorem PDk.bot (h : PDk base P bS bm cS d u) (k : KpS (P3 P bS bm) u u2) (hb : base ≤ u.heap.size) : Below base u u2 :=
  k.bot hb fun q hq => P3.no (by have := h.lo.1; omega) (by have := h.lo.2.1; omega) (by have := h.lo.2.2; omega)
end
theorem PDk.mono {base base2 P bS bm cS : Nat} {d : Dk} {u : World} (h : PDk base P bS bm cS d u) (hb : base2 ≤ base) : PDk base2 P bS bm cS d u :=
  ⟨h.box, h.row, h.mp, Nat.le_trans hb h.lo.1, Nat.le_trans hb h.lo.2.1, Nat.le_trans hb h.lo.2.2⟩

end Go.Proofs.YtdpmpmaepjgndaaGreat
namespace Go.Proofs.YtdpmpmaepjgndaaGreat
open Go.RowKit
section
variable {P : Program} {ops : Array Oper} {Q : Exit → Act → World → Prop} {md : Region.Mode} {S : World → Prop}
theorem tq0 (i : Nat) {f1 f2 f3 f4 f5 f6} {fuel : Nat} {listed : Array Bool} {a : Act} {w : World} (hi : ops[i]? = some (Oper.mk f1 f2 f3 f4 f5 f6))
    (h : wpAnyH P md ops Q S fuel (listed.setIfInBounds i true) (a.put (Oper.mk f1 f2 f3 f4 f5 f6).dst undef) w)
    (hs : Region.noSelect ops = true := by kernel_rfl) (hf : Region.free md ops listed i = true := by kernel_rfl) (hr : (Region.ready md ops listed).contains i = true := by kernel_rfl)
    (hQ : ∀ c a w, Q (.panic c) (a.put (Oper.mk f1 f2 f3 f4 f5 f6).dst undef) w → Q (.panic c) a w := by exact fun _ _ _ h => h)
    (hw : Region.wanted (Oper.mk f1 f2 f3 f4 f5 f6) (yielded ops a.tmps) = false := by rfl) (hS : S w := by assumption) : wpAnyH P md ops Q S (fuel + 1) listed a w := wpAnyH_take hi hs hf hr hQ (.inr ⟨hw, rfl⟩) hS h
theorem tq1 (i : Nat) {f1 f2 f3 f4 f5 f6} {v : Value} {fuel : Nat} {listed : Array Bool} {a : Act} {w : World} (hi : ops[i]? = some (Oper.mk f1 f2 f3 f4 f5 f6))
    (h : wpAnyH P md ops Q S fuel (listed.setIfInBounds i true) (a.put (Oper.mk f1 f2 f3 f4 f5 f6).dst v) w)
    (hs : Region.noSelect ops = true := by kernel_rfl) (hf : Region.free md ops listed i = true := by kernel_rfl) (hr : (Region.ready md ops listed).contains i = true := by kernel_rfl)
    (hQ : ∀ c a w, Q (.panic c) (a.put (Oper.mk f1 f2 f3 f4 f5 f6).dst v) w → Q (.panic c) a w := by exact fun _ _ _ h => h)
    (hw : Region.wanted (Oper.mk f1 f2 f3 f4 f5 f6) (yielded ops a.tmps) = true := by rfl)
    (hy : ∀ w5, S w5 → (execOp a.eval (Oper.mk f1 f2 f3 f4 f5 f6)).run P w5 = .ok (.value v) w5 := by intro w5 hSw; (try dsimp only at hSw); go_simp; (try with_reducible rfl)) (hS : S w := by assumption) : wpAnyH P md ops Q S (fuel + 1) listed a w := wpAnyH_take hi hs hf hr hQ (.inl ⟨hw, hy⟩) hS h
end
end Go.Proofs.YtdpmpmaepjgndaaGreat
