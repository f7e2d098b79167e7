/- A row of bytes that the call owns, of which nothing is frozen (also one that a conversion '[]byte(s)' has made, whose mark lies behind its end): append of a string's bytes to it. The contract of the document's Fill: a text cut at 64, and bytes 0 behind it. The contracts of the document's Write and Sync. -/
import Derived.Lib.Builder
import Derived.Laws.Tables
import Derived.Lib.FrozenHead
import Derived.Laws.IdiomStrings
import Derived.Deep.AppendSrc
import Derived.Laws.BytesArg
import Derived.Deep.DeepCutAuto
import Derived.Test.YtdmlmjmdpmmcgaaYZ0
import Derived.Test.YtdmlmjmdpmmcgaaYZ2
import Derived.Test.YtdmlmjmdpmmcgaaYZ4
namespace Go.Proofs.Ytdmlmjmdpmmcgaa
open Go.RowKit

/-- no cell of the row is frozen -/
def FreeRow (cur : Array Value) (fz : Nat × Nat) : Prop := ∀ i, i < cur.size → ¬ (fz.1 ≤ i ∧ i < fz.2)

/-- the slice v, of n bytes, owns the cells xs -/
def OwnsB (w : World) (base : Nat) (e : TypeId) (v : Value) (n : Nat) (xs : List Value) : Prop :=
  xs.length = n ∧ ∃ g cap cur fz, v = .slice (some ⟨g, 0, none⟩) n cap ∧ base ≤ g ∧ w.heap[g]? = some (.cells cur e fz) ∧ FreeRow cur fz ∧ n ≤ cap ∧ cap ≤ maxLen ∧ cur.size = cap ∧ cur.toList.take n = xs

theorem storeCells_free (P : Program) (g o : Nat) (t : TypeId) (fz : Nat × Nat) : ∀ (vs : List Value) (i : Nat) (cur : Array Value) (w : World), w.heap[g]? = some (.cells cur t fz) → FreeRow cur fz → o + i + vs.length ≤ cur.size → (∀ v ∈ vs, v.oneCell' = true) →
    (storeCells ⟨g, o, none⟩ vs i).run P w = .ok () (w.setRow g (cur.toList.take (o + i) ++ vs ++ cur.toList.drop (o + i + vs.length)).toArray)
  | [], i, cur, w, hg, _, _, _ => by
    simp only [storeCells, List.append_nil, List.length_nil, Nat.add_zero, List.take_append_drop, Array.toArray_toList]
    rw [setRow_self w g cur t fz hg]
    rfl
  | v :: rest, i, cur, w, hg, hfz, hl, h1 => by
    have hi : o + i < cur.size := by simp at hl; omega
    have hadd : (⟨g, o, none⟩ : Addr).add i = ⟨g, o + i, none⟩ := by unfold Addr.add; split <;> simp_all
    have hcell : w.cell? ⟨g, o + i, none⟩ = some cur[o + i] := by simp [World.cell?, hg, hi]
    have hfro : w.frozen? ⟨g, o + i, none⟩ = false := by
      have := hfz (o + i) hi
      obtain ⟨lo, hi'⟩ := fz
      simp only [World.frozen?, hg, Bool.and_eq_false_iff, decide_eq_false_iff_not]
      simp only at this
      omega
    have hst : (store ((⟨g, o, none⟩ : Addr).add i) v).run P w = .ok () (w.setRow g (cur.setIfInBounds (o + i) v)) := by
      rw [hadd, run_store P w _ v _ (h1 v (by simp)), hcell]
      simp [hfro, setCell_eq_setRow w g (o + i) cur t fz v hg]
    have ih := storeCells_free P g o t fz rest (i + 1) (cur.setIfInBounds (o + i) v) (w.setRow g (cur.setIfInBounds (o + i) v)) (setRow_heap w g cur _ t _ hg) (by intro j hj; exact hfz j (by simpa using hj)) (by simp at hl ⊢; omega) (fun x hx => h1 x (by simp [hx]))
    simp only [storeCells, Sem.run_bind, hst, Result.andThen_ok, ih, setRow_setRow]
    congr 3
    have e := list_seg_step cur.toList (o + i) v rest (by simp at hl ⊢; omega)
    simpa [Array.toList_setIfInBounds, Nat.add_assoc] using e

section
variable {P : Program} (w : World)
theorem append_room_free (t u ty e : TypeId) (i : TypeInfo) (ht : P.underlying t = some (.slice e)) (hu : P.underlying u = some .string) (hi : P.info? e = some i) (hs1 : i.size = 1)
    (g sLen sCap : Nat) (cur : Array Value) (fz : Nat × Nat) (hg : w.heap[g]? = some (.cells cur e fz)) (hfz : FreeRow cur fz) (s : ByteArray)
    (hroom : sLen + s.size ≤ sCap) (hfit : sLen + s.size ≤ cur.size) :
    (Builtin.append_ #[t, u] ty #[.slice (some ⟨g, 0, none⟩) sLen sCap, .string s]).run P w =
      .ok (.slice (some ⟨g, 0, none⟩) (sLen + s.size) sCap) (w.setRow g (cur.toList.take sLen ++ Lib.strCells s ++ cur.toList.drop (sLen + s.size)).toArray) := by
  have hf := Lib.run_firstCells_string (P := P) w 1 s
  have hst := storeCells_free P g sLen e fz (Lib.strCells s) 0 cur w hg hfz (by simpa [Lib.strCells_length] using hfit) (Lib.strCells_oneCell s)
  simp only [Nat.add_zero, Lib.strCells_length] at hst
  simp [Builtin.append_, run_underlying ht, run_underlying hu, sizeOf, typeInfo, hi, hs1, Builtin.lenOf, hroom, hf, Addr.add_lit, hst]

theorem run_append_free (base : Nat) (t u ty e : TypeId) (i : TypeInfo) (ht : P.underlying t = some (.slice e)) (hu : P.underlying u = some .string) (hi : P.info? e = some i) (hz : i.zero = some (.int .u8 0))
    (hsize : i.size = 1) (hby : i.bytes = 1)
    (v : Value) (n : Nat) (xs : List Value) (hown : OwnsB w base e v n xs) (s : ByteArray)
    (h63 : n + s.size ≤ maxLen) (hbytes : n + s.size ≤ 140737488355328) (hbase : base ≤ w.heap.size) :
    ∃ v' w', (Builtin.append_ #[t, u] ty #[v, .string s]).run P w = .ok v' w' ∧ OwnsB w' base e v' (n + s.size) (xs ++ Lib.strCells s) ∧ Below base w w' := by
  obtain ⟨hxl, g, cap, cur, fz, rfl, hbg, hg, hfz, hnc, hcm, hcs, htake⟩ := hown
  have hlen : (xs ++ Lib.strCells s).length = n + s.size := by rw [List.length_append, hxl, Lib.strCells_length]
  have hgs : g < w.heap.size := (Array.getElem?_eq_some_iff.1 hg).1
  by_cases hroom : n + s.size ≤ cap
  · have hr := append_room_free (P := P) w t u ty e i ht hu hi hsize g n cap cur fz hg hfz s hroom (by omega)
    refine ⟨_, _, hr, ⟨hlen, g, cap, _, fz, rfl, hbg, setRow_heap w g cur _ e _ hg, ?_, hroom, hcm, ?_, ?_⟩, ⟨rfl, rfl, rfl, by simp, fun k hk => setRow_other w g k _ (by omega)⟩⟩
    · intro j hj
      apply hfz
      simp only [List.size_toArray, List.length_append, List.length_take, List.length_drop, Array.length_toList, Lib.strCells_length] at hj
      omega
    · simp only [List.size_toArray, List.length_append, List.length_take, List.length_drop, Array.length_toList, Lib.strCells_length]
      omega
    · rw [htake, ← hlen]
      exact List.take_left
  · have holds : ∀ j u, xs[j]? = some u → w.cell? ((⟨g, 0, none⟩ : Addr).add j) = some u := by
      intro j u hu
      rw [add_plain, Nat.zero_add, cell_of_row w g j cur e fz hg]
      rw [← htake, List.getElem?_take] at hu
      split at hu
      · simpa using hu
      · cases hu
    have hr := Lib.run_append_grow_string (P := P) w t u ty e i (.int .u8 0) ht hu hi hz ⟨g, 0, none⟩ n cap xs (by rw [hsize]; simpa using hxl) holds s (by omega) (by simp only [maxLen] at h63; omega) (by rw [hby]; exact growslice_fits (by omega) (by omega))
    have hge := grownCap_ge w (n + s.size) cap e
    have hcm2 : grownCap w (n + s.size) cap e ≤ maxLen := grownCap_le_maxLen w (n + s.size) cap e h63
    refine ⟨_, _, hr, ⟨hlen, w.heap.size, _, _, (0, 0), rfl, hbase, heap_alloc_new w.drew _, fun j _ h => by omega, hge, hcm2, ?_, ?_⟩, ((Below.refl base w).drew).alloc hbase _⟩
    · have hz1 : (Value.int IntKind.u8 0).cells.size = 1 := rfl
      simp only [Array.size_append, List.size_toArray, size_zeroCells, hz1, hxl, Lib.strCells_length]
      omega
    · simp only [Array.toList_append, List.append_assoc]
      rw [← List.append_assoc, ← hlen]
      exact List.take_left

theorem wpList_append_free {ops : Array Oper} {rest : List Oper} {o : Oper} {a : Act} {Q : Exit → Act → World → Prop} (hgd : o.guard = none) (sl x : Operand) (t u : TypeId)
    (ho : o.op = .call { callee := .builtin .append, args := #[sl, x], argTypes := #[t, u] })
    (base : Nat) (e : TypeId) (i : TypeInfo) (ht : P.underlying t = some (.slice e)) (hu : P.underlying u = some .string) (hi : P.info? e = some i) (hz : i.zero = some (.int .u8 0))
    (hsize : i.size = 1) (hby : i.bytes = 1)
    (v : Value) (n : Nat) (xs : List Value) (hs : a.eval sl = v) (hown : OwnsB w base e v n xs) (s : ByteArray) (hx : a.eval x = .string s)
    (h63 : n + s.size ≤ maxLen) (hbytes : n + s.size ≤ 140737488355328) (hbase : base ≤ w.heap.size)
    (h : ∀ v' w', OwnsB w' base e v' (n + s.size) (xs ++ Lib.strCells s) → Below base w w' → wpList P ops Q rest (a.put o.dst v') w') : wpList P ops Q (o :: rest) a w := by
  refine wpList_plain hgd fun K hK => ?_
  obtain ⟨v', w', hr, h2, h3⟩ := run_append_free (P := P) w base t u o.type e i ht hu hi hz hsize hby v n xs hown s h63 hbytes hbase
  unfold Oper.wp execOp
  simp only [ho, resolve, invoke, builtin, Sem.run_bind, Sem.run_pure, Result.andThen_ok, List.map_toArray, List.map_cons, List.map_nil, hs, hx, hr]
  exact hK _ _ (h v' w' h2 h3)

/-- '[]byte(s)' -/
theorem run_bytes_free (src dst e : TypeId) (s : ByteArray) (hs : P.underlying src = some .string) (hd : P.underlying dst = some (.slice e)) (he : P.underlying e = some (.int .u8)) (hm : s.size ≤ maxLen) :
    ∃ v w', (convert src dst (.string s)).run P w = .ok v w' ∧ OwnsB w' w.heap.size e v s.size (Lib.strCells s) ∧ Below w.heap.size w w' := by
  have hr := run_bytes_of_string (P := P) w src dst e s hs hd he
  have hge := grownCap_ge w s.size 0 e
  have hcm := grownCap_le_maxLen w s.size 0 e hm
  have hsz : (bytesRow s (grownCap w s.size 0 e)).size = grownCap w s.size 0 e := by
    unfold bytesRow; simp only [Array.size_append, Array.size_map, Array.size_replicate]
    have : s.data.size = s.size := rfl
    omega
  refine ⟨_, _, hr, ⟨Lib.strCells_length s, w.heap.size, _, _, _, rfl, Nat.le_refl _, heap_alloc_new w.drew _, ?_, hge, hcm, hsz, ?_⟩, ((Below.refl _ w).drew).alloc (Nat.le_refl _) _⟩
  · intro j hj h; simp only at h; omega
  · unfold bytesRow Lib.strCells
    rw [Array.toList_append, Array.toList_map]
    have : (List.map (fun b : UInt8 => Value.int .u8 (b.toNat : Int)) s.data.toList).length = s.size := by simp
    rw [← this]
    exact List.take_left
end

theorem ownsB_below {w w' : World} {base : Nat} {e : TypeId} {v : Value} {n : Nat} {xs : List Value} (h : OwnsB w base e v n xs) (hb : Below w.heap.size w w') : OwnsB w' base e v n xs := by
  obtain ⟨h1, g, cap, cur, fz, hv, hbg, hg, rest⟩ := h
  have hgs : g < w.heap.size := (Array.getElem?_eq_some_iff.1 hg).1
  exact ⟨h1, g, cap, cur, fz, hv, hbg, by rw [hb.block g hgs]; exact hg, rest⟩

/-- the cells that such a slice holds -/
theorem ownsB_cells {w : World} {base : Nat} {e : TypeId} {v : Value} {n : Nat} {xs : List Value} (h : OwnsB w base e v n xs) : ∃ g cap, v = .slice (some ⟨g, 0, none⟩) n cap ∧ ∀ i, i < n → w.cell? ⟨g, 0 + i, none⟩ = xs[i]? := by
  obtain ⟨h1, g, cap, cur, fz, hv, hbg, hg, _, hnc, _, hcs, htake⟩ := h
  refine ⟨g, cap, hv, fun i hi => ?_⟩
  rw [Nat.zero_add, cell_of_row w g i cur e fz hg, ← htake, List.getElem?_take, if_pos hi]
  simp

end Go.Proofs.Ytdmlmjmdpmmcgaa
namespace Go.Proofs.Ytdmlmjmdpmmcgaa
open Go.RowKit
set_option linter.unusedVariables false
set_option linter.unusedSimpArgs false
set_option maxRecDepth 100000

section
variable {P : Program} (w : World)
theorem append_room_src9 (t tx ty e : TypeId) (i : TypeInfo) (ht : P.underlying t = some (.slice e)) (hi : P.info? e = some i) (hs1 : i.size = 1)
    (g sLen sCap : Nat) (cur : Array Value) (fz : Nat × Nat) (hg : w.heap[g]? = some (.cells cur e fz)) (hfz : FreeRow cur fz) (x : Value) (n : Nat) (news : List Value) (hs : Src P 1 tx x n news w)
    (hroom : sLen + n ≤ sCap) (hfit : sLen + n ≤ cur.size) :
    (Builtin.append_ #[t, tx] ty #[.slice (some ⟨g, 0, none⟩) sLen sCap, x]).run P w =
      .ok (.slice (some ⟨g, 0, none⟩) (sLen + n) sCap) (w.setRow g (cur.toList.take sLen ++ news ++ cur.toList.drop (sLen + n)).toArray) := by
  have hl : news.length = n := by rw [hs.newsLen, Nat.mul_one]
  have hst := storeCells_free P g sLen e fz news 0 cur w hg hfz (by rw [hl]; simpa using hfit) hs.one
  simp only [Nat.add_zero, hl] at hst
  rcases hs.kind with ⟨e', hk⟩ | hk <;> simp [Builtin.append_, run_underlying ht, run_underlying hk, sizeOf, typeInfo, hi, hs1, hs.len, hroom, hs.cells, Addr.add_lit, hst]

theorem run_append_src9 (base : Nat) (t tx ty e : TypeId) (i : TypeInfo) (ht : P.underlying t = some (.slice e)) (hi : P.info? e = some i) (hz : i.zero = some (.int .u8 0))
    (hsize : i.size = 1) (hby : i.bytes = 1) (v : Value) (n : Nat) (xs : List Value) (hown : OwnsB w base e v n xs) (x : Value) (m : Nat) (news : List Value) (hsrc : Src P 1 tx x m news w)
    (h63 : n + m ≤ maxLen) (hbytes : n + m ≤ 140737488355328) (hbase : base ≤ w.heap.size) :
    ∃ v' w', (Builtin.append_ #[t, tx] ty #[v, x]).run P w = .ok v' w' ∧ OwnsB w' base e v' (n + m) (xs ++ news) ∧ Below base w w' := by
  obtain ⟨hxl, g, cap, cur, fz, rfl, hbg, hg, hfz, hnc, hcm, hcs, htake⟩ := hown
  have hl : news.length = m := by rw [hsrc.newsLen, Nat.mul_one]
  have hlen : (xs ++ news).length = n + m := by rw [List.length_append, hxl, hl]
  have hgs : g < w.heap.size := (Array.getElem?_eq_some_iff.1 hg).1
  by_cases hroom : n + m ≤ cap
  · have hr := append_room_src9 (P := P) w t tx ty e i ht hi hsize g n cap cur fz hg hfz x m news hsrc hroom (by omega)
    refine ⟨_, _, hr, ⟨hlen, g, cap, _, fz, rfl, hbg, setRow_heap w g cur _ e _ hg, ?_, hroom, hcm, ?_, ?_⟩, ⟨rfl, rfl, rfl, by simp, fun k hk => setRow_other w g k _ (by omega)⟩⟩
    · intro j hj
      apply hfz
      simp only [List.size_toArray, List.length_append, List.length_take, List.length_drop, Array.length_toList, hl] at hj
      omega
    · simp only [List.size_toArray, List.length_append, List.length_take, List.length_drop, Array.length_toList, hl]
      omega
    · rw [htake, ← hlen]
      exact List.take_left
  · have holds : ∀ j u, xs[j]? = some u → w.drew.cell? ((⟨g, 0, none⟩ : Addr).add j) = some u := by
      intro j u hu
      rw [World.cell?_drew, add_plain, Nat.zero_add, cell_of_row w g j cur e fz hg]
      rw [← htake, List.getElem?_take] at hu
      split at hu
      · simpa using hu
      · cases hu
    have hr := run_append_grow_src (P := P) w t tx ty e i (.int .u8 0) ht hi hz (some ⟨g, 0, none⟩) n cap xs (by rw [hsize]; exact run_firstCells_some w.drew 1 n ⟨g, 0, none⟩ n cap xs (by rw [hxl, Nat.mul_one]) holds) x m news (by rw [hsize]; exact hsrc) (by omega) (by simp only [maxLen] at h63; omega) (by rw [hby]; exact growslice_fits (by omega) (by omega))
    have hge := grownCap_ge w (n + m) cap e
    have hcm2 : grownCap w (n + m) cap e ≤ maxLen := grownCap_le_maxLen w (n + m) cap e h63
    refine ⟨_, _, hr, ⟨hlen, w.heap.size, _, _, (0, 0), rfl, hbase, heap_alloc_new w.drew _, fun j _ h => by omega, hge, hcm2, ?_, ?_⟩, ((Below.refl base w).drew).alloc hbase _⟩
    · have hz1 : (Value.int IntKind.u8 0).cells.size = 1 := rfl
      simp only [Array.size_append, List.size_toArray, size_zeroCells, hz1, hlen]
      omega
    · simp only [Array.toList_append]
      rw [← hlen]
      exact List.take_left
theorem wpList_append_src9 {ops : Array Oper} {rest : List Oper} {o : Oper} {a : Act} {Q : Exit → Act → World → Prop} (hgd : o.guard = none) (sl x : Operand) (t u : TypeId)
    (ho : o.op = .call { callee := .builtin .append, args := #[sl, x], argTypes := #[t, u] })
    (base : Nat) (e : TypeId) (i : TypeInfo) (ht : P.underlying t = some (.slice e)) (hi : P.info? e = some i) (hz : i.zero = some (.int .u8 0))
    (hsize : i.size = 1) (hby : i.bytes = 1)
    (v : Value) (n : Nat) (xs : List Value) (hs : a.eval sl = v) (hown : OwnsB w base e v n xs) (xv : Value) (hx : a.eval x = xv) (m : Nat) (news : List Value) (hsrc : Src P 1 u xv m news w)
    (h63 : n + m ≤ maxLen) (hbytes : n + m ≤ 140737488355328) (hbase : base ≤ w.heap.size)
    (h : ∀ v' w', OwnsB w' base e v' (n + m) (xs ++ news) → Below base w w' → wpList P ops Q rest (a.put o.dst v') w') : wpList P ops Q (o :: rest) a w := by
  refine wpList_plain hgd fun K hK => ?_
  obtain ⟨v', w', hr, h2, h3⟩ := run_append_src9 (P := P) w base t u o.type e i ht hi hz hsize hby v n xs hown xv m news hsrc h63 hbytes hbase
  unfold Oper.wp execOp
  simp only [ho, resolve, invoke, builtin, Sem.run_bind, Sem.run_pure, Result.andThen_ok, List.map_toArray, List.map_cons, List.map_nil, hs, hx, hr]
  exact hK _ _ (h v' w' h2 h3)
end
theorem infoByte9 : (Try.prog.info? 5).map (fun i => (i.zero, i.size, i.bytes)) = some (some (.int .u8 0), 1, 1) := by kernel_rfl
def bytV (s : ByteArray) (j : Nat) : List Value := (List.range j).map fun k => .int .u8 (byD s k)
theorem bytV_len (s : ByteArray) (j : Nat) : (bytV s j).length = j := by simp [bytV]
theorem bytV_succ (s : ByteArray) (j : Nat) (h : s.size ≤ j) : bytV s j ++ [.int .u8 0] = bytV s (j + 1) := by
  unfold bytV
  rw [List.range_succ, List.map_append, List.map_cons, List.map_nil, byD_out h]
theorem bytV_str (s : ByteArray) : Lib.strCells s = bytV s s.size := by
  apply List.ext_getElem?
  intro k
  have e : Lib.strCells s = Lib.byteCells s.data.toList := rfl
  rcases Nat.lt_or_ge k s.size with h | h
  · rw [e, byD_cell s h]
    unfold bytV
    rw [List.getElem?_map, List.getElem?_range h]
    rfl
  · rw [List.getElem?_eq_none (by rw [Lib.strCells_length]; exact h), List.getElem?_eq_none (by rw [bytV_len]; exact h)]
def lenV : Value → Nat
  | .slice _ n _ => n
  | _ => 0
set_option maxHeartbeats 800000 in
theorem rfill_any (s : ByteArray) (hs : s.size ≤ 1000000) (u : World) : Calls Try.prog 42 #[.string s] u fun r u' => r = .returned (.string (sec (byD s))) ∧ Below u.heap.size u u' := by
  obtain ⟨i0, hi, hz0, hz1, hz2⟩ := info_parts infoByte9
  have HSZ := Lib.hid hs
  obtain ⟨v0, w2, hcv, ho2, hb2⟩ := run_bytes_free (P := Try.prog) u 9 69 5 s Try.underlying9 Try.underlying69 Try.underlying5 (by unfold maxLen; omega)
  rw [bytV_str] at ho2
  have O2 := Lib.hid ho2
  have B2 := Lib.hid hb2
  clear ho2 hb2 hs
  go_enter Try.func42, Try.ntmps42
  go_wp2_with fail
  go_loopw [3] (fun v wr => ∃ j : Nat, s.size ≤ j ∧ j ≤ 1000000 ∧ OwnsB wr u.heap.size 5 v j (bytV s j) ∧ Below u.heap.size u wr) (fun v _ => 64 - lenV v)
  case atStart => exact ⟨s.size, Nat.le_refl _, HSZ.out, O2.out, B2.out⟩
  case round =>
    clear hcv
    obtain ⟨j, hj, hj9, ho, hb⟩ := hrel
    obtain ⟨g, cap, hv0, hcl⟩ := ownsB_cells ho
    have HO := Lib.hid ho
    have HB := Lib.hid hb
    have hcap : j ≤ cap ∧ cap ≤ maxLen := by
      obtain ⟨_, g1, cap1, _, _, e9, _, _, _, q1, q2, _⟩ := ho
      rw [hv0] at e9
      simp only [Value.slice.injEq, Option.some.injEq, Addr.mk.injEq, and_true, true_and] at e9
      obtain ⟨rfl, rfl⟩ := e9
      exact ⟨q1, q2⟩
    obtain rfl := hv0
    clear ho hb
    unfold maxLen at hcap
    by_cases hlt : j < 64
    · have hj2 : (j : Int) < 64 := by omega
      have X1 := Lib.hid (heap_alloc_new wr (.cells #[.int .u8 0] 5))
      have B1 := Lib.hid (balloc wr (.cells #[.int .u8 0] 5))
      have O1 := Lib.hid (ownsB_below HO.out B1.out)
      have SZ := Lib.hid (Nat.le_trans HB.out.size B1.out.size)
      have SR : Hid (Src Try.prog 1 69 (.slice (some ⟨wr.heap.size, 0, none⟩) 1 1) 1 [.int .u8 0] (wr.alloc (.cells #[.int .u8 0] 5))) := Lib.hid (Src.ofSlice _ Try.underlying69 ⟨wr.heap.size, 0, none⟩ 1 1 [.int .u8 0] rfl (fun q x hq => by
        rcases q with _ | q
        · simp only [List.getElem?_cons_zero, Option.some.injEq] at hq
          subst hq
          rw [add_plain, Lib.cell_of_heap X1.out]; rfl
        · simp at hq) (by intro x hx; simp only [List.mem_cons, List.not_mem_nil, or_false] at hx; subst hx; rfl))
      go_wp2_with (at_builtin; refine wpList_append_src9 _ rfl _ _ 69 69 rfl u.heap.size 5 i0 Try.underlying69 hi hz0 hz1 hz2 _ _ _ rfl O1.out _ rfl 1 _ SR.out (by unfold maxLen; omega) (by omega) SZ.out ?_)
      intro v4 w4 ho4 hb4
      rw [bytV_succ s j hj] at ho4
      have O4 := Lib.hid ho4
      have B4 := Lib.hid ((HB.out.trans (B1.out.mono HB.out.size)).trans hb4)
      have e4 : lenV v4 = j + 1 := by
        obtain ⟨_, g4, cap4, _, _, rfl, _⟩ := ho4
        rfl
      clear ho4 hb4
      go_wp2_with fail
      go_roundw
      case rel => exact ⟨j + 1, by omega, by omega, O4.out, B4.out⟩
      case measure =>
        have e5 : lenV (.slice (some ⟨g, 0, none⟩) j cap) = j := rfl
        omega
    · have hcv2 := run_convert_bytes_arg (P := Try.prog) wr 69 5 Try.underlying69 Try.underlying5 g 0 64 cap ((List.range 64).map (byD s)) (by simp)
        (fun k hk => by
          rw [hcl k (by omega)]
          unfold bytV
          rw [List.getElem?_map, List.getElem?_range (by omega)]
          simp [hk]) 9 Try.underlying9
      change _ = Result.ok (Value.string (sec (byD s))) wr at hcv2
      have hj2 : ¬ (j : Int) < 64 := by omega
      clear hcl
      go_wp2_with fail
      go_ret
      exact ⟨rfl, HB.out⟩

end Go.Proofs.Ytdmlmjmdpmmcgaa
namespace Go.Proofs.Ytdmlmjmdpmmcgaa
open Go.RowKit Go.Deep Go.Maps
set_option linter.unusedVariables false
set_option linter.unusedSimpArgs false
set_option maxRecDepth 100000

section
variable {T : TypeId} {b n : Nat} {G : Nat → Nat → Value} {v : Value} {u : World}
theorem RowB.cell1 (h : RowB T 1 b G n v u) {i : Nat} (hi : i < n) : u.cell? ⟨b, i, none⟩ = some (G i 0) := by
  have := h.c i hi 0 (by omega)
  rwa [Nat.mul_one, Nat.add_zero] at this
theorem RowB.put1 (h : RowB T 1 b G n v u) {i : Nat} (hi : i < n) (x : Value) {G2 : Nat → Nat → Value} (h0 : G2 i 0 = x) (ho : ∀ k, k < n → k ≠ i → G2 k 0 = G k 0) : RowB T 1 b G2 n v (u.setCell ⟨b, i, none⟩ x) := by
  have := h.set1 (j := 0) hi (by omega) x (G2 := G2) h0 (fun i2 h2 j2 hj2 hne => by
    obtain rfl : j2 = 0 := by omega
    exact ho i2 h2 fun e => hne ⟨e, rfl⟩)
  rwa [Nat.mul_one, Nat.add_zero] at this
end
def fixD (d : Dk) (i : Nat) (f : Nat → Int) : Dk := { d with sf := upd d.sf i f, is := upd d.is i false }
variable {base Q b1 b2 b3 c1 c2 c3 : Nat} {d : Dk} {u : World}
theorem RDk.put (h : RDk base Q b1 b2 b3 c1 c2 c3 d u) {k : Nat} (hk : k < d.n) (s : ByteArray) : RDk base Q b1 b2 b3 c1 c2 c3 (putD d k s) ((u.setCell ⟨b2, k, none⟩ (.string (sec (byD s)))).setCell ⟨b3, k, none⟩ (.bool true)) := by
  obtain ⟨n1, n2, n3, n4, n5, n6⟩ := h.nes
  obtain ⟨t, r, ht⟩ := h.r2
  refine ⟨((set_else _ n3).trans (set_else _ n2)).trans h.box, h.r1.kept ((set_else _ n5).trans (set_else _ n4)), ⟨upd t k (sec (byD s)), (RowB.put1 r hk _ ?_ fun i hi e => ?_).kept (set_else _ n6), fun i hi hs => ?_⟩, ?_, h.ne, h.lo⟩
  · simp [gT, upd]
  · simp [gT, upd, e]
  · show upd t k (sec (byD s)) i = sec (upd d.nw k (byD s) i)
    change upd d.is k true i = true at hs
    unfold upd at hs ⊢
    by_cases e : i = k
    · simp [e]
    · rw [if_neg e] at hs
      rw [if_neg e, if_neg e, ht i hi hs]
  · exact RowB.put1 (h.r3.kept (set_else _ n6.symm)) hk _ (by simp [gO, putD, upd]) fun i hi e => by simp [gO, putD, upd, e]
theorem RDk.fix (h : RDk base Q b1 b2 b3 c1 c2 c3 d u) {k : Nat} (hk : k < d.n) (f : Nat → Int) : RDk base Q b1 b2 b3 c1 c2 c3 (fixD d k f) ((u.setCell ⟨b1, k, none⟩ (.string (sec f))).setCell ⟨b3, k, none⟩ (.bool false)) := by
  obtain ⟨n1, n2, n3, n4, n5, n6⟩ := h.nes
  obtain ⟨t, r, ht⟩ := h.r2
  refine ⟨((set_else _ n3).trans (set_else _ n1)).trans h.box, (RowB.put1 h.r1 hk _ ?_ fun i hi e => ?_).kept (set_else _ n5), ⟨t, r.kept ((set_else _ n6).trans (set_else _ n4.symm)), fun i hi hs => ?_⟩, ?_, h.ne, h.lo⟩
  · simp [gT, fixD, upd]
  · simp [gT, fixD, upd, e]
  · change upd d.is k false i = true at hs
    unfold upd at hs
    by_cases e : i = k
    · simp [e] at hs
    · rw [if_neg e] at hs
      exact ht i hi hs
  · exact RowB.put1 (h.r3.kept (set_else _ n5.symm)) hk _ (by simp [gO, fixD, upd]) fun i hi e => by simp [gO, fixD, upd, e]

set_option maxHeartbeats 3200000 in
theorem rwrite_any (h : RDk base Q b1 b2 b3 c1 c2 c3 d u) (hb : BdD d) (i : Int) (s : ByteArray) (hs : s.size ≤ 1000000) : Calls Try.prog 27 #[.pointer (some ⟨Q, 0, none⟩), .int .i64 i, .string s] u fun r u' => r = .returned (.int .i64 (writeE d i)) ∧ RDk base Q b1 b2 b3 c1 c2 c3 (writeD d i s) u' ∧ KpS (R4 Q b1 b2 b3) u u' := by
  have R := Lib.hid h
  have HBD := Lib.hid hb
  have HS := Lib.hid hs
  obtain ⟨k0, k1, k2, k3, k4, k5, kf⟩ := h.cells
  unfold writeE writeD
  clear h hb hs kf
  go_enter Try.func27, Try.ntmps27
  cases hd : d.down with
  | true =>
    rw [hd] at k5
    go_wp2_with fail
    go_ret
    exact ⟨rfl, R.out, KpS.refl _ _⟩
  | false =>
    rw [hd] at k5
    by_cases h1 : i < 0
    · have d1 : decide (i < 0) = true := by simp [h1]
      have h9 : i < 0 ∨ (d.n : Int) ≤ i := .inl h1
      have H9 := Lib.hid h9
      clear h9
      go_wp2_with fail
      go_ret
      refine ⟨?_, ?_, KpS.refl _ _⟩
      · first
          | rfl
          | (simp only [if_pos H9.out]; rfl)
      · first
          | exact R.out
          | (rw [if_pos H9.out]; exact R.out)
          | (rw [if_neg (by decide), if_pos H9.out]; exact R.out)
    · have d1 : decide (i < 0) = false := by simp; omega
      by_cases h2 : (d.n : Int) ≤ i
      · have d2 : decide ((d.n : Int) ≤ i) = true := by simp [h2]
        have H9 := Lib.hid (show i < 0 ∨ (d.n : Int) ≤ i from .inr h2)
        go_wp2_with fail
        go_ret
        refine ⟨?_, ?_, KpS.refl _ _⟩
        · first
            | rfl
            | (simp only [if_pos H9.out]; rfl)
        · first
            | exact R.out
            | (rw [if_pos H9.out]; exact R.out)
            | (rw [if_neg (by decide), if_pos H9.out]; exact R.out)
      · have d2 : decide ((d.n : Int) ≤ i) = false := by simp; omega
        have H9 := Lib.hid (show ¬ (i < 0 ∨ (d.n : Int) ≤ i) by omega)
        obtain ⟨k, rfl⟩ : ∃ k : Nat, i = (k : Int) := ⟨i.toNat, by omega⟩
        have hk : k < d.n := by omega
        have hk0 : (0 : Int) ≤ (k : Int) := by omega
        have hlt : (k : Int) < (d.n : Int) := by omega
        have HF : Hid (∀ w, Calls Try.prog 42 #[.string s] w fun r u' => r = .returned (.string (sec (byD s))) ∧ Below w.heap.size w u') := Lib.hid fun w => rfill_any s HS.out w
        have HD := Lib.hid hd
        have HK := Lib.hid hk
        clear hd hk h1 h2
        go_upto_region 5 with fail
        refine wp_region_held_drew (S := (fun w' => w'.cell? ⟨Q, 1, none⟩ = some (.slice (some ⟨b2, 0, none⟩) d.n c2))) (by kernel_rfl) ?_ (fun hHeld => ?_)
        · exact (R.out.below (bdrew u)).cells.2.1
        have L1 := Lib.hid (bdrew u)
        change wpAnyH _ _ _ _ _ _ _ _ (World.drew u)
        generalize World.drew u = w1 at *
        first | refine tq0 0 rfl ?_ | refine tq1 0 rfl ?_
        try go_frame
        first | refine tq0 1 rfl ?_ | refine tq1 1 rfl ?_
        try go_frame
        first | refine tq0 2 rfl ?_ | refine tq1 2 rfl ?_
        try go_frame
        first | refine tq0 3 rfl ?_ | refine tq1 3 rfl ?_
        try go_frame
        first | refine tq0 4 rfl ?_ | refine tq1 4 rfl ?_
        try go_frame
        first | refine tq0 5 rfl ?_ | refine tq1 5 rfl ?_
        try go_frame
        refine wpAnyH_ready (rs := [6]) (by kernel_rfl) (by simp) ?_
        refine AllReadyH.cons (o := ⟨_, _, _, _, _, _⟩) rfl (fun K hK => ?_) AllReadyH.nil
        go_simp
        refine (HF.out _).mono ?_
        rintro e w2 ⟨rfl, hb2⟩
        have L2 := Lib.hid (L1.out.trans (hb2.mono L1.out.size))
        clear hb2
        refine hK.out _ _ ?_ (fun hHeld => ?_)
        · exact (R.out.below L2.out).cells.2.1
        clear hK K
        try go_frame
        first | refine tq0 7 rfl ?_ | refine tq1 7 rfl ?_
        try go_frame
        have R2 := Lib.hid (R.out.below L2.out)
        obtain ⟨t2, r2, ht2⟩ := R2.out.r2
        have q2 := r2.cell1 HK.out
        have f2 := r2.frozen k
        have NE := Lib.hid R2.out.nes
        clear r2 ht2
        refine wpAnyH_ready (rs := [8]) (by kernel_rfl) (by simp) ?_
        refine AllReadyH.cons (o := ⟨_, _, _, _, _, _⟩) rfl (fun K hK => ?_) AllReadyH.nil
        go_simp
        refine hK.out _ _ ?_ (fun hHeld => ?_)
        · exact (World.cell?_of_block (set_else _ NE.out.2.1)).trans R2.out.cells.2.1
        clear hK K
        try go_frame
        refine wpAnyH_done (by kernel_rfl) ?_ _
        have W4 := Lib.hid (R2.out.put HK.out s)
        have c9 : (w2.setCell ⟨b2, k, none⟩ (.string (sec (byD s)))).cell? ⟨Q, 2, none⟩ = some (.slice (some ⟨b3, 0, none⟩) d.n c3) := (World.cell?_of_block (set_else _ NE.out.2.1)).trans R2.out.cells.2.2.1
        have q3 : (w2.setCell ⟨b2, k, none⟩ (.string (sec (byD s)))).cell? ⟨b3, k, none⟩ = some (gO d.is k 0) := (World.cell?_of_block (set_else _ NE.out.2.2.2.2.2.symm)).trans (R2.out.r3.cell1 HK.out)
        have f3 : (w2.setCell ⟨b2, k, none⟩ (.string (sec (byD s)))).frozen? ⟨b3, k, none⟩ = false := (R2.out.r3.kept (set_else _ NE.out.2.2.2.2.2.symm)).frozen k
        have K4 := Lib.hid (((KpS.of L2.out : KpS (R4 Q b1 b2 b3) u w2).trans (KpS.set (R4.c Q b1 b2 b3) k (.string (sec (byD s))) w2)).trans (KpS.set (R4.d Q b1 b2 b3) k (.bool true) _))
        clear hHeld k0 k1 k2 k3 k4 k5
        generalize w2.setCell ⟨b2, k, none⟩ (.string (sec (byD s))) = w3 at *
        have H5 := Lib.hid (rcount_any W4.out ⟨HBD.out.n, HBD.out.calls, HBD.out.arm⟩ HD.out)
        go_wp2_with fail
        refine (H5.out).mono ?_
        rintro e w5 ⟨rfl, r5, k5⟩
        have R5 := Lib.hid r5
        have K5 := Lib.hid (K4.out.trans k5)
        clear r5 k5
        go_wp2_with fail
        go_ret
        refine ⟨?_, ?_, K5.out⟩
        · first
            | rfl
            | (rw [if_neg H9.out]; rfl)
        · first
            | exact R5.out
            | (have := R5.out; rw [← HD.out]; exact this)
            | (rw [if_neg H9.out]; exact R5.out)

def sncD (d : Dk) (j : Nat) : Dk := { d with sf := fun i => if i < j then nowD d i else d.sf i, is := fun i => if i < j then false else d.is i }
theorem snc_now (d : Dk) (j k : Nat) (h : j ≤ k) : nowD (sncD d j) k = nowD d k := by
  have e : ¬ k < j := by omega
  simp [nowD, sncD, e]
theorem snc_step {k : Nat} (h : RDk base Q b1 b2 b3 c1 c2 c3 (fixD (sncD d k) k (nowD d k)) u) : RDk base Q b1 b2 b3 c1 c2 c3 (sncD d (k + 1)) u := by
  refine h.congr rfl rfl rfl rfl (fun i hi => ?_) (fun i hi j hj => ?_) (fun _ _ _ _ _ => rfl)
  · show (if i < k + 1 then false else d.is i) = upd (fun i => if i < k then false else d.is i) k false i
    unfold upd
    by_cases e : i = k
    · subst e; simp
    · rw [if_neg e]
      by_cases e2 : i < k
      · simp only [if_pos e2, if_pos (show i < k + 1 by omega)]
      · simp only [if_neg e2, if_neg (show ¬ i < k + 1 by omega)]
  · show (if i < k + 1 then nowD d i else d.sf i) j = upd (fun i => if i < k then nowD d i else d.sf i) k (nowD d k) i j
    unfold upd
    by_cases e : i = k
    · subst e; simp
    · rw [if_neg e]
      by_cases e2 : i < k
      · simp only [if_pos e2, if_pos (show i < k + 1 by omega)]
      · simp only [if_neg e2, if_neg (show ¬ i < k + 1 by omega)]
theorem snc_end (h : RDk base Q b1 b2 b3 c1 c2 c3 (sncD d d.n) u) : RDk base Q b1 b2 b3 c1 c2 c3 (safeD d) u := by
  have hx : ∀ i, i < d.n → (sncD d d.n).is i = false := fun i hi => if_pos hi
  refine h.congr rfl rfl rfl rfl (fun i hi => (hx i hi).symm) (fun i hi j hj => ?_) (fun i hi hs => ?_)
  · show nowD d i j = (if i < d.n then nowD d i else d.sf i) j
    rw [if_pos (show i < d.n from hi)]
  · rw [hx i hi] at hs; cases hs
theorem RDk.snc0 (h : RDk base Q b1 b2 b3 c1 c2 c3 d u) : RDk base Q b1 b2 b3 c1 c2 c3 (sncD d 0) u := h
set_option maxHeartbeats 3200000 in
theorem rsync_any (h : RDk base Q b1 b2 b3 c1 c2 c3 d u) (hb : BdD d) : Calls Try.prog 22 #[.pointer (some ⟨Q, 0, none⟩)] u fun r u' => r = .returned (.int .i64 (syncE d)) ∧ RDk base Q b1 b2 b3 c1 c2 c3 (syncD d) u' ∧ KpS (R4 Q b1 b2 b3) u u' := by
  have R := Lib.hid h
  have hn := hb.n
  obtain ⟨k0, k1, k2, k3, k4, k5, kf⟩ := h.cells
  unfold syncE syncD
  clear kf
  go_enter Try.func22, Try.ntmps22
  cases hd : d.down with
  | true =>
    rw [hd] at k5
    clear h hb
    go_wp2_with fail
    go_ret
    exact ⟨rfl, R.out, KpS.refl _ _⟩
  | false =>
    rw [hd] at k5
    have H2 := Lib.hid (rcount_any h hb hd)
    clear h hb
    go_wp2_with fail
    refine (H2.out).mono ?_
    rintro e w2 ⟨rfl, r2, q2⟩
    have R2 := Lib.hid r2
    have K2 := Lib.hid q2
    clear r2 q2 k0 k1 k2 k3 k4 k5
    by_cases h1 : d.arm = 1
    · have e1 : countE d = 13 := by simp [countE, h1]
      rw [e1]
      go_wp2_with fail
      go_ret
      refine ⟨rfl, ?_, K2.out⟩
      first
        | exact R2.out
        | (rw [if_neg (by decide), if_pos h1]; exact R2.out)
        | (rw [if_pos h1]; exact R2.out)
    · have e1 : countE d = 0 := by simp [countE, h1]
      rw [e1]
      have hn2 : (countD d).n = d.n := count_n d
      obtain ⟨n, hq⟩ : ∃ n, n = d.n := ⟨_, rfl⟩
      rw [← hq] at hn hn2
      have HN2 := Lib.hid hn2
      have HQ := Lib.hid hq
      have H1 := Lib.hid h1
      have E1 := Lib.hid e1
      clear hq h1 e1 hn2
      obtain ⟨x, hx⟩ : ∃ x, x = countD d := ⟨_, rfl⟩
      rw [← hx] at HN2 R2
      have HX := Lib.hid hx
      clear hx
      go_wp2_with fail
      go_loopw [4] (fun i wr => ∃ j : Nat, j ≤ n ∧ i = .int .i64 j ∧ RDk base Q b1 b2 b3 c1 c2 c3 (sncD x j) wr ∧ KpS (R4 Q b1 b2 b3) u wr) (fun i _ => n - (intOf i).toNat)
      case atStart => exact ⟨0, Nat.zero_le _, rfl, R2.out.snc0, K2.out⟩
      case round =>
        obtain ⟨j, hj, rfl, hr, hk⟩ := hrel
        have RJ := Lib.hid hr
        have KJ := Lib.hid hk
        have en : (sncD x j).n = n := HN2.out
        obtain ⟨k0, k1, k2, k3, k4, k5, kf⟩ := hr.cells
        rw [en] at k0 k1 k2
        have hj0 : (0 : Int) ≤ (j : Int) := by omega
        by_cases hlt : j < n
        · have hj2 : (j : Int) < (n : Int) := by omega
          have d1 : decide ((j : Int) < (n : Int)) = true := by simp [hlt]
          have HN := Lib.hid (show ∀ w, w = wr.drew → Calls Try.prog 51 #[.pointer (some ⟨Q, 0, none⟩), .int .i64 (j : Int)] w fun r u' => r = .returned (.string (sec (nowD x j))) ∧ u' = w from fun w hw => by
            have := rnow_any (hw ▸ hr.below (bdrew wr) : RDk base Q b1 b2 b3 c1 c2 c3 (sncD x j) w) j (by rw [en]; exact hlt) (by rw [en]; omega)
            rw [snc_now x j j (Nat.le_refl _)] at this
            exact this)
          have HJ := Lib.hid hlt
          clear hr hk kf hlt
          go_upto_region 9 with fail
          refine wp_region_held_drew (S := (fun w' => w'.cell? ⟨Q, 0, none⟩ = some (.slice (some ⟨b1, 0, none⟩) n c1))) (by kernel_rfl) ?_ (fun hHeld => ?_)
          · have := (RJ.out.below (bdrew wr)).cells.1
            rw [en] at this
            exact this
          have L1 := Lib.hid (bdrew wr)
          have HN1 := Lib.hid (HN.out _ rfl)
          change wpAnyH _ _ _ _ _ _ _ _ (World.drew wr)
          clear HN k0 k1 k2 k3 k4 k5
          generalize World.drew wr = w1 at *
          first | refine tq0 0 rfl ?_ | refine tq1 0 rfl ?_
          try go_frame
          first | refine tq0 1 rfl ?_ | refine tq1 1 rfl ?_
          try go_frame
          first | refine tq0 2 rfl ?_ | refine tq1 2 rfl ?_
          try go_frame
          first | refine tq0 3 rfl ?_ | refine tq1 3 rfl ?_
          try go_frame
          first | refine tq0 4 rfl ?_ | refine tq1 4 rfl ?_
          try go_frame
          first | refine tq0 5 rfl ?_ | refine tq1 5 rfl ?_
          try go_frame
          first | refine tq0 6 rfl ?_ | refine tq1 6 rfl ?_
          try go_frame
          refine wpAnyH_ready (rs := [7]) (by kernel_rfl) (by simp) ?_
          refine AllReadyH.cons (o := ⟨_, _, _, _, _, _⟩) rfl (fun K hK => ?_) AllReadyH.nil
          go_simp
          refine (HN1.out).mono ?_
          rintro e w3 ⟨rfl, rfl⟩
          refine hK.out _ _ hHeld (fun hHeld => ?_)
          clear hK K
          try go_frame
          first | refine tq0 8 rfl ?_ | refine tq1 8 rfl ?_
          try go_frame
          have R3 := Lib.hid (RJ.out.below L1.out)
          have HJ2 := Lib.hid (show j < (sncD x j).n by rw [en]; exact HJ.out)
          have q2 := R3.out.r1.cell1 HJ2.out
          have f2 := R3.out.r1.frozen j
          have NE := Lib.hid R3.out.nes
          refine wpAnyH_ready (rs := [9]) (by kernel_rfl) (by simp) ?_
          refine AllReadyH.cons (o := ⟨_, _, _, _, _, _⟩) rfl (fun K hK => ?_) AllReadyH.nil
          go_simp
          refine hK.out _ _ ?_ (fun hHeld => ?_)
          · have := R3.out.cells.1
            rw [en] at this
            exact (World.cell?_of_block (set_else _ NE.out.1)).trans this
          clear hK K
          try go_frame
          refine wpAnyH_done (by kernel_rfl) ?_ _
          have W4 := Lib.hid (R3.out.fix HJ2.out (nowD x j))
          have c9 : (w3.setCell ⟨b1, j, none⟩ (.string (sec (nowD x j)))).cell? ⟨Q, 2, none⟩ = some (.slice (some ⟨b3, 0, none⟩) n c3) := by
            have := R3.out.cells.2.2.1
            rw [en] at this
            exact (World.cell?_of_block (set_else _ NE.out.1)).trans this
          have q3 : (w3.setCell ⟨b1, j, none⟩ (.string (sec (nowD x j)))).cell? ⟨b3, j, none⟩ = some (gO (sncD x j).is j 0) := (World.cell?_of_block (set_else _ NE.out.2.2.2.2.1.symm)).trans (R3.out.r3.cell1 HJ2.out)
          have f3 : (w3.setCell ⟨b1, j, none⟩ (.string (sec (nowD x j)))).frozen? ⟨b3, j, none⟩ = false := (R3.out.r3.kept (set_else _ NE.out.2.2.2.2.1.symm)).frozen j
          have K4 := Lib.hid (((KJ.out.on L1.out).trans (KpS.set (R4.b Q b1 b2 b3) j (.string (sec (nowD x j))) w3)).trans (KpS.set (R4.d Q b1 b2 b3) j (.bool false) _))
          clear hHeld
          generalize w3.setCell ⟨b1, j, none⟩ (.string (sec (nowD x j))) = w4 at *
          go_wp2_with fail
          go_roundw
          case rel => exact ⟨j + 1, HJ.out, by go_num, snc_step W4.out, K4.out⟩
          case measure => have := HJ.out; simp [intOf]; omega
        · obtain rfl : j = n := by omega
          have d1 : decide ((j : Int) < (j : Int)) = false := by simp
          have E : Hid (RDk base Q b1 b2 b3 c1 c2 c3 (safeD x) wr) := snc_end (by rw [HN2.out]; exact RJ.out)
          clear hr hk kf
          go_wp2_with fail
          go_ret
          refine ⟨by rw [E1.out]; rfl, ?_, KJ.out⟩
          rw [HX.out] at E
          first
            | exact E.out
            | (rw [if_neg (by decide), if_neg H1.out]; exact E.out)
            | (rw [if_neg H1.out]; exact E.out)

end Go.Proofs.Ytdmlmjmdpmmcgaa
