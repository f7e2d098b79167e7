/- The contract of the document's Fill: a text cut at 64, and bytes 0 behind it. -/
import Derived.Test.YtdmlmjmdpmmcgaaDkP1
import Derived.Test.YtdmlmjmdpmmcgaaBytesOwn
import Derived.Deep.AppendSrc
import Derived.Laws.BytesArg
namespace Go.Proofs.Ytdmlmjmdpmmcgaa
open Go.RowKit
set_option linter.unusedVariables false
set_option linter.unusedSimpArgs false
set_option maxRecDepth 100000

section
variable {P : Program} (w : World)
theorem append_room_src9 (t tx ty e : TypeId) (i : TypeInfo) (ht : P.underlying t = some (.slice e)) (hi : P.info? e = some i) (hs1 : i.size = 1)
    (g sLen sCap : Nat) (cur : Array Value) (fz : Nat × Nat) (hg : w.heap[g]? = some (.cells cur e fz)) (hfz : FreeRow cur fz) (x : Value) (n : Nat) (news : List Value) (hs : Src P 1 tx x n news w)
    (hroom : sLen + n ≤ sCap) (hfit : sLen + n ≤ cur.size) :
    (Builtin.append_ #[t, tx] ty #[.slice (some ⟨g, 0, none⟩) sLen sCap, x]).run P w =
      .ok (.slice (some ⟨g, 0, none⟩) (sLen + n) sCap) (w.setRow g (cur.toList.take sLen ++ news ++ cur.toList.drop (sLen + n)).toArray) := by
  have hl : news.length = n := by rw [hs.newsLen, Nat.mul_one]
  have hst := storeCells_free P g sLen e fz news 0 cur w hg hfz (by rw [hl]; simpa using hfit) hs.one
  simp only [Nat.add_zero, hl] at hst
  rcases hs.kind with ⟨e', hk⟩ | hk <;> simp [Builtin.append_, run_underlying ht, run_underlying hk, sizeOf, typeInfo, hi, hs1, hs.len, hroom, hs.cells, Addr.add_lit, hst]

theorem run_append_src9 (base : Nat) (t tx ty e : TypeId) (i : TypeInfo) (ht : P.underlying t = some (.slice e)) (hi : P.info? e = some i) (hz : i.zero = some (.int .u8 0))
    (hsize : i.size = 1) (hby : i.bytes = 1) (v : Value) (n : Nat) (xs : List Value) (hown : OwnsB w base e v n xs) (x : Value) (m : Nat) (news : List Value) (hsrc : Src P 1 tx x m news w)
    (h63 : n + m ≤ maxLen) (hbytes : n + m ≤ 140737488355328) (hbase : base ≤ w.heap.size) :
    ∃ v' w', (Builtin.append_ #[t, tx] ty #[v, x]).run P w = .ok v' w' ∧ OwnsB w' base e v' (n + m) (xs ++ news) ∧ Below base w w' := by
  obtain ⟨hxl, g, cap, cur, fz, rfl, hbg, hg, hfz, hnc, hcm, hcs, htake⟩ := hown
  have hl : news.length = m := by rw [hsrc.newsLen, Nat.mul_one]
  have hlen : (xs ++ news).length = n + m := by rw [List.length_append, hxl, hl]
  have hgs : g < w.heap.size := (Array.getElem?_eq_some_iff.1 hg).1
  by_cases hroom : n + m ≤ cap
  · have hr := append_room_src9 (P := P) w t tx ty e i ht hi hsize g n cap cur fz hg hfz x m news hsrc hroom (by omega)
    refine ⟨_, _, hr, ⟨hlen, g, cap, _, fz, rfl, hbg, setRow_heap w g cur _ e _ hg, ?_, hroom, hcm, ?_, ?_⟩, ⟨rfl, rfl, rfl, by simp, fun k hk => setRow_other w g k _ (by omega)⟩⟩
    · intro j hj
      apply hfz
      simp only [List.size_toArray, List.length_append, List.length_take, List.length_drop, Array.length_toList, hl] at hj
      omega
    · simp only [List.size_toArray, List.length_append, List.length_take, List.length_drop, Array.length_toList, hl]
      omega
    · rw [htake, ← hlen]
      exact List.take_left
  · have holds : ∀ j u, xs[j]? = some u → w.drew.cell? ((⟨g, 0, none⟩ : Addr).add j) = some u := by
      intro j u hu
      rw [World.cell?_drew, add_plain, Nat.zero_add, cell_of_row w g j cur e fz hg]
      rw [← htake, List.getElem?_take] at hu
      split at hu
      · simpa using hu
      · cases hu
    have hr := run_append_grow_src (P := P) w t tx ty e i (.int .u8 0) ht hi hz (some ⟨g, 0, none⟩) n cap xs (by rw [hsize]; exact run_firstCells_some w.drew 1 n ⟨g, 0, none⟩ n cap xs (by rw [hxl, Nat.mul_one]) holds) x m news (by rw [hsize]; exact hsrc) (by omega) (by simp only [maxLen] at h63; omega) (by rw [hby]; exact growslice_fits (by omega) (by omega))
    have hge := grownCap_ge w (n + m) cap e
    have hcm2 : grownCap w (n + m) cap e ≤ maxLen := grownCap_le_maxLen w (n + m) cap e h63
    refine ⟨_, _, hr, ⟨hlen, w.heap.size, _, _, (0, 0), rfl, hbase, heap_alloc_new w.drew _, fun j _ h => by omega, hge, hcm2, ?_, ?_⟩, ((Below.refl base w).drew).alloc hbase _⟩
    · have hz1 : (Value.int IntKind.u8 0).cells.size = 1 := rfl
      simp only [Array.size_append, List.size_toArray, size_zeroCells, hz1, hlen]
      omega
    · simp only [Array.toList_append]
      rw [← hlen]
      exact List.take_left
theorem wpList_append_src9 {ops : Array Oper} {rest : List Oper} {o : Oper} {a : Act} {Q : Exit → Act → World → Prop} (hgd : o.guard = none) (sl x : Operand) (t u : TypeId)
    (ho : o.op = .call { callee := .builtin .append, args := #[sl, x], argTypes := #[t, u] })
    (base : Nat) (e : TypeId) (i : TypeInfo) (ht : P.underlying t = some (.slice e)) (hi : P.info? e = some i) (hz : i.zero = some (.int .u8 0))
    (hsize : i.size = 1) (hby : i.bytes = 1)
    (v : Value) (n : Nat) (xs : List Value) (hs : a.eval sl = v) (hown : OwnsB w base e v n xs) (xv : Value) (hx : a.eval x = xv) (m : Nat) (news : List Value) (hsrc : Src P 1 u xv m news w)
    (h63 : n + m ≤ maxLen) (hbytes : n + m ≤ 140737488355328) (hbase : base ≤ w.heap.size)
    (h : ∀ v' w', OwnsB w' base e v' (n + m) (xs ++ news) → Below base w w' → wpList P ops Q rest (a.put o.dst v') w') : wpList P ops Q (o :: rest) a w := by
  refine wpList_plain hgd fun K hK => ?_
  obtain ⟨v', w', hr, h2, h3⟩ := run_append_src9 (P := P) w base t u o.type e i ht hi hz hsize hby v n xs hown xv m news hsrc h63 hbytes hbase
  unfold Oper.wp execOp
  simp only [ho, resolve, invoke, builtin, Sem.run_bind, Sem.run_pure, Result.andThen_ok, List.map_toArray, List.map_cons, List.map_nil, hs, hx, hr]
  exact hK _ _ (h v' w' h2 h3)
end
theorem infoByte9 : (Try.prog.info? 5).map (fun i => (i.zero, i.size, i.bytes)) = some (some (.int .u8 0), 1, 1) := by kernel_rfl
def bytV (s : ByteArray) (j : Nat) : List Value := (List.range j).map fun k => .int .u8 (byD s k)
theorem bytV_len (s : ByteArray) (j : Nat) : (bytV s j).length = j := by simp [bytV]
theorem bytV_succ (s : ByteArray) (j : Nat) (h : s.size ≤ j) : bytV s j ++ [.int .u8 0] = bytV s (j + 1) := by
  unfold bytV
  rw [List.range_succ, List.map_append, List.map_cons, List.map_nil, byD_out h]
theorem bytV_str (s : ByteArray) : Lib.strCells s = bytV s s.size := by
  apply List.ext_getElem?
  intro k
  have e : Lib.strCells s = Lib.byteCells s.data.toList := rfl
  rcases Nat.lt_or_ge k s.size with h | h
  · rw [e, byD_cell s h]
    unfold bytV
    rw [List.getElem?_map, List.getElem?_range h]
    rfl
  · rw [List.getElem?_eq_none (by rw [Lib.strCells_length]; exact h), List.getElem?_eq_none (by rw [bytV_len]; exact h)]
def lenV : Value → Nat
  | .slice _ n _ => n
  | _ => 0
set_option maxHeartbeats 800000 in
theorem rfill_any (s : ByteArray) (hs : s.size ≤ 1000000) (u : World) : Calls Try.prog 42 #[.string s] u fun r u' => r = .returned (.string (sec (byD s))) ∧ Below u.heap.size u u' := by
  obtain ⟨i0, hi, hz0, hz1, hz2⟩ := info_parts infoByte9
  have HSZ := Lib.hid hs
  obtain ⟨v0, w2, hcv, ho2, hb2⟩ := run_bytes_free (P := Try.prog) u 9 69 5 s Try.underlying9 Try.underlying69 Try.underlying5 (by unfold maxLen; omega)
  rw [bytV_str] at ho2
  have O2 := Lib.hid ho2
  have B2 := Lib.hid hb2
  clear ho2 hb2 hs
  go_enter Try.func42, Try.ntmps42
  go_wp2_with fail
  go_loopw [3] (fun v wr => ∃ j : Nat, s.size ≤ j ∧ j ≤ 1000000 ∧ OwnsB wr u.heap.size 5 v j (bytV s j) ∧ Below u.heap.size u wr) (fun v _ => 64 - lenV v)
  case atStart => exact ⟨s.size, Nat.le_refl _, HSZ.out, O2.out, B2.out⟩
  case round =>
    clear hcv
    obtain ⟨j, hj, hj9, ho, hb⟩ := hrel
    obtain ⟨g, cap, hv0, hcl⟩ := ownsB_cells ho
    have HO := Lib.hid ho
    have HB := Lib.hid hb
    have hcap : j ≤ cap ∧ cap ≤ maxLen := by
      obtain ⟨_, g1, cap1, _, _, e9, _, _, _, q1, q2, _⟩ := ho
      rw [hv0] at e9
      simp only [Value.slice.injEq, Option.some.injEq, Addr.mk.injEq, and_true, true_and] at e9
      obtain ⟨rfl, rfl⟩ := e9
      exact ⟨q1, q2⟩
    obtain rfl := hv0
    clear ho hb
    unfold maxLen at hcap
    by_cases hlt : j < 64
    · have hj2 : (j : Int) < 64 := by omega
      have X1 := Lib.hid (heap_alloc_new wr (.cells #[.int .u8 0] 5))
      have B1 := Lib.hid (balloc wr (.cells #[.int .u8 0] 5))
      have O1 := Lib.hid (ownsB_below HO.out B1.out)
      have SZ := Lib.hid (Nat.le_trans HB.out.size B1.out.size)
      have SR : Hid (Src Try.prog 1 69 (.slice (some ⟨wr.heap.size, 0, none⟩) 1 1) 1 [.int .u8 0] (wr.alloc (.cells #[.int .u8 0] 5))) := Lib.hid (Src.ofSlice _ Try.underlying69 ⟨wr.heap.size, 0, none⟩ 1 1 [.int .u8 0] rfl (fun q x hq => by
        rcases q with _ | q
        · simp only [List.getElem?_cons_zero, Option.some.injEq] at hq
          subst hq
          rw [add_plain, Lib.cell_of_heap X1.out]; rfl
        · simp at hq) (by intro x hx; simp only [List.mem_cons, List.not_mem_nil, or_false] at hx; subst hx; rfl))
      go_wp2_with (at_builtin; refine wpList_append_src9 _ rfl _ _ 69 69 rfl u.heap.size 5 i0 Try.underlying69 hi hz0 hz1 hz2 _ _ _ rfl O1.out _ rfl 1 _ SR.out (by unfold maxLen; omega) (by omega) SZ.out ?_)
      intro v4 w4 ho4 hb4
      rw [bytV_succ s j hj] at ho4
      have O4 := Lib.hid ho4
      have B4 := Lib.hid ((HB.out.trans (B1.out.mono HB.out.size)).trans hb4)
      have e4 : lenV v4 = j + 1 := by
        obtain ⟨_, g4, cap4, _, _, rfl, _⟩ := ho4
        rfl
      clear ho4 hb4
      go_wp2_with fail
      go_roundw
      case rel => exact ⟨j + 1, by omega, by omega, O4.out, B4.out⟩
      case measure =>
        have e5 : lenV (.slice (some ⟨g, 0, none⟩) j cap) = j := rfl
        omega
    · have hcv2 := run_convert_bytes_arg (P := Try.prog) wr 69 5 Try.underlying69 Try.underlying5 g 0 64 cap ((List.range 64).map (byD s)) (by simp)
        (fun k hk => by
          rw [hcl k (by omega)]
          unfold bytV
          rw [List.getElem?_map, List.getElem?_range (by omega)]
          simp [hk]) 9 Try.underlying9
      change _ = Result.ok (Value.string (sec (byD s))) wr at hcv2
      have hj2 : ¬ (j : Int) < 64 := by omega
      clear hcl
      go_wp2_with fail
      go_ret
      exact ⟨rfl, HB.out⟩

end Go.Proofs.Ytdmlmjmdpmmcgaa
