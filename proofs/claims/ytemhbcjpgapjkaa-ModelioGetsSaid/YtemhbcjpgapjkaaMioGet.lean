/- The contract of modelio.Get. -/
import Derived.Test.YtemhbcjpgapjkaaMioRead
import Derived.Test.YtemhbcjpgapjkaaModelCheck
namespace Go.Proofs.Ytemhbcjpgapjkaa
open Go.RowKit
set_option linter.unusedVariables false
set_option maxRecDepth 100000

theorem put_six {W : World} {B : Nat} {c0 c1 c2 c3 c4 c5 : Value} {T : TypeId} (h : W.heap[B]? = some (.cells #[c0, c1, c2, c3, c4, c5] T (0, 0))) (u0 u1 u2 u3 u4 u5 : Value) :
    (W.setCells B 0 [u0, u1, u2, u3, u4, u5]).heap[B]? = some (.cells #[u0, u1, u2, u3, u4, u5] T (0, 0)) :=
  Joins.block_setCell (Joins.block_setCell (Joins.block_setCell (Joins.block_setCell (Joins.block_setCell (Joins.block_setCell h u0) u1) u2) u3) u4) u5
theorem six_cells {W : World} {B : Nat} {c0 c1 c2 c3 c4 c5 : Value} {T : TypeId} (h : W.heap[B]? = some (.cells #[c0, c1, c2, c3, c4, c5] T (0, 0))) :
    W.cell? ⟨B, 0, none⟩ = some c0 ∧ W.cell? ⟨B, 1, none⟩ = some c1 ∧ W.cell? ⟨B, 2, none⟩ = some c2 ∧ W.cell? ⟨B, 3, none⟩ = some c3 ∧ W.cell? ⟨B, 4, none⟩ = some c4 ∧ W.cell? ⟨B, 5, none⟩ = some c5 ∧ ∀ q, W.frozen? ⟨B, q, none⟩ = false := by
  refine ⟨?_, ?_, ?_, ?_, ?_, ?_, fun q => Lib.frozen_of_heap h q⟩ <;> (rw [Lib.cell_of_heap h]; rfl)

/-- what comes back, and what stays -/
def GetPost (s : ByteArray) (w : World) (e : Ending) (w' : World) : Prop :=
  ∃ vd vp vl vi, e = .returned (.tuple #[mval (getR s) vd vp vl vi, .int .i64 (getE s)]) ∧ MdlAt (getR s) vd vp vl vi w' ∧ Below w.heap.size w w'
theorem getPost_zero {s : ByteArray} {w w' : World} {e : Int} (he : getE s = e) (h0 : e ≠ 0) (hb : Below w.heap.size w w') : GetPost s w (.returned (.tuple #[.agg #[.int .i64 0, .float .f64 0, .slice none 0 0, .slice none 0 0, .slice none 0 0, .slice none 0 0], .int .i64 e])) w' := by
  have hr : getR s = zeroM := by unfold getR; rw [if_neg (by rw [he]; exact h0)]
  exact ⟨.slice none 0 0, .slice none 0 0, .slice none 0 0, .slice none 0 0, by rw [hr, he]; rfl, by rw [hr]; exact zero_mdl w', hb⟩
theorem getPost_full {s : ByteArray} {tb : Nat} {w w' : World} {r : Value} (he : getE s = 0) (hr : RMd s ⟨0, 0⟩ r (Hd tb w')) (hb : Below w.heap.size w w') : GetPost s w (.returned (.tuple #[r, .int .i64 0])) w' := by
  have h1 : getR s = getM s := by unfold getR; rw [if_pos he]
  obtain ⟨vd, vp, vl, vi, e, hm⟩ := rmd_mdl hr
  exact ⟨vd, vp, vl, vi, by rw [h1, he, e], by rw [h1]; exact hm.show, hb⟩

set_option maxHeartbeats 3200000 in
theorem get_any (s : ByteArray) (hs : s.size ≤ 100000000) (w : World) : Calls Try.prog 13 #[.string s] w (GetPost s w) := by
  have hsf := store_float
  have HS := Lib.hid hs
  have hsz : s.size ≤ 9223372036854775807 := by omega
  have T1 : Hid (TextAt (w.heap.size + 1) s ⟨0, 0⟩ ((w.alloc (.cells #[.int .i64 0, .float .f64 0, .slice none 0 0, .slice none 0 0, .slice none 0 0, .slice none 0 0] 28)).alloc (.cells #[.string s, .int .i64 0, .int .i64 0] 61))) := by
    refine ⟨hs, fun _ => Nat.zero_le _, 0, fun _ => rfl, ?_⟩
    have := heap_alloc_new (w.alloc (.cells #[.int .i64 0, .float .f64 0, .slice none 0 0, .slice none 0 0, .slice none 0 0, .slice none 0 0] 28)) (.cells #[.string s, .int .i64 0, .int .i64 0] 61)
    rwa [World.size_alloc] at this
  have A1 : Hid (((w.alloc (.cells #[.int .i64 0, .float .f64 0, .slice none 0 0, .slice none 0 0, .slice none 0 0, .slice none 0 0] 28)).alloc (.cells #[.string s, .int .i64 0, .int .i64 0] 61)).heap[w.heap.size]? = some (.cells #[.int .i64 0, .float .f64 0, .slice none 0 0, .slice none 0 0, .slice none 0 0, .slice none 0 0] 28 (0, 0))) := by
    show _ = _
    rw [Below.heap_alloc _ _ _ (by rw [World.size_alloc]; omega)]
    exact heap_alloc_new w _
  have L1 := Lib.hid (low2 (w := w) (.cells #[.int .i64 0, .float .f64 0, .slice none 0 0, .slice none 0 0, .slice none 0 0, .slice none 0 0] 28) (.cells #[.string s, .int .i64 0, .int .i64 0] 61))
  clear hs
  go_enter Try.func13, Try.ntmps13
  go_wp2_with fail
  generalize (w.alloc (.cells #[.int .i64 0, .float .f64 0, .slice none 0 0, .slice none 0 0, .slice none 0 0, .slice none 0 0] 28)).alloc (.cells #[.string s, .int .i64 0, .int .i64 0] 61) = w1 at *
  refine (modelOf_any (w.heap.size + 1) s w1 T1.out.lt).mono ?_
  rintro e w2 ⟨c, rfl, hc, hb2⟩
  obtain ⟨N, caps, rfl, hgo⟩ := hc.form
  have HC := Lib.hid hc
  have HB2 := Lib.hid hb2
  have T2 := Lib.hid (T1.out.below hb2)
  clear hc hb2
  go_wp2_with fail
  refine (Reads.call HC.out (Kp.refl _ w2) T2.out).mono ?_
  rintro e w3 ⟨r, rfl, hr, ht3, hk3⟩
  obtain ⟨a3, n3, k3, a4, n4, k4, a5, n5, k5, a6, n6, k6, rfl⟩ := RMd.forms hr
  have HR := Lib.hid hr
  have HT : Hid (TextAt (w.heap.size + 1) s (g6 s) w3) := ht3
  have HK := Lib.hid hk3
  have A3 : Hid (w3.heap[w.heap.size]? = some (.cells #[.int .i64 0, .float .f64 0, .slice none 0 0, .slice none 0 0, .slice none 0 0, .slice none 0 0] 28 (0, 0))) := by
    show _ = _
    have hlt := lt_of_block A1.out
    rw [hk3.blk (Nat.lt_of_lt_of_le hlt HB2.out.size) (by omega), HB2.out.block _ hlt]
    exact A1.out
  have L3 : Hid (Below w.heap.size w w3) := (bthen L1.out HB2.out).trans (hk3.bot (by have := (bthen L1.out HB2.out).size; omega) (by omega))
  clear hr ht3 hk3
  have E : Hid (getE s = if (g6 s).e ≠ 0 then (g6 s).e else if (g6 s).pos ≠ s.size then 6 else chkN (getM s)) := rfl
  have HCK : Hid (∀ w2, RMd s ⟨0, 0⟩ (.agg #[.int .i64 (stI s ⟨0, 0⟩), .float .f64 (stF s (stN s ⟨0, 0⟩)), .slice a3 n3 k3, .slice a4 n4 k4, .slice a5 n5 k5, .slice a6 n6 k6]) (Hd (w.heap.size + 1) w2) →
      Calls Try.prog 17 #[.agg #[.int .i64 (stI s ⟨0, 0⟩), .float .f64 (stF s (stN s ⟨0, 0⟩)), .slice a3 n3 k3, .slice a4 n4 k4, .slice a5 n5 k5, .slice a6 n6 k6]] w2 fun e w' => e = .returned (.int .i64 (chkN (getM s))) ∧ Below w2.heap.size w2 w') := fun w2 h => by
    obtain ⟨vd, vp, vl, vi, e, hm⟩ := rmd_mdl h
    rw [e]
    exact check_any (getM s) vd vp vl vi w2 hm.show
  have HF := Lib.hid (fun w' he hr hb => getPost_full (s := s) (tb := w.heap.size + 1) (w := w) (w' := w') (r := .agg #[.int .i64 (stI s ⟨0, 0⟩), .float .f64 (stF s (stN s ⟨0, 0⟩)), .slice a3 n3 k3, .slice a4 n4 k4, .slice a5 n5 k5, .slice a6 n6 k6]) he hr hb)
  generalize stI s ⟨0, 0⟩ = seed at *
  generalize stF s (stN s ⟨0, 0⟩) = fin at *
  generalize hmd : mdN s ⟨0, 0⟩ = st9 at *
  clear hmd
  -- the model that was read, in a block of its own
  have T4 := Lib.hid (HT.out.below (balloc w3 (.cells #[.int .i64 seed, .float .f64 fin, .slice a3 n3 k3, .slice a4 n4 k4, .slice a5 n5 k5, .slice a6 n6 k6] 28)))
  have A4 : Hid ((w3.alloc (.cells #[.int .i64 seed, .float .f64 fin, .slice a3 n3 k3, .slice a4 n4 k4, .slice a5 n5 k5, .slice a6 n6 k6] 28)).heap[w.heap.size]? = some (.cells #[.int .i64 0, .float .f64 0, .slice none 0 0, .slice none 0 0, .slice none 0 0, .slice none 0 0] 28 (0, 0))) := by
    show _ = _
    rw [Below.heap_alloc _ _ _ (lt_of_block A3.out)]; exact A3.out
  have L4 := Lib.hid (bthen L3.out (balloc w3 (.cells #[.int .i64 seed, .float .f64 fin, .slice a3 n3 k3, .slice a4 n4 k4, .slice a5 n5 k5, .slice a6 n6 k6] 28)))
  have R4 := Lib.hid ((stab_md s).below HR.out (Kp.of (tb := w.heap.size + 1) (balloc w3 (.cells #[.int .i64 seed, .float .f64 fin, .slice a3 n3 k3, .slice a4 n4 k4, .slice a5 n5 k5, .slice a6 n6 k6] 28))).hid)
  have X4 := Lib.hid (Box6.new (.int .i64 seed) (.float .f64 fin) (.slice a3 n3 k3) (.slice a4 n4 k4) (.slice a5 n5 k5) (.slice a6 n6 k6) 28 w3)
  clear HR HK A3 T1 A1 L1 HC HB2 T2 hgo
  obtain ⟨_, x0, x1, x2, x3, x4, x5⟩ := X4.out
  obtain ⟨_, hp, x, hx, h4⟩ := T4.out
  obtain ⟨t0, t1, t2, _⟩ := TextAt.cells h4
  obtain ⟨z0, z1, z2, z3, z4, z5, zf⟩ := six_cells A4.out
  clear h4
  by_cases he : (g6 s).e = 0
  · have hp := hp he
    obtain rfl : x = (g6 s).pos := hx he
    rw [he] at t2
    by_cases hpos : (g6 s).pos = s.size
    · have dp : (((g6 s).pos : Int) != (s.size : Int)) = false := by simp [hpos]
      have E2 : Hid (getE s = chkN (getM s)) := by show _ = _; rw [E.out, if_neg (by simp [he]), if_neg (by simp [hpos])]
      clear hx he hpos E hp
      generalize (g6 s).pos = pos at *
      have hch : chkN (getM s) = 0 ∨ chkN (getM s) = 15 := by unfold chkN; cases mayB (getM s) <;> simp
      rcases hch with hch | hch
      · rw [hch] at HCK E2
        clear hch
        clear z0 z1 z2 z3 z4 z5 zf
        go_wp2_with (go_at_call 17; refine (HCK.out _ R4.out).mono ?_; rintro e w5 ⟨rfl, hb5⟩; have A5 : Hid (w5.heap[w.heap.size]? = some (.cells #[.int .i64 0, .float .f64 0, .slice none 0 0, .slice none 0 0, .slice none 0 0, .slice none 0 0] 28 (0, 0))) := (by show _ = _; rw [hb5.block _ (lt_of_block A4.out)]; exact A4.out); have L5 := Lib.hid (bthen L4.out hb5); have R5 := Lib.hid ((stab_md s).below R4.out (Kp.of (tb := w.heap.size + 1) hb5).hid); obtain ⟨_, x0, x1, x2, x3, x4, x5⟩ := X4.out.below hb5; obtain ⟨z0, z1, z2, z3, z4, z5, zf⟩ := six_cells A5.out; clear hb5)
        have h5 := put_six A5.out (Value.int .i64 seed) (Value.float .f64 fin) (Value.slice a3 n3 k3) (Value.slice a4 n4 k4) (Value.slice a5 n5 k5) (Value.slice a6 n6 k6)
        have LZ := Lib.hid (L5.out.trans (put_low (Nat.le_refl w.heap.size) [Value.int .i64 seed, Value.float .f64 fin, Value.slice a3 n3 k3, Value.slice a4 n4 k4, Value.slice a5 n5 k5, Value.slice a6 n6 k6] 0 w5))
        have PT := Lib.hid (put_types (tb := w.heap.size + 1) (o := 0) (l := [Value.int .i64 seed, Value.float .f64 fin, Value.slice a3 n3 k3, Value.slice a4 n4 k4, Value.slice a5 n5 k5, Value.slice a6 n6 k6]) A5.out)
        change bodyPost _ _ _ _ _ (World.setCells w5 w.heap.size 0 [Value.int .i64 seed, Value.float .f64 fin, Value.slice a3 n3 k3, Value.slice a4 n4 k4, Value.slice a5 n5 k5, Value.slice a6 n6 k6])
        obtain ⟨y0, y1, y2, y3, y4, y5, _⟩ := six_cells h5
        clear h5
        generalize World.setCells w5 w.heap.size 0 [Value.int .i64 seed, Value.float .f64 fin, Value.slice a3 n3 k3, Value.slice a4 n4 k4, Value.slice a5 n5 k5, Value.slice a6 n6 k6] = w9 at *
        exact bodyPost_ret (v := .tuple #[.agg #[.int .i64 seed, .float .f64 fin, .slice a3 n3 k3, .slice a4 n4 k4, .slice a5 n5 k5, .slice a6 n6 k6], .int .i64 0]) (by simp [results, Try.results13, go_sem, y0, y1, y2, y3, y4, y5]) rfl (HF.out _ E2.out (stab_md s _ _ _ _ R5.out PT.out) LZ.out)
      · rw [hch] at HCK E2
        clear hch
        clear z0 z1 z2 z3 z4 z5 zf
        go_wp2_with (go_at_call 17; refine (HCK.out _ R4.out).mono ?_; rintro e w5 ⟨rfl, hb5⟩; have A5 : Hid (w5.heap[w.heap.size]? = some (.cells #[.int .i64 0, .float .f64 0, .slice none 0 0, .slice none 0 0, .slice none 0 0, .slice none 0 0] 28 (0, 0))) := (by show _ = _; rw [hb5.block _ (lt_of_block A4.out)]; exact A4.out); have L5 := Lib.hid (bthen L4.out hb5); have R5 := Lib.hid ((stab_md s).below R4.out (Kp.of (tb := w.heap.size + 1) hb5).hid); obtain ⟨_, x0, x1, x2, x3, x4, x5⟩ := X4.out.below hb5; obtain ⟨z0, z1, z2, z3, z4, z5, zf⟩ := six_cells A5.out; clear hb5)
        have h5 := put_six A5.out (.int .i64 0) (.float .f64 0) (.slice none 0 0) (.slice none 0 0) (.slice none 0 0) (.slice none 0 0)
        have LZ := Lib.hid (L5.out.trans (put_low (Nat.le_refl w.heap.size) [Value.int .i64 0, Value.float .f64 0, Value.slice none 0 0, Value.slice none 0 0, Value.slice none 0 0, Value.slice none 0 0] 0 w5))
        have PT := Lib.hid (put_types (tb := w.heap.size + 1) (o := 0) (l := [Value.int .i64 0, Value.float .f64 0, Value.slice none 0 0, Value.slice none 0 0, Value.slice none 0 0, Value.slice none 0 0]) A5.out)
        change bodyPost _ _ _ _ _ (World.setCells w5 w.heap.size 0 [Value.int .i64 0, Value.float .f64 0, Value.slice none 0 0, Value.slice none 0 0, Value.slice none 0 0, Value.slice none 0 0])
        obtain ⟨y0, y1, y2, y3, y4, y5, _⟩ := six_cells h5
        clear h5
        generalize World.setCells w5 w.heap.size 0 [Value.int .i64 0, Value.float .f64 0, Value.slice none 0 0, Value.slice none 0 0, Value.slice none 0 0, Value.slice none 0 0] = w9 at *
        exact bodyPost_ret (v := .tuple #[.agg #[.int .i64 0, .float .f64 0, .slice none 0 0, .slice none 0 0, .slice none 0 0, .slice none 0 0], .int .i64 15]) (by simp [results, Try.results13, go_sem, y0, y1, y2, y3, y4, y5]) rfl (getPost_zero E2.out (by decide) LZ.out)
    · have dp : (((g6 s).pos : Int) != (s.size : Int)) = true := by simp; omega
      have E2 : Hid (getE s = 6) := by show _ = _; rw [E.out, if_neg (by simp [he]), if_pos hpos]
      clear hx he hpos E hp
      generalize (g6 s).pos = pos at *
      go_wp2_with fail
      have h5 := put_six A4.out (.int .i64 0) (.float .f64 0) (.slice none 0 0) (.slice none 0 0) (.slice none 0 0) (.slice none 0 0)
      have LZ := Lib.hid (L4.out.trans (put_low (Nat.le_refl w.heap.size) [Value.int .i64 0, Value.float .f64 0, Value.slice none 0 0, Value.slice none 0 0, Value.slice none 0 0, Value.slice none 0 0] 0 (w3.alloc (.cells #[.int .i64 seed, .float .f64 fin, .slice a3 n3 k3, .slice a4 n4 k4, .slice a5 n5 k5, .slice a6 n6 k6] 28))))
      have PT := Lib.hid (put_types (tb := w.heap.size + 1) (o := 0) (l := [Value.int .i64 0, Value.float .f64 0, Value.slice none 0 0, Value.slice none 0 0, Value.slice none 0 0, Value.slice none 0 0]) A4.out)
      change bodyPost _ _ _ _ _ (World.setCells (w3.alloc (.cells #[.int .i64 seed, .float .f64 fin, .slice a3 n3 k3, .slice a4 n4 k4, .slice a5 n5 k5, .slice a6 n6 k6] 28)) w.heap.size 0 [Value.int .i64 0, Value.float .f64 0, Value.slice none 0 0, Value.slice none 0 0, Value.slice none 0 0, Value.slice none 0 0])
      obtain ⟨y0, y1, y2, y3, y4, y5, _⟩ := six_cells h5
      clear h5
      generalize World.setCells (w3.alloc (.cells #[.int .i64 seed, .float .f64 fin, .slice a3 n3 k3, .slice a4 n4 k4, .slice a5 n5 k5, .slice a6 n6 k6] 28)) w.heap.size 0 [Value.int .i64 0, Value.float .f64 0, Value.slice none 0 0, Value.slice none 0 0, Value.slice none 0 0, Value.slice none 0 0] = w9 at *
      exact bodyPost_ret (v := .tuple #[.agg #[.int .i64 0, .float .f64 0, .slice none 0 0, .slice none 0 0, .slice none 0 0, .slice none 0 0], .int .i64 6]) (by simp [results, Try.results13, go_sem, y0, y1, y2, y3, y4, y5]) rfl (getPost_zero E2.out (by decide) LZ.out)
  · have de : ((g6 s).e != 0) = true := by simp [he]
    have E2 : Hid (getE s = (g6 s).e) := by show _ = _; rw [E.out, if_pos he]
    have HNE := Lib.hid he
    clear hp hx he E
    generalize (g6 s).e = e9 at *
    go_wp2_with fail
    have A6 : Hid ((w3.alloc (.cells #[.int .i64 seed, .float .f64 fin, .slice a3 n3 k3, .slice a4 n4 k4, .slice a5 n5 k5, .slice a6 n6 k6] 28)).drew.heap[w.heap.size]? = some (.cells #[.int .i64 0, .float .f64 0, .slice none 0 0, .slice none 0 0, .slice none 0 0, .slice none 0 0] 28 (0, 0))) := A4.out
    have L6 := Lib.hid (bthen L4.out (bdrew _))
    refine wp_region_held_drew (S := fun w' => w'.cell? ⟨w.heap.size + 1, 2, none⟩ = some (.int .i64 e9)) (by kernel_rfl) ?_ (fun hHeld => ?_)
    · exact t2
    generalize (w3.alloc (.cells #[.int .i64 seed, .float .f64 fin, .slice a3 n3 k3, .slice a4 n4 k4, .slice a5 n5 k5, .slice a6 n6 k6] 28)).drew = w6 at *
    first
      | (refine wpAnyH_take (i := 0) (oi := ⟨_, _, _, _, _, _⟩) (v := undef) rfl (by kernel_rfl) (by kernel_rfl) (by kernel_rfl) (fun _ _ _ h => h) (Or.inr ⟨by rfl, rfl⟩) (by assumption) ?_
         try simp only [Act.put, List.setIfInBounds_toArray, List.set_cons_zero, List.set_cons_succ])
      | (refine wpAnyH_take (i := 0) (oi := ⟨_, _, _, _, _, _⟩) (v := ?_) rfl (by kernel_rfl) (by kernel_rfl) (by kernel_rfl) (fun _ _ _ h => h) (Or.inl ⟨by rfl, ?_⟩) (by assumption) ?_
         rotate_left
         · intro w5 hSw
           try dsimp only at hSw
           go_simp
           try with_reducible rfl
         try simp only [Act.put, List.setIfInBounds_toArray, List.set_cons_zero, List.set_cons_succ])
    first
      | (refine wpAnyH_take (i := 1) (oi := ⟨_, _, _, _, _, _⟩) (v := undef) rfl (by kernel_rfl) (by kernel_rfl) (by kernel_rfl) (fun _ _ _ h => h) (Or.inr ⟨by rfl, rfl⟩) (by assumption) ?_
         try simp only [Act.put, List.setIfInBounds_toArray, List.set_cons_zero, List.set_cons_succ])
      | (refine wpAnyH_take (i := 1) (oi := ⟨_, _, _, _, _, _⟩) (v := ?_) rfl (by kernel_rfl) (by kernel_rfl) (by kernel_rfl) (fun _ _ _ h => h) (Or.inl ⟨by rfl, ?_⟩) (by assumption) ?_
         rotate_left
         · intro w5 hSw
           try dsimp only at hSw
           go_simp
           try with_reducible rfl
         try simp only [Act.put, List.setIfInBounds_toArray, List.set_cons_zero, List.set_cons_succ])
    first
      | (refine wpAnyH_take (i := 2) (oi := ⟨_, _, _, _, _, _⟩) (v := undef) rfl (by kernel_rfl) (by kernel_rfl) (by kernel_rfl) (fun _ _ _ h => h) (Or.inr ⟨by rfl, rfl⟩) (by assumption) ?_
         try simp only [Act.put, List.setIfInBounds_toArray, List.set_cons_zero, List.set_cons_succ])
      | (refine wpAnyH_take (i := 2) (oi := ⟨_, _, _, _, _, _⟩) (v := ?_) rfl (by kernel_rfl) (by kernel_rfl) (by kernel_rfl) (fun _ _ _ h => h) (Or.inl ⟨by rfl, ?_⟩) (by assumption) ?_
         rotate_left
         · intro w5 hSw
           try dsimp only at hSw
           go_simp
           try with_reducible rfl
         try simp only [Act.put, List.setIfInBounds_toArray, List.set_cons_zero, List.set_cons_succ])
    first
      | (refine wpAnyH_take (i := 3) (oi := ⟨_, _, _, _, _, _⟩) (v := undef) rfl (by kernel_rfl) (by kernel_rfl) (by kernel_rfl) (fun _ _ _ h => h) (Or.inr ⟨by rfl, rfl⟩) (by assumption) ?_
         try simp only [Act.put, List.setIfInBounds_toArray, List.set_cons_zero, List.set_cons_succ])
      | (refine wpAnyH_take (i := 3) (oi := ⟨_, _, _, _, _, _⟩) (v := ?_) rfl (by kernel_rfl) (by kernel_rfl) (by kernel_rfl) (fun _ _ _ h => h) (Or.inl ⟨by rfl, ?_⟩) (by assumption) ?_
         rotate_left
         · intro w5 hSw
           try dsimp only at hSw
           go_simp
           try with_reducible rfl
         try simp only [Act.put, List.setIfInBounds_toArray, List.set_cons_zero, List.set_cons_succ])
    first
      | (refine wpAnyH_take (i := 4) (oi := ⟨_, _, _, _, _, _⟩) (v := undef) rfl (by kernel_rfl) (by kernel_rfl) (by kernel_rfl) (fun _ _ _ h => h) (Or.inr ⟨by rfl, rfl⟩) (by assumption) ?_
         try simp only [Act.put, List.setIfInBounds_toArray, List.set_cons_zero, List.set_cons_succ])
      | (refine wpAnyH_take (i := 4) (oi := ⟨_, _, _, _, _, _⟩) (v := ?_) rfl (by kernel_rfl) (by kernel_rfl) (by kernel_rfl) (fun _ _ _ h => h) (Or.inl ⟨by rfl, ?_⟩) (by assumption) ?_
         rotate_left
         · intro w5 hSw
           try dsimp only at hSw
           go_simp
           try with_reducible rfl
         try simp only [Act.put, List.setIfInBounds_toArray, List.set_cons_zero, List.set_cons_succ])
    obtain ⟨z0, z1, z2, z3, z4, z5, zf⟩ := six_cells A6.out
    refine wpAnyH_ready (rs := [5]) (by kernel_rfl) (by simp) ?_
    refine AllReadyH.cons (o := ⟨_, _, _, _, _, _⟩) rfl (fun K hK => ?_) AllReadyH.nil
    go_simp
    have h5 := put_six A6.out (.int .i64 0) (.float .f64 0) (.slice none 0 0) (.slice none 0 0) (.slice none 0 0) (.slice none 0 0)
    have LZ := Lib.hid (L6.out.trans (put_low (Nat.le_refl w.heap.size) [Value.int .i64 0, Value.float .f64 0, Value.slice none 0 0, Value.slice none 0 0, Value.slice none 0 0, Value.slice none 0 0] 0 w6))
    have e6 : (w6.setCells w.heap.size 0 [Value.int .i64 0, Value.float .f64 0, Value.slice none 0 0, Value.slice none 0 0, Value.slice none 0 0, Value.slice none 0 0]).cell? ⟨w.heap.size + 1, 2, none⟩ = some (.int .i64 e9) := by rw [World.cell?_of_block (w := w6) (put_other (show w.heap.size + 1 ≠ w.heap.size by omega) _ _ _)]; exact hHeld
    change K _ (w6.setCells w.heap.size 0 [Value.int .i64 0, Value.float .f64 0, Value.slice none 0 0, Value.slice none 0 0, Value.slice none 0 0, Value.slice none 0 0])
    refine hK.out _ _ ?_ (fun hHeld => ?_)
    · exact e6
    clear hK K
    try simp only [Act.put, List.setIfInBounds_toArray, List.set_cons_zero, List.set_cons_succ]
    first
      | (refine wpAnyH_take (i := 6) (oi := ⟨_, _, _, _, _, _⟩) (v := undef) rfl (by kernel_rfl) (by kernel_rfl) (by kernel_rfl) (fun _ _ _ h => h) (Or.inr ⟨by rfl, rfl⟩) (by assumption) ?_
         try simp only [Act.put, List.setIfInBounds_toArray, List.set_cons_zero, List.set_cons_succ])
      | (refine wpAnyH_take (i := 6) (oi := ⟨_, _, _, _, _, _⟩) (v := ?_) rfl (by kernel_rfl) (by kernel_rfl) (by kernel_rfl) (fun _ _ _ h => h) (Or.inl ⟨by rfl, ?_⟩) (by assumption) ?_
         rotate_left
         · intro w5 hSw
           try dsimp only at hSw
           go_simp
           try with_reducible rfl
         try simp only [Act.put, List.setIfInBounds_toArray, List.set_cons_zero, List.set_cons_succ])
    refine wpAnyH_done (by kernel_rfl) ?_ _
    obtain ⟨y0, y1, y2, y3, y4, y5, _⟩ := six_cells h5
    clear h5 e6 hHeld z0 z1 z2 z3 z4 z5 zf
    generalize w6.setCells w.heap.size 0 [Value.int .i64 0, Value.float .f64 0, Value.slice none 0 0, Value.slice none 0 0, Value.slice none 0 0, Value.slice none 0 0] = w9 at *
    go_wp2_with fail
    exact bodyPost_ret (v := .tuple #[.agg #[.int .i64 0, .float .f64 0, .slice none 0 0, .slice none 0 0, .slice none 0 0, .slice none 0 0], .int .i64 e9]) (by simp [results, Try.results13, go_sem, y0, y1, y2, y3, y4, y5]) rfl (getPost_zero E2.out HNE.out LZ.out)

end Go.Proofs.Ytemhbcjpgapjkaa
