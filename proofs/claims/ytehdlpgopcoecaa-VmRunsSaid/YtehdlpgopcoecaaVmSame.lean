/- The contract of the document's Same, at two outputs that are the same. -/
import Derived.Test.YtehdlpgopcoecaaVmMay
import Derived.Test.YtehdlpgopcoecaaModelInts
namespace Go.Proofs.Ytehdlpgopcoecaa
open Go.RowKit
set_option linter.unusedVariables false
set_option maxRecDepth 100000

/-- what comes of a run, and where it lies -/
structure Ou where
  nw : Nat
  w : Nat → Int
  ns : Nat
  sn : Nat → Snt
  dice : Int
  f : Int
def OutAt (base : Nat) (o : Ou) (v : Value) (u : World) : Prop :=
  ∃ aw cw as_ cs, v = .agg #[.slice aw o.nw cw, .slice as_ o.ns cs, .int .i64 o.dice, .int .i64 o.f] ∧ u.ownsRow base 3 1 (.slice aw o.nw cw) o.nw (rowCells 1 (gW o.w) o.nw) ∧ u.ownsRow base 42 3 (.slice as_ o.ns cs) o.ns (rowCells 3 (gS o.sn) o.ns)
theorem OutAt.below {base : Nat} {o : Ou} {v : Value} {u u2 : World} (h : OutAt base o v u) (k : Below u.heap.size u u2) : OutAt base o v u2 := by
  obtain ⟨aw, cw, a, c, e, h1, h2⟩ := h
  exact ⟨aw, cw, a, c, e, own_below h1 k, own_below h2 k⟩
theorem OutAt.sl {base : Nat} {o : Ou} {v : Value} {u : World} (h : OutAt base o v u) : ∃ aw cw as_ cs, v = .agg #[.slice aw o.nw cw, .slice as_ o.ns cs, .int .i64 o.dice, .int .i64 o.f] ∧ Sl 1 (gW o.w) o.nw (.slice aw o.nw cw) u ∧ Sl 3 (gS o.sn) o.ns (.slice as_ o.ns cs) u := by
  obtain ⟨aw, cw, a, c, e, h1, h2⟩ := h
  exact ⟨aw, cw, a, c, e, own_sl h1, own_sl h2⟩
theorem own_lower {w : World} {b b2 : Nat} {E : TypeId} {C n : Nat} {v : Value} {xs : List Value} (h : w.ownsRow b E C v n xs) (hb : b2 ≤ b) : w.ownsRow b2 E C v n xs := by
  obtain ⟨h1, h2⟩ := h
  refine ⟨h1, ?_⟩
  rcases h2 with h2 | ⟨g, cap, cur, r1, r2, r3⟩
  · exact .inl h2
  · exact .inr ⟨g, cap, cur, r1, Nat.le_trans hb r2, r3⟩
theorem OutAt.lower {base b2 : Nat} {o : Ou} {v : Value} {u : World} (h : OutAt base o v u) (hb : b2 ≤ base) : OutAt b2 o v u := by
  obtain ⟨aw, cw, a, c, e, h1, h2⟩ := h
  exact ⟨aw, cw, a, c, e, own_lower h1 hb, own_lower h2 hb⟩
/-- a store into a block of outputs turns no row of an output -/
theorem OutAt.set {base : Nat} {o : Ou} {v : Value} {u : World} (h : OutAt base o v u) {B : Nat} {cs : Array Value} {T : TypeId} {fr : Nat × Nat} (hB : u.heap[B]? = some (.cells cs T fr)) (h1 : T ≠ 3) (h2 : T ≠ 42) {u2 : World} (hk : ∀ k, k ≠ B → u2.heap[k]? = u.heap[k]?) : OutAt base o v u2 := by
  obtain ⟨aw, cw, a, c, e, r1, r2⟩ := h
  exact ⟨aw, cw, a, c, e, own_kept r1 fun g hg => hk g (by rintro rfl; exact own_not r1 hB h1 hg), own_kept r2 fun g hg => hk g (by rintro rfl; exact own_not r2 hB h2 hg)⟩
set_option maxHeartbeats 3200000 in
theorem same7_refl (o : Ou) {b1 b2 : Nat} (v1 v2 : Value) (w : World) (h1 : OutAt b1 o v1 w) (h2 : OutAt b2 o v2 w) :
    Calls Try.prog 12 #[v1, v2] w fun e w' => e = .returned (.bool true) ∧ Below w.heap.size w w' := by
  obtain ⟨aw1, cw1, az1, cs1, rfl, hw1, hs1⟩ := h1.sl
  obtain ⟨aw2, cw2, az2, cs2, rfl, hw2, hs2⟩ := h2.sl
  have X1 : ((w.alloc (.cells #[.slice aw1 o.nw cw1, .slice az1 o.ns cs1, .int .i64 o.dice, .int .i64 o.f] 30)).alloc (.cells #[.slice aw2 o.nw cw2, .slice az2 o.ns cs2, .int .i64 o.dice, .int .i64 o.f] 30)).heap[w.heap.size]? = some (.cells #[.slice aw1 o.nw cw1, .slice az1 o.ns cs1, .int .i64 o.dice, .int .i64 o.f] 30) := (Below.heap_alloc _ _ _ (by rw [World.size_alloc]; omega)).trans (heap_alloc_new w _)
  have X2 : ((w.alloc (.cells #[.slice aw1 o.nw cw1, .slice az1 o.ns cs1, .int .i64 o.dice, .int .i64 o.f] 30)).alloc (.cells #[.slice aw2 o.nw cw2, .slice az2 o.ns cs2, .int .i64 o.dice, .int .i64 o.f] 30)).heap[w.heap.size + 1]? = some (.cells #[.slice aw2 o.nw cw2, .slice az2 o.ns cs2, .int .i64 o.dice, .int .i64 o.f] 30) := by
    have := heap_alloc_new (w.alloc (.cells #[.slice aw1 o.nw cw1, .slice az1 o.ns cs1, .int .i64 o.dice, .int .i64 o.f] 30)) (.cells #[.slice aw2 o.nw cw2, .slice az2 o.ns cs2, .int .i64 o.dice, .int .i64 o.f] 30)
    rwa [World.size_alloc] at this
  have B1 := Lib.hid (bthen (balloc w (.cells #[.slice aw1 o.nw cw1, .slice az1 o.ns cs1, .int .i64 o.dice, .int .i64 o.f] 30)) (balloc _ (.cells #[.slice aw2 o.nw cw2, .slice az2 o.ns cs2, .int .i64 o.dice, .int .i64 o.f] 30)))
  have HIN := Lib.hid (ints5_any o.w o.w o.nw o.nw _ _ _ (hw1.below B1.out) (hw2.below B1.out))
  rw [sameW_refl] at HIN
  have HS1 := Lib.hid (hs1.below B1.out)
  have HS2 := Lib.hid (hs2.below B1.out)
  have HX1 := Lib.hid X1
  have HX2 := Lib.hid X2
  obtain ⟨x0, x1, x2, x3⟩ := four_cells X1
  obtain ⟨y0, y1, y2, y3⟩ := four_cells X2
  clear X1 X2 hw1 hw2 hs1 hs2
  generalize hu : (w.alloc (.cells #[.slice aw1 o.nw cw1, .slice az1 o.ns cs1, .int .i64 o.dice, .int .i64 o.f] 30)).alloc (.cells #[.slice aw2 o.nw cw2, .slice az2 o.ns cs2, .int .i64 o.dice, .int .i64 o.f] 30) = u at B1 HIN HS1 HS2 HX1 HX2 x0 x1 x2 x3 y0 y1 y2 y3
  go_enter Try.func12, Try.ntmps12
  go_upto_region 1 with fail
  try rw [hu]
  clear hu
  go_wp2_with (go_at_call 16; refine HIN.out.mono ?_; rintro e u2 ⟨rfl, hb2⟩; have X3 := Lib.hid ((hb2.block _ (lt_of_block HX1.out)).trans HX1.out); have Y3 := Lib.hid ((hb2.block _ (lt_of_block HX2.out)).trans HX2.out); have B2 := Lib.hid (bthen B1.out hb2); have S1 := Lib.hid (HS1.out.below hb2); have S2 := Lib.hid (HS2.out.below hb2); clear hb2 x0 x1 x2 x3 y0 y1 y2 y3; obtain ⟨x0, x1, x2, x3⟩ := four_cells X3.out; obtain ⟨y0, y1, y2, y3⟩ := four_cells Y3.out)
  go_loopw [5] (fun x wr => ∃ j : Nat, j ≤ o.ns ∧ x = .int .i64 j ∧ Below u2.heap.size u2 wr) (fun x _ => o.ns - (intOf x).toNat)
  case atStart => exact ⟨0, Nat.zero_le _, rfl, Below.refl _ _⟩
  case round =>
    obtain ⟨j, hj, rfl, hl⟩ := hrel
    have HL := Lib.hid hl
    clear x0 x1 x2 x3 y0 y1 y2 y3
    obtain ⟨x0, x1, x2, x3⟩ := four_cells ((hl.block _ (lt_of_block X3.out)).trans X3.out)
    obtain ⟨y0, y1, y2, y3⟩ := four_cells ((hl.block _ (lt_of_block Y3.out)).trans Y3.out)
    by_cases hlt : j < o.ns
    · obtain ⟨a1, c1, e1, m1, m2, k1⟩ := S1.out.below hl
      obtain ⟨a2, c2, e2, m3, m4, k2⟩ := S2.out.below hl
      simp only [Value.slice.injEq, true_and] at e1 e2
      obtain ⟨rfl, rfl⟩ := e1
      obtain ⟨rfl, rfl⟩ := e2
      obtain ⟨b1, o1, rfl, hA⟩ := k1 (by omega)
      obtain ⟨b2, o2, rfl, hB⟩ := k2 (by omega)
      have c0 : wr.cell? ⟨b1, o1 + j * 3, none⟩ = some (.int .i64 (o.sn j).dst) := hA.2 j hlt 0 (by omega)
      have c1 : wr.cell? ⟨b1, o1 + j * 3 + 1, none⟩ = some (.int .i64 (o.sn j).dl) := hA.2 j hlt 1 (by omega)
      have c2 : wr.cell? ⟨b1, o1 + j * 3 + 2, none⟩ = some (.int .i64 (o.sn j).pay) := hA.2 j hlt 2 (by omega)
      have d0 : wr.cell? ⟨b2, o2 + j * 3, none⟩ = some (.int .i64 (o.sn j).dst) := hB.2 j hlt 0 (by omega)
      have d1 : wr.cell? ⟨b2, o2 + j * 3 + 1, none⟩ = some (.int .i64 (o.sn j).dl) := hB.2 j hlt 1 (by omega)
      have d2 : wr.cell? ⟨b2, o2 + j * 3 + 2, none⟩ = some (.int .i64 (o.sn j).pay) := hB.2 j hlt 2 (by omega)
      have hj2 : (j : Int) < (o.ns : Int) := by omega
      have hj0 : (0 : Int) ≤ (j : Int) := by omega
      have hjt : ((j : Nat) : Int).toNat = j := by omega
      clear hA hB hl
      go_wp2_with fail
      go_region
      go_wp2_with fail
      go_roundw
      case rel => exact ⟨j + 1, by omega, by go_num, HL.out.drew⟩
      case measure => simp [intOf]; omega
    · obtain rfl : j = o.ns := by omega
      clear hl
      go_wp2_with fail
      go_ret
      exact ⟨rfl, bthen B2.out HL.out⟩

end Go.Proofs.Ytehdlpgopcoecaa
