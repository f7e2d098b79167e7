/- awake of layer 7, over whatever the program's Run is known to answer. -/
import Derived.Test.YtehdlpgopcoecaaVmLaws3
namespace Go.Proofs.Ytehdlpgopcoecaa
open Go.RowKit
set_option linter.unusedVariables false
set_option maxRecDepth 100000

/-- the program's Run answers as the document's Do does -/
def RunAny : Prop :=
  ∀ (pr : Nat → I4) (pl : Nat) (vp : Value) (i : Inp) (vI : Value) (u : World), Sl 4 (gI pr) pl vp u → Sl 1 (gW i.w) i.nw vI u → Bd (beginM i) → (∀ k, r64v (pr k).b) →
    Calls Try.prog 10 #[vp, .agg #[vI, .int .i64 i.pay, .int .i64 i.me, .int .i64 i.lps, .int .i64 i.seed, .int .i64 i.dice]] u (Tells (doU pr pl i) (mayN pr pl i) u)
theorem sl_block {C n b : Nat} {g : Nat → Nat → Value} {u : World} {cs : Array Value} {T : TypeId} {fr : Nat × Nat} (h : u.heap[b]? = some (.cells cs T fr)) (hn : n ≤ 9223372036854775807) (hc : ∀ i, i < n → ∀ j, j < C → cs[i * C + j]? = some (g i j)) :
    Sl C g n (.slice (some ⟨b, 0, none⟩) n n) u := by
  refine ⟨_, n, rfl, Nat.le_refl _, hn, fun _ => ⟨b, 0, rfl, lt_of_block h, fun i hi j hj => ?_⟩⟩
  rw [Lib.cell_of_heap h, Nat.zero_add]
  exact hc i hi j hj
theorem sl_none (C : Nat) (g : Nat → Nat → Value) (u : World) : Sl C g 0 (.slice none 0 0) u := ⟨none, 0, rfl, Nat.le_refl _, by omega, fun h => absurd h (Nat.lt_irrefl 0)⟩

def awP1 (k : Nat) : I4 := if k = 0 then ⟨13, 4, 5, 0⟩ else if k = 1 then ⟨3, 4, 4, 0⟩ else ⟨14, 5, 4, 0⟩
def awI1 : Inp := ⟨1, fun _ => 3, 4, 0, 1, 0, 0⟩
def awP2 (_ : Nat) : I4 := ⟨9, 0, 0, 0⟩
def awI2 : Inp := ⟨0, fun _ => 0, 0, 0, 0, 0, 0⟩
theorem awP1_b (k : Nat) : r64v (awP1 k).b := by
  unfold awP1 r64v
  split
  · decide
  · split <;> decide
theorem aw_one : (doU awP1 3 awI1).nw = 1 ∧ (doU awP1 3 awI1).w 0 = 7 ∧ mayN awP1 3 awI1 = 0 := by decide +kernel
theorem aw_two : (doU awP2 1 awI2).f = 1 ∧ mayN awP2 1 awI2 = 0 := by decide +kernel
theorem aw_three : mayN awP2 0 awI2 = 15 := by decide +kernel
theorem bd_begin {i : Inp} (h1 : r64v i.pay) (h2 : r64v i.me) (h3 : r64v i.lps) (h4 : i.nw ≤ 9223372036854775807) (h5 : ∀ k, r64v (i.w k)) : Bd (beginM i) := by
  refine ⟨fun k => ?_, h5⟩
  unfold beginM r64v at *
  simp only
  repeat' split
  all_goals omega

set_option maxHeartbeats 3200000 in
theorem awake7_any (HR : Hid RunAny) (w : World) : Calls Try.prog 9 #[] w fun e w' => e = .returned (.bool true) ∧ Below w.heap.size w w' := by
  have H1 : Hid (∀ u vp vI, Sl 4 (gI awP1) 3 vp u → Sl 1 (gW awI1.w) 1 vI u → Calls Try.prog 10 #[vp, .agg #[vI, .int .i64 4, .int .i64 0, .int .i64 1, .int .i64 0, .int .i64 0]] u fun e w' => ∃ b o cw az nz cz d f, e = .returned (.tuple #[.agg #[.slice (some ⟨b, o, none⟩) 1 cw, .slice az nz cz, .int .i64 d, .int .i64 f], .int .i64 0]) ∧ w'.cell? ⟨b, o, none⟩ = some (.int .i64 7) ∧ Below u.heap.size u w') := by
    show ∀ u vp vI, _
    intro u vp vI h1 h2
    refine (HR.out awP1 3 vp awI1 vI u h1 h2 (bd_begin (by unfold r64v; decide) (by unfold r64v; decide) (by unfold r64v; decide) (by decide) (fun _ => by show r64v 3; unfold r64v; decide)) awP1_b).mono ?_
    rintro e w' ⟨aw, cw, az, cz, rfl, ho, hb⟩
    obtain ⟨q1, q2, q3⟩ := aw_one
    obtain ⟨_, _, _, _, e9, hs, _⟩ := ho.sl
    simp only [Value.agg.injEq, Array.mk.injEq, List.cons.injEq, Value.slice.injEq, true_and, and_true] at e9
    obtain ⟨⟨rfl, rfl⟩, _⟩ := e9
    rw [q1] at hs ⊢
    obtain ⟨a2, c2, e2, _, _, k1⟩ := hs
    simp only [Value.slice.injEq, true_and] at e2
    obtain ⟨rfl, rfl⟩ := e2
    obtain ⟨b, o, rfl, hat⟩ := k1 (by omega)
    have hc := hat.2 0 (by omega) 0 (by omega)
    simp only [gW, q2] at hc
    rw [q3]
    exact ⟨b, o, cw, az, _, cz, _, _, rfl, hc, hb⟩
  have H2 : Hid (∀ u vp vI, Sl 4 (gI awP2) 1 vp u → Sl 1 (gW awI2.w) 0 vI u → Calls Try.prog 10 #[vp, .agg #[vI, .int .i64 0, .int .i64 0, .int .i64 0, .int .i64 0, .int .i64 0]] u fun e w' => ∃ aw nw cw az nz cz d, e = .returned (.tuple #[.agg #[.slice aw nw cw, .slice az nz cz, .int .i64 d, .int .i64 1], .int .i64 0]) ∧ Below u.heap.size u w') := by
    show ∀ u vp vI, _
    intro u vp vI h1 h2
    refine (HR.out awP2 1 vp awI2 vI u h1 h2 (bd_begin (by unfold r64v; decide) (by unfold r64v; decide) (by unfold r64v; decide) (by decide) (fun _ => by show r64v 0; unfold r64v; decide)) (fun k => by show r64v 0; unfold r64v; decide)).mono ?_
    rintro e w' ⟨aw, cw, az, cz, rfl, _, hb⟩
    obtain ⟨q1, q2⟩ := aw_two
    rw [q1, q2]
    exact ⟨aw, _, cw, az, _, cz, _, rfl, hb⟩
  have H3 : Hid (∀ u vp vI, Sl 4 (gI awP2) 0 vp u → Sl 1 (gW awI2.w) 0 vI u → Calls Try.prog 10 #[vp, .agg #[vI, .int .i64 0, .int .i64 0, .int .i64 0, .int .i64 0, .int .i64 0]] u fun e w' => ∃ aw nw cw az nz cz d f, e = .returned (.tuple #[.agg #[.slice aw nw cw, .slice az nz cz, .int .i64 d, .int .i64 f], .int .i64 15]) ∧ Below u.heap.size u w') := by
    show ∀ u vp vI, _
    intro u vp vI h1 h2
    refine (HR.out awP2 0 vp awI2 vI u h1 h2 (bd_begin (by unfold r64v; decide) (by unfold r64v; decide) (by unfold r64v; decide) (by decide) (fun _ => by show r64v 0; unfold r64v; decide)) (fun k => by show r64v 0; unfold r64v; decide)).mono ?_
    rintro e w' ⟨aw, cw, az, cz, rfl, _, hb⟩
    rw [aw_three]
    exact ⟨aw, _, cw, az, _, cz, _, _, rfl, hb⟩
  have A1 := Lib.hid (heap_alloc_new w (.cells #[.int .i64 13, .int .i64 4, .int .i64 5, .int .i64 0, .int .i64 3, .int .i64 4, .int .i64 4, .int .i64 0, .int .i64 14, .int .i64 5, .int .i64 4, .int .i64 0] 45))
  have S1 := Lib.hid (sl_block (C := 4) (n := 3) (g := gI awP1) A1.out (by decide) (fun i hi j hj => by
    have : (i = 0 ∨ i = 1 ∨ i = 2) ∧ (j = 0 ∨ j = 1 ∨ j = 2 ∨ j = 3) := by omega
    obtain ⟨rfl | rfl | rfl, rfl | rfl | rfl | rfl⟩ := this <;> rfl))
  have B1 := Lib.hid (balloc w (.cells #[.int .i64 13, .int .i64 4, .int .i64 5, .int .i64 0, .int .i64 3, .int .i64 4, .int .i64 4, .int .i64 0, .int .i64 14, .int .i64 5, .int .i64 4, .int .i64 0] 45))
  clear A1
  go_enter Try.func9, Try.ntmps9
  go_upto_region 2 with fail
  generalize w.alloc (.cells #[.int .i64 13, .int .i64 4, .int .i64 5, .int .i64 0, .int .i64 3, .int .i64 4, .int .i64 4, .int .i64 0, .int .i64 14, .int .i64 5, .int .i64 4, .int .i64 0] 45) = u1 at *
  have S2 := Lib.hid (S1.out.below (balloc u1 (.cells #[.int .i64 3] 3)))
  have T2 := Lib.hid (sl_block (C := 1) (n := 1) (g := gW awI1.w) (heap_alloc_new u1 (.cells #[.int .i64 3] 3)) (by decide) (fun i hi j hj => by
    have : i = 0 ∧ j = 0 := by omega
    obtain ⟨rfl, rfl⟩ := this; rfl))
  have B2 := Lib.hid (bthen B1.out (balloc u1 (.cells #[.int .i64 3] 3)))
  go_wp2_with fail
  refine (H1.out _ _ _ S2.out T2.out).mono ?_
  rintro e w3 ⟨b, o, cw, az, nz, cz, d, f, rfl, hc3, hb3⟩
  have B4 := Lib.hid (bthen (bthen B2.out hb3) (balloc w3 (.cells #[.slice (some ⟨b, o, none⟩) 1 cw, .slice az nz cz, .int .i64 d, .int .i64 f] 30)))
  have Y4 := Lib.hid (heap_alloc_new w3 (.cells #[.slice (some ⟨b, o, none⟩) 1 cw, .slice az nz cz, .int .i64 d, .int .i64 f] 30))
  have C4 := Lib.hid (((balloc w3 (.cells #[.slice (some ⟨b, o, none⟩) 1 cw, .slice az nz cz, .int .i64 d, .int .i64 f] 30)).cell (p := ⟨b, o, none⟩) (World.block_lt_of_cell? w3 _ hc3)).trans hc3)
  clear hb3 hc3
  go_upto_region 3 with fail
  generalize w3.alloc (.cells #[.slice (some ⟨b, o, none⟩) 1 cw, .slice az nz cz, .int .i64 d, .int .i64 f] 30) = u3 at *
  generalize w3.heap.size = xb at *
  have Y5 := Lib.hid ((Below.heap_alloc u3 (.cells #[.int .i64 9, .int .i64 0, .int .i64 0, .int .i64 0] 45) _ (lt_of_block Y4.out)).trans Y4.out)
  have C5 := Lib.hid (((balloc u3 (.cells #[.int .i64 9, .int .i64 0, .int .i64 0, .int .i64 0] 45)).cell (p := ⟨b, o, none⟩) (World.block_lt_of_cell? u3 _ C4.out)).trans C4.out)
  have B5 := Lib.hid (bthen B4.out (balloc u3 (.cells #[.int .i64 9, .int .i64 0, .int .i64 0, .int .i64 0] 45)))
  have S5 := Lib.hid (sl_block (C := 4) (n := 1) (g := gI awP2) (heap_alloc_new u3 (.cells #[.int .i64 9, .int .i64 0, .int .i64 0, .int .i64 0] 45)) (by decide) (fun i hi j hj => by
    have : i = 0 ∧ (j = 0 ∨ j = 1 ∨ j = 2 ∨ j = 3) := by omega
    obtain ⟨rfl, rfl | rfl | rfl | rfl⟩ := this <;> rfl))
  go_wp2_with fail
  refine (H2.out _ _ _ S5.out (sl_none 1 (gW awI2.w) _)).mono ?_
  rintro e w5 ⟨aw5, nw5, cw5, az5, nz5, cz5, d5, rfl, hb5⟩
  have Y6 := Lib.hid ((hb5.block _ (lt_of_block Y5.out)).trans Y5.out)
  have C6 := Lib.hid ((hb5.cell (p := ⟨b, o, none⟩) (World.block_lt_of_cell? _ _ C5.out)).trans C5.out)
  have B6 := Lib.hid (bthen (bthen B5.out hb5) (balloc w5 (.cells #[.slice aw5 nw5 cw5, .slice az5 nz5 cz5, .int .i64 d5, .int .i64 1] 30)))
  have Y7 := Lib.hid ((Below.heap_alloc w5 (.cells #[.slice aw5 nw5 cw5, .slice az5 nz5 cz5, .int .i64 d5, .int .i64 1] 30) _ (lt_of_block Y6.out)).trans Y6.out)
  have C7 := Lib.hid (((balloc w5 (.cells #[.slice aw5 nw5 cw5, .slice az5 nz5 cz5, .int .i64 d5, .int .i64 1] 30)).cell (p := ⟨b, o, none⟩) (World.block_lt_of_cell? w5 _ C6.out)).trans C6.out)
  have Z7 := Lib.hid (heap_alloc_new w5 (.cells #[.slice aw5 nw5 cw5, .slice az5 nz5 cz5, .int .i64 d5, .int .i64 1] 30))
  clear hb5
  go_upto_region 4 with fail
  generalize w5.alloc (.cells #[.slice aw5 nw5 cw5, .slice az5 nz5 cz5, .int .i64 d5, .int .i64 1] 30) = u5 at *
  generalize w5.heap.size = yb at *
  go_wp2_with fail
  refine (H3.out _ _ _ (sl_none 4 (gI awP2) _) (sl_none 1 (gW awI2.w) _)).mono ?_
  rintro e w7 ⟨aw7, nw7, cw7, az7, nz7, cz7, d7, f7, rfl, hb7⟩
  have Y8 := Lib.hid ((hb7.block _ (lt_of_block Y7.out)).trans Y7.out)
  have Z8 := Lib.hid ((hb7.block _ (lt_of_block Z7.out)).trans Z7.out)
  have C8 := Lib.hid ((hb7.cell (p := ⟨b, o, none⟩) (World.block_lt_of_cell? _ _ C7.out)).trans C7.out)
  have B8 := Lib.hid (bthen (bthen B6.out hb7) (balloc w7 (.cells #[.slice aw7 nw7 cw7, .slice az7 nz7 cz7, .int .i64 d7, .int .i64 f7] 30)))
  obtain ⟨y0, y1, y2, y3⟩ := four_cells ((Below.heap_alloc w7 (.cells #[.slice aw7 nw7 cw7, .slice az7 nz7 cz7, .int .i64 d7, .int .i64 f7] 30) _ (lt_of_block Y8.out)).trans Y8.out)
  obtain ⟨z0, z1, z2, z3⟩ := four_cells ((Below.heap_alloc w7 (.cells #[.slice aw7 nw7 cw7, .slice az7 nz7 cz7, .int .i64 d7, .int .i64 f7] 30) _ (lt_of_block Z8.out)).trans Z8.out)
  have c9 := ((balloc w7 (.cells #[.slice aw7 nw7 cw7, .slice az7 nz7 cz7, .int .i64 d7, .int .i64 f7] 30)).cell (p := ⟨b, o, none⟩) (World.block_lt_of_cell? w7 _ C8.out)).trans C8.out
  clear hb7
  go_upto_region 5 with fail
  generalize w7.alloc (.cells #[.slice aw7 nw7 cw7, .slice az7 nz7 cz7, .int .i64 d7, .int .i64 f7] 30) = u7 at *
  go_wp2_with fail
  go_ret
  exact ⟨rfl, B8.out⟩

end Go.Proofs.Ytehdlpgopcoecaa
