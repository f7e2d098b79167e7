/- The contract of the document's Get. -/
import Derived.Test.YtemhbcjpgapjkaaMioLoopM
import Derived.Test.YtemhbcjpgapjkaaMioGet
import Derived.Test.YtemhbcjpgapjkaaModelRefCheck2
import Derived.Deep.CutRange
namespace Go.Proofs.Ytemhbcjpgapjkaa
open Go.RowKit
set_option linter.unusedVariables false
set_option maxRecDepth 100000

theorem getPost_fullD {s : ByteArray} {tb X : Nat} {w w' : World} {r : Value} (he : getE s = 0) (hr : RMd s ⟨0, 0⟩ r (Hd tb (Hd X w'))) (hb : Below w.heap.size w w') : GetPost s w (.returned (.tuple #[r, .int .i64 0])) w' := by
  have h1 : getR s = getM s := by unfold getR; rw [if_pos he]
  obtain ⟨vd, vp, vl, vi, e, hm⟩ := rmd_mdl hr
  exact ⟨vd, vp, vl, vi, by rw [h1, he, e], by rw [h1]; exact hm.show.show, hb⟩
theorem heap_drewK {W : World} {k : Nat} {x : Option Obj} (h : W.heap[k]? = x) : W.drew.heap[k]? = x := h
/-- the result is stored: what is known stays -/
theorem mid_ret {w : World} {tb X : Nat} {cs : Array Value} {F : World → Prop} {st : St} {u : World} (h : Mid w tb X cs F st u) {s : ByteArray} {r : Value} (hr : RMd s ⟨0, 0⟩ r (Hd tb (Hd X u))) (l : List Value) :
    RMd s ⟨0, 0⟩ r (Hd tb (Hd X (u.setCells w.heap.size 0 l))) := by
  have h1 := h.lt1
  have h2 := h.lt2
  rw [hd_sets_other (by omega)]
  exact stab_md s _ _ _ _ hr (put_types ((Hd.other _ (by omega)).trans h.res))
theorem LoopG.hide {tb X : Nat} {cs : Value → Array Value} {nx : St → St} {R : St → Value → World → Prop} {C : Nat} {E : TypeId} {cl : Value → Nat → Value} {v4 : World} {S0 : St} {j : Nat} {v : Value} {wr : World} (h : LoopG tb X cs nx R C E cl v4 S0 j v wr)
    {w2 : World} (hb : Below wr.heap.size wr w2) {R2 : St → Value → World → Prop} (s1 : Stab 65 R2) (s2 : Stab 28 R2) {st : St} {r : Value} (hr : R2 st r w2) : R2 st r (Hd tb (Hd X w2)) := by
  have p0 := h.loop.place
  have hne : X ≠ tb := (Hd.cells p0).1
  have b2 := (hb.block _ (lt_of_block h.box)).trans h.box
  have p2 : PlaceAt tb (it nx j S0) w2 := h.place.low hb (lt_of_block h.place)
  have p3 : (Hd X w2).heap[tb]? = some (.cells #[.int .i64 ((it nx j S0).pos : Int), .int .i64 (it nx j S0).e] 65 (0, 0)) := (Hd.other _ hne).trans p2
  exact s1 _ _ _ _ (s2 _ _ _ _ hr (hd_types b2)) (hd_types p3)

theorem info_get6d : (Try.prog.info? 22).map (fun i => (i.zero, i.size, i.bytes)) = some (some (.float .f64 0), 1, 8) := by kernel_rfl
theorem info_get6p : (Try.prog.info? 40).map (fun i => (i.zero, i.size, i.bytes)) = some (some (.slice none 0 0), 1, 24) := by kernel_rfl
theorem info_get6l : (Try.prog.info? 43).map (fun i => (i.zero, i.size, i.bytes)) = some (some (.agg #[.int .i64 0, .slice none 0 0]), 2, 32) := by kernel_rfl
theorem info_get6i : (Try.prog.info? 55).map (fun i => (i.zero, i.size, i.bytes)) = some (some (.agg #[.float .f64 0, .int .i64 0, .int .i64 0]), 3, 24) := by kernel_rfl
set_option maxHeartbeats 12800000 in
theorem refGet6_any (s : ByteArray) (hs : s.size ≤ 100000000) (w : World) : Calls Try.prog 14 #[.string s] w (GetPost s w) := by
  have hsf := store_float
  have ok0 : okS s ⟨0, 0⟩ := ⟨hs, fun _ => Nat.zero_le _⟩
  have ok1 : okS s (g1 s) := ok0.next
  have ok2 : okS s (g2 s) := ok1.next
  have okp : ∀ st, okS s st → okS s (prN s st) := fun st h => h.list.it (fun _ h => h.ins) _
  have okl : ∀ st, okS s st → okS s (lpN s st) := fun st h => h.next.list.it (fun _ h => h.next) _
  have oke : ∀ st, okS s st → okS s (evN s st) := fun st h => h.next.next.next
  have ok3 : okS s (g3 s) := ok2.list.it (fun _ h => h.next) _
  have ok4 : okS s (g4 s) := ok3.list.it okp _
  have ok5 : okS s (g5 s) := ok4.list.it okl _
  have ok6 : okS s (g6 s) := ok5.list.it oke _
  have HK1 : Hid (∀ j, okS s (it (stN s) j (lsS s (g2 s)))) := fun j => ok2.list.it (fun _ h => h.next) j
  have HK2 : Hid (∀ j, okS s (it (prN s) j (lsS s (g3 s)))) := fun j => ok3.list.it okp j
  have HK3 : Hid (∀ j, okS s (it (lpN s) j (lsS s (g4 s)))) := fun j => ok4.list.it okl j
  have HK4 : Hid (∀ j, okS s (it (evN s) j (lsS s (g5 s)))) := fun j => ok5.list.it oke j
  have OK6 := Lib.hid ok6.2
  have hsz : s.size ≤ 9223372036854775807 := by omega
  have HI0 : Hid (∀ w, Calls Try.prog 31 #[.string s, .agg #[.int .i64 0, .int .i64 0]] w fun e w' => e = .returned (.tuple #[.int .i64 (stI s ⟨0, 0⟩), .agg #[.int .i64 ((g1 s).pos : Int), .int .i64 (g1 s).e]]) ∧ Below w.heap.size w w') := fun w => int6_any s ⟨0, 0⟩ ok0 w
  have HF0 : Hid (∀ w, Calls Try.prog 32 #[.string s, .agg #[.int .i64 ((g1 s).pos : Int), .int .i64 (g1 s).e]] w fun e w' => e = .returned (.tuple #[.float .f64 (stF s (g1 s)), .agg #[.int .i64 ((g2 s).pos : Int), .int .i64 (g2 s).e]]) ∧ Below w.heap.size w w') := fun w => flo6_any s (g1 s) ok1 w
  have HI : Hid (∀ st2, okS s st2 → ∀ w, Calls Try.prog 31 #[.string s, .agg #[.int .i64 ((st2).pos : Int), .int .i64 (st2).e]] w fun e w' => e = .returned (.tuple #[.int .i64 (stI s st2), .agg #[.int .i64 ((stN s st2).pos : Int), .int .i64 (stN s st2).e]]) ∧ Below w.heap.size w w') := fun st2 h w => int6_any s st2 h w
  have HF : Hid (∀ st2, okS s st2 → ∀ w, Calls Try.prog 32 #[.string s, .agg #[.int .i64 ((st2).pos : Int), .int .i64 (st2).e]] w fun e w' => e = .returned (.tuple #[.float .f64 (stF s st2), .agg #[.int .i64 ((stN s st2).pos : Int), .int .i64 (stN s st2).e]]) ∧ Below w.heap.size w w') := fun st2 h w => flo6_any s st2 h w
  have HP : Hid (∀ st2, okS s st2 → ∀ w, Calls Try.prog 34 #[.string s, .agg #[.int .i64 ((st2).pos : Int), .int .i64 (st2).e]] w fun e w' => ∃ a n c, e = .returned (.tuple #[.slice a n c, .agg #[.int .i64 ((prN s st2).pos : Int), .int .i64 (prN s st2).e]]) ∧ RPrD s st2 (.slice a n c) w' ∧ Below w.heap.size w w') := fun st2 h w => code6_any s st2 h w
  have HL : Hid (∀ st2, okS s st2 → ∀ w, Calls Try.prog 35 #[.string s, .agg #[.int .i64 ((st2).pos : Int), .int .i64 (st2).e]] w fun e w' => ∃ a n c, e = .returned (.tuple #[.agg #[.int .i64 (stI s st2), .slice a n c], .agg #[.int .i64 ((lpN s st2).pos : Int), .int .i64 (lpN s st2).e]]) ∧ RLpD s st2 (.agg #[.int .i64 (stI s st2), .slice a n c]) w' ∧ Below w.heap.size w w') := fun st2 h w => (process6_any s st2 h w).mono fun e w' ⟨a, n, c, h1, h2, h3⟩ => ⟨a, n, c, h1, ⟨_, rfl, h2⟩, h3⟩
  have HC1 : Hid (∀ w, Calls Try.prog 33 #[.string s, .agg #[.int .i64 ((g2 s).pos : Int), .int .i64 (g2 s).e]] w fun e w' => e = .returned (.tuple #[.int .i64 ((lsN s (g2 s) : Nat) : Int), .agg #[.int .i64 ((lsS s (g2 s)).pos : Int), .int .i64 (lsS s (g2 s)).e]]) ∧ Below w.heap.size w w') := fun w => count6_any s (g2 s) ok2 w
  have h481 : lsN s (g2 s) ≤ 48 := lsN_le s _
  have HC2 : Hid (∀ w, Calls Try.prog 33 #[.string s, .agg #[.int .i64 ((g3 s).pos : Int), .int .i64 (g3 s).e]] w fun e w' => e = .returned (.tuple #[.int .i64 ((lsN s (g3 s) : Nat) : Int), .agg #[.int .i64 ((lsS s (g3 s)).pos : Int), .int .i64 (lsS s (g3 s)).e]]) ∧ Below w.heap.size w w') := fun w => count6_any s (g3 s) ok3 w
  have h482 : lsN s (g3 s) ≤ 48 := lsN_le s _
  have HC3 : Hid (∀ w, Calls Try.prog 33 #[.string s, .agg #[.int .i64 ((g4 s).pos : Int), .int .i64 (g4 s).e]] w fun e w' => e = .returned (.tuple #[.int .i64 ((lsN s (g4 s) : Nat) : Int), .agg #[.int .i64 ((lsS s (g4 s)).pos : Int), .int .i64 (lsS s (g4 s)).e]]) ∧ Below w.heap.size w w') := fun w => count6_any s (g4 s) ok4 w
  have h483 : lsN s (g4 s) ≤ 48 := lsN_le s _
  have HC4 : Hid (∀ w, Calls Try.prog 33 #[.string s, .agg #[.int .i64 ((g5 s).pos : Int), .int .i64 (g5 s).e]] w fun e w' => e = .returned (.tuple #[.int .i64 ((lsN s (g5 s) : Nat) : Int), .agg #[.int .i64 ((lsS s (g5 s)).pos : Int), .int .i64 (lsS s (g5 s)).e]]) ∧ Below w.heap.size w w') := fun w => count6_any s (g5 s) ok5 w
  have h484 : lsN s (g5 s) ≤ 48 := lsN_le s _
  obtain ⟨id0, hid_, hid0, hid1, hid2⟩ := info_parts info_get6d
  obtain ⟨ip0, hip, hip0, hip1, hip2⟩ := info_parts info_get6p
  obtain ⟨il0, hil, hil0, hil1, hil2⟩ := info_parts info_get6l
  obtain ⟨ii0, hii, hii0, hii1, hii2⟩ := info_parts info_get6i
  have R1 := Lib.hid (heap_alloc_new w (.cells #[.int .i64 0, .float .f64 0, .slice none 0 0, .slice none 0 0, .slice none 0 0, .slice none 0 0] 28))
  have L1 := Lib.hid (balloc w (.cells #[.int .i64 0, .float .f64 0, .slice none 0 0, .slice none 0 0, .slice none 0 0, .slice none 0 0] 28))
  clear ok0 ok1 ok2 ok3 ok4 ok5 ok6 okp okl oke
  go_enter Try.func14, Try.ntmps14
  go_wp2_with fail
  generalize w.alloc (.cells #[.int .i64 0, .float .f64 0, .slice none 0 0, .slice none 0 0, .slice none 0 0, .slice none 0 0] 28) = w1 at *
  refine (HI0.out _).mono ?_
  rintro e w2 ⟨rfl, hb2⟩
  have R2 := Lib.hid ((hb2.block _ (lt_of_block R1.out)).trans R1.out)
  have L2 := Lib.hid (bthen L1.out hb2)
  have hlt1 : w.heap.size < w2.heap.size := lt_of_block R2.out
  have R3 : Hid ((w2.alloc (.cells #[.int .i64 ((g1 s).pos : Int), .int .i64 (g1 s).e] 65)).heap[w.heap.size]? = _) := (Below.heap_alloc _ _ _ hlt1).trans R2.out
  have L3 := Lib.hid (bthen L2.out (balloc w2 (.cells #[.int .i64 ((g1 s).pos : Int), .int .i64 (g1 s).e] 65)))
  have P3 := Lib.hid (heap_alloc_new w2 (.cells #[.int .i64 ((g1 s).pos : Int), .int .i64 (g1 s).e] 65))
  clear hb2
  go_wp2_with fail
  generalize w2.alloc (.cells #[.int .i64 ((g1 s).pos : Int), .int .i64 (g1 s).e] 65) = w3 at *
  generalize w2.heap.size = tb at *
  refine (HF0.out _).mono ?_
  rintro e w4 ⟨rfl, hb4⟩
  have R4 := Lib.hid ((hb4.block _ (lt_of_block R3.out)).trans R3.out)
  have P4 := Lib.hid ((hb4.block _ (lt_of_block P3.out)).trans P3.out)
  have L4 := Lib.hid (bthen L3.out hb4)
  have hlt2 : tb < w4.heap.size := lt_of_block P4.out
  clear hb4
  obtain ⟨y0, y1, yf⟩ := two_cells P4.out
  have M0 : Hid (Mid w tb w4.heap.size #[.int .i64 (stI s ⟨0, 0⟩), .float .f64 (stF s (g1 s)), .slice none 0 0, .slice none 0 0, .slice none 0 0, .slice none 0 0] HasA (g2 s) ((w4.setCells tb 0 [.int .i64 ((g2 s).pos : Int), .int .i64 (g2 s).e]).alloc (.cells #[.int .i64 (stI s ⟨0, 0⟩), .float .f64 (stF s (g1 s)), .slice none 0 0, .slice none 0 0, .slice none 0 0, .slice none 0 0] 28))) := by
    have hsw : (w4.setCells tb 0 [.int .i64 ((g2 s).pos : Int), .int .i64 (g2 s).e]).heap.size = w4.heap.size := by simp [World.setCells]
    have hX := heap_alloc_new (w4.setCells tb 0 [.int .i64 ((g2 s).pos : Int), .int .i64 (g2 s).e]) (.cells #[.int .i64 (stI s ⟨0, 0⟩), .float .f64 (stF s (g1 s)), .slice none 0 0, .slice none 0 0, .slice none 0 0, .slice none 0 0] 28)
    rw [hsw] at hX
    have q1 : (w4.setCells tb 0 [.int .i64 ((g2 s).pos : Int), .int .i64 (g2 s).e]).heap[tb]? = some (.cells #[.int .i64 ((g2 s).pos : Int), .int .i64 (g2 s).e] 65 (0, 0)) := put_two P4.out _ _
    have q2 := (put_other (show w.heap.size ≠ tb by omega) [.int .i64 ((g2 s).pos : Int), .int .i64 (g2 s).e] 0 w4).trans R4.out
    refine ⟨hlt1, hlt2, (Below.heap_alloc _ _ _ (lt_of_block q1)).trans q1, hX, (Below.heap_alloc _ _ _ (lt_of_block q2)).trans q2, bthen (L4.out.trans (putL_low (Nat.le_of_lt hlt1) _ 0 _)) (balloc _ _), trivial⟩
  clear R1 R2 R3 L1 L2 L3 P3
  go_wp2_with fail
  change Calls _ _ _ ((World.setCells w4 tb 0 [.int .i64 ((g2 s).pos : Int), .int .i64 (g2 s).e]).alloc (.cells #[.int .i64 (stI s ⟨0, 0⟩), .float .f64 (stF s (g1 s)), .slice none 0 0, .slice none 0 0, .slice none 0 0, .slice none 0 0] 28)) _
  generalize (w4.setCells tb 0 [.int .i64 ((g2 s).pos : Int), .int .i64 (g2 s).e]).alloc (.cells #[.int .i64 (stI s ⟨0, 0⟩), .float .f64 (stF s (g1 s)), .slice none 0 0, .slice none 0 0, .slice none 0 0, .slice none 0 0] 28) = u1 at *
  clear y0 y1 yf R4 P4 L4 HI0 HF0
  generalize w4.heap.size = X at *
  have MA := Lib.hid M0.out
  clear M0 hlt2
  refine (HC1.out _).mono ?_
  rintro e c1 ⟨rfl, hb1⟩
  have MC1 := Lib.hid (Mid.call keeps_a MA.out hb1)
  have MD1 := Lib.hid (MC1.out.put (lsS s (g2 s)))
  clear hb1 MA
  obtain ⟨y0, y1, yf⟩ := two_cells MC1.out.place
  have n5 : lsN s (g2 s) ≤ 9223372036854775807 := by omega
  go_wp2_with fail
  change Code.wp _ _ _ _ (World.setCells c1 tb 0 [.int .i64 ((lsS s (g2 s)).pos : Int), .int .i64 (lsS s (g2 s)).e])
  clear y0 y1 yf MC1
  generalize World.setCells c1 tb 0 [.int .i64 ((lsS s (g2 s)).pos : Int), .int .i64 (lsS s (g2 s)).e] = V1 at *
  go_loopw [9] (fun i wr => ∃ j : Nat, j ≤ lsN s (g2 s) ∧ i = .int .i64 j ∧ ∃ a n c, LoopG tb X (fun v => #[.int .i64 (stI s ⟨0, 0⟩), .float .f64 (stF s (g1 s)), v, .slice none 0 0, .slice none 0 0, .slice none 0 0]) (stN s) (RF s) 1 22 cl1 V1 (lsS s (g2 s)) j (.slice a n c) wr) (fun i _ => lsN s (g2 s) - (intOf i).toNat)
  case atStart => exact ⟨0, Nat.zero_le _, rfl, none, 0, 0, loopG_start MD1.out⟩
  case round =>
    obtain ⟨j, hj, rfl, a71, n71, c71, hl⟩ := hrel
    obtain ⟨y0, y1, yf⟩ := two_cells hl.place
    by_cases hgo : j < lsN s (g2 s) ∧ (it (stN s) j (lsS s (g2 s))).e = 0
    · obtain ⟨hlt, he⟩ := hgo
      have hx : wr.heap[X]? = some (.cells #[.int .i64 (stI s ⟨0, 0⟩), .float .f64 (stF s (g1 s)), (.slice a71 n71 c71), .slice none 0 0, .slice none 0 0, .slice none 0 0] 28 (0, 0)) := hl.box
      have HXB := Lib.hid hx
      obtain ⟨g, hg1, hg2⟩ := hl.own
      have G1 := Lib.hid hg1
      have HSZ := Lib.hid hl.size
      have PL := Lib.hid hl.place
      have d1 : decide ((j : Int) < ((lsN s (g2 s) : Nat) : Int)) = true := by rw [decide_eq_true_eq]; omega
      have de : ((it (stN s) j (lsS s (g2 s))).e == 0) = true := by simp [he]
      have O0 := Lib.hid (HK1.out j)
      have HST : Hid (∀ v' W2 W4, Below wr.heap.size wr W2 → W4.ownsRow V1.heap.size 22 1 v' (j + 1) (rowCells 1 (fun i k => cl1 (g i) k) j ++ [.float .f64 (stF s (it (stN s) j (lsS s (g2 s))))]) → (W2.alloc (.cells #[.float .f64 (stF s (it (stN s) j (lsS s (g2 s))))] 22)).grownBy W4 (Value.slice a71 n71 c71).ownBlock →
          ∃ a n c, v' = .slice a n c ∧ W4.heap[X]? = some (.cells #[.int .i64 (stI s ⟨0, 0⟩), .float .f64 (stF s (g1 s)), (.slice a71 n71 c71), .slice none 0 0, .slice none 0 0, .slice none 0 0] 28 (0, 0)) ∧ W4.heap[tb]? = some (.cells #[.int .i64 ((it (stN s) j (lsS s (g2 s))).pos : Int), .int .i64 (it (stN s) j (lsS s (g2 s))).e] 65 (0, 0)) ∧
            LoopG tb X (fun v => #[.int .i64 (stI s ⟨0, 0⟩), .float .f64 (stF s (g1 s)), v, .slice none 0 0, .slice none 0 0, .slice none 0 0]) (stN s) (RF s) 1 22 cl1 V1 (lsS s (g2 s)) (j + 1) (.slice a n c) ((W4.setCell ⟨X, 2, none⟩ (.slice a n c)).setCells tb 0 [.int .i64 ((stN s (it (stN s) j (lsS s (g2 s)))).pos : Int), .int .i64 (stN s (it (stN s) j (lsS s (g2 s)))).e])) :=
        fun v' W2 W4 b e f => loopG_step MD1.out (by decide) (stab_rf _ s) (by decide) (by decide) hl hg1 hg2 (r := .float .f64 (stF s (it (stN s) j (lsS s (g2 s))))) rfl b (cs2 := #[.float .f64 (stF s (it (stN s) j (lsS s (g2 s))))]) rfl (by intro k hk; have : k = 0 := (by omega); subst this; rfl) e f (ci := 2) (fun _ _ => rfl)
      clear hg1 hg2 hl he hx HK2 HC2 HK3 HC3 HK4 HC4 HK1 OK6
      generalize it (stN s) j (lsS s (g2 s)) = S0 at *
      go_wp2_with fail
      refine (HF.out S0 O0.out _).mono ?_
      rintro e w5 ⟨rfl, hb5⟩
      have Q5 : Hid ((w5.alloc (.cells #[.int .i64 ((stN s S0).pos : Int), .int .i64 (stN s S0).e] 65)).heap[w5.heap.size]? = some (.cells #[.int .i64 ((stN s S0).pos : Int), .int .i64 (stN s S0).e] 65 (0, 0))) := heap_alloc_new w5 _
      have B5 := Lib.hid (bthen hb5 (balloc w5 (.cells #[.int .i64 ((stN s S0).pos : Int), .int .i64 (stN s S0).e] 65)))
      have X5 := Lib.hid ((B5.out.block _ (lt_of_block HXB.out)).trans HXB.out)
      have hqx : X ≠ w5.heap.size := by have := lt_of_block HXB.out; have := hb5.size; omega
      have hqa : X ≠ tb := by have := MD1.out.lt2; omega
      clear hb5 y0 y1 yf
      obtain ⟨x0, x1, x2, x3, x4, x5, xf⟩ := six_cells X5.out
      have HOW := Lib.hid ((own_below G1.out B5.out).alloc (.cells #[.float .f64 (stF s (S0))] 22))
      have HN := Lib.hid (news_cells (w5.alloc (.cells #[.int .i64 ((stN s S0).pos : Int), .int .i64 (stN s S0).e] 65)) #[.float .f64 (stF s (S0))] 22)
      rw [World.size_alloc] at HN
      have HBS : Hid (V1.heap.size ≤ ((w5.alloc (.cells #[.int .i64 ((stN s S0).pos : Int), .int .i64 (stN s S0).e] 65)).alloc (.cells #[.float .f64 (stF s (S0))] 22)).heap.size) := by show _ ≤ _; have := HSZ.out; have := B5.out.size; rw [World.size_alloc]; omega
      go_wp2_with (at_builtin; refine wpList_append_own _ rfl _ _ 23 rfl V1.heap.size 22 id0 (.float .f64 0) 1 8 Try.underlying23 hid_ hid0 hid1 hid2 rfl (by decide) _ j _ rfl HOW.out ⟨w5.heap.size + 1, 0, none⟩ 1 1 [.float .f64 (stF s (S0))] rfl rfl HN.out (by simp [Value.oneCell']) (by unfold maxLen; omega) (by omega) HBS.out ?_)
      intro v1 w10 hown10 hgr hnn
      have Q10 := Lib.hid (grown_keep HOW.out hgr ((Below.heap_alloc _ _ _ (lt_of_block Q5.out)).trans Q5.out) (by decide))
      have R := Lib.hid (HST.out v1 _ w10 B5.out hown10 hgr)
      clear hown10 hgr hnn x0 x1 x2 x3 x4 x5 xf
      obtain ⟨av, nv, cv, rfl, X10, P10, RR⟩ := R.out
      have RR := Lib.hid RR
      obtain ⟨x0, x1, x2, x3, x4, x5, xf⟩ := six_cells X10
      have q0 : (w10.setCell ⟨X, 2, none⟩ (.slice av nv cv)).heap[w5.heap.size]? = some (.cells #[.int .i64 ((stN s S0).pos : Int), .int .i64 (stN s S0).e] 65 (0, 0)) := (Below.heap_setCell w10 ⟨X, 2, none⟩ _ _ (by show w5.heap.size ≠ X; omega)).trans Q10.out
      have p0 : (w10.setCell ⟨X, 2, none⟩ (.slice av nv cv)).heap[tb]? = some (.cells #[.int .i64 ((S0).pos : Int), .int .i64 (S0).e] 65 (0, 0)) := (Below.heap_setCell w10 ⟨X, 2, none⟩ _ _ (by show tb ≠ X; omega)).trans P10
      clear X10 P10 R
      obtain ⟨q0, q1, qf⟩ := two_cells q0
      obtain ⟨y0, y1, yf⟩ := two_cells p0
      go_wp2_with fail
      go_roundw
      case rel => exact ⟨j + 1, by omega, by go_num, _, _, _, RR.out⟩
      case measure => simp [intOf]; omega
    · have hend : j = lsN s (g2 s) ∨ (it (stN s) j (lsS s (g2 s))).e ≠ 0 := by
        rcases Nat.lt_or_ge j (lsN s (g2 s)) with h | h
        · exact .inr fun h0 => hgo ⟨h, h0⟩
        · exact .inl (by omega)
      have ME : Hid (Mid w tb X #[.int .i64 (stI s ⟨0, 0⟩), .float .f64 (stF s (g1 s)), (.slice a71 n71 c71), .slice none 0 0, .slice none 0 0, .slice none 0 0] (HasB s ((.slice a71 n71 c71))) (g3 s) wr) := loopG_end (cs := fun v => #[.int .i64 (stI s ⟨0, 0⟩), .float .f64 (stF s (g1 s)), v, .slice none 0 0, .slice none 0 0, .slice none 0 0]) keeps_a (stick_st s) MD1.out hl hj hend
      clear hl MD1
      generalize hej : (it (stN s) j (lsS s (g2 s))).e = ej at *
      clear hej
      go_upto_region 6 with fail
      go_cut [52] from 45 to 67 (fun c wx => c = .bool false ∧ wx = wr)
      case first =>
        by_cases hjn : j < lsN s (g2 s)
        · have d1 : decide ((j : Int) < ((lsN s (g2 s) : Nat) : Int)) = true := by rw [decide_eq_true_eq]; omega
          have d2 : (ej == 0) = false := by
            rcases hend with h | h
            · omega
            · simp [h]
          clear hend hgo
          go_wp2_with fail
          go_meet
          exact ⟨rfl, rfl⟩
        · have d1 : decide ((j : Int) < ((lsN s (g2 s) : Nat) : Int)) = false := by rw [decide_eq_false_iff_not]; omega
          clear hend hgo
          go_wp2_with fail
          go_meet
          exact ⟨rfl, rfl⟩
      case rest =>
        obtain ⟨rfl, rfl⟩ := hcut
        clear hend hgo hj y0 y1 yf
        clear HC1 HK1 n5 h481
        have MA := Lib.hid ME.out
        clear ME
        obtain ⟨y0, y1, yf⟩ := two_cells MA.out.place
        go_wp2_with fail
        clear y0 y1 yf
        refine (HC2.out _).mono ?_
        rintro e c2 ⟨rfl, hb2⟩
        have MC2 := Lib.hid (Mid.call (keeps_b s _) MA.out hb2)
        have MD2 := Lib.hid (MC2.out.put (lsS s (g3 s)))
        clear hb2 MA
        obtain ⟨y0, y1, yf⟩ := two_cells MC2.out.place
        have n5 : lsN s (g3 s) ≤ 9223372036854775807 := by omega
        go_wp2_with fail
        change Code.wp _ _ _ _ (World.setCells c2 tb 0 [.int .i64 ((lsS s (g3 s)).pos : Int), .int .i64 (lsS s (g3 s)).e])
        clear y0 y1 yf MC2
        generalize World.setCells c2 tb 0 [.int .i64 ((lsS s (g3 s)).pos : Int), .int .i64 (lsS s (g3 s)).e] = V2 at *
        go_loopw [12] (fun i wr => ∃ j : Nat, j ≤ lsN s (g3 s) ∧ i = .int .i64 j ∧ ∃ a n c, LoopG tb X (fun v => #[.int .i64 (stI s ⟨0, 0⟩), .float .f64 (stF s (g1 s)), (.slice a71 n71 c71), v, .slice none 0 0, .slice none 0 0]) (prN s) (RPrD s) 1 40 cl1 V2 (lsS s (g3 s)) j (.slice a n c) wr) (fun i _ => lsN s (g3 s) - (intOf i).toNat)
        case atStart => exact ⟨0, Nat.zero_le _, rfl, none, 0, 0, loopG_start MD2.out⟩
        case round =>
          obtain ⟨j, hj, rfl, a72, n72, c72, hl⟩ := hrel
          obtain ⟨y0, y1, yf⟩ := two_cells hl.place
          by_cases hgo : j < lsN s (g3 s) ∧ (it (prN s) j (lsS s (g3 s))).e = 0
          · obtain ⟨hlt, he⟩ := hgo
            have hx : wr.heap[X]? = some (.cells #[.int .i64 (stI s ⟨0, 0⟩), .float .f64 (stF s (g1 s)), (.slice a71 n71 c71), (.slice a72 n72 c72), .slice none 0 0, .slice none 0 0] 28 (0, 0)) := hl.box
            have HXB := Lib.hid hx
            obtain ⟨g, hg1, hg2⟩ := hl.own
            have G1 := Lib.hid hg1
            have HSZ := Lib.hid hl.size
            have PL := Lib.hid hl.place
            have d1 : decide ((j : Int) < ((lsN s (g3 s) : Nat) : Int)) = true := by rw [decide_eq_true_eq]; omega
            have de : ((it (prN s) j (lsS s (g3 s))).e == 0) = true := by simp [he]
            have O0 := Lib.hid (HK2.out j)
            have HST : Hid (∀ ar nr cr v' W2 W4, RPrD s (it (prN s) j (lsS s (g3 s))) (.slice ar nr cr) W2 → Below wr.heap.size wr W2 → W4.ownsRow V2.heap.size 40 1 v' (j + 1) (rowCells 1 (fun i k => cl1 (g i) k) j ++ [.slice ar nr cr]) → (W2.alloc (.cells #[.slice ar nr cr] 40)).grownBy W4 (Value.slice a72 n72 c72).ownBlock →
                ∃ a n c, v' = .slice a n c ∧ W4.heap[X]? = some (.cells #[.int .i64 (stI s ⟨0, 0⟩), .float .f64 (stF s (g1 s)), (.slice a71 n71 c71), (.slice a72 n72 c72), .slice none 0 0, .slice none 0 0] 28 (0, 0)) ∧ W4.heap[tb]? = some (.cells #[.int .i64 ((it (prN s) j (lsS s (g3 s))).pos : Int), .int .i64 (it (prN s) j (lsS s (g3 s))).e] 65 (0, 0)) ∧
                  LoopG tb X (fun v => #[.int .i64 (stI s ⟨0, 0⟩), .float .f64 (stF s (g1 s)), (.slice a71 n71 c71), v, .slice none 0 0, .slice none 0 0]) (prN s) (RPrD s) 1 40 cl1 V2 (lsS s (g3 s)) (j + 1) (.slice a n c) ((W4.setCell ⟨X, 3, none⟩ (.slice a n c)).setCells tb 0 [.int .i64 ((prN s (it (prN s) j (lsS s (g3 s)))).pos : Int), .int .i64 (prN s (it (prN s) j (lsS s (g3 s)))).e])) :=
              fun ar nr cr v' W2 W4 q b e f => loopG_step MD2.out (by decide) (stab_prD (by decide) s) (by decide) (by decide) hl hg1 hg2 (r := .slice ar nr cr) (hl.hide b (stab_prD (by decide) s) (stab_prD (by decide) s) q) b (cs2 := #[.slice ar nr cr]) rfl (by intro k hk; have : k = 0 := (by omega); subst this; rfl) e f (ci := 3) (fun _ _ => rfl)
            clear hg1 hg2 hl he hx HK3 HC3 HK4 HC4 HK2 OK6
            generalize it (prN s) j (lsS s (g3 s)) = S0 at *
            go_wp2_with fail
            refine (HP.out S0 O0.out _).mono ?_
            rintro e w5 ⟨ar, nr, cr, rfl, hr5, hb5⟩
            have HR := Lib.hid ((stab_prD (E := 28) (by decide) s).below hr5 (balloc w5 (.cells #[.int .i64 ((prN s S0).pos : Int), .int .i64 (prN s S0).e] 65)))
            clear hr5
            have Q5 : Hid ((w5.alloc (.cells #[.int .i64 ((prN s S0).pos : Int), .int .i64 (prN s S0).e] 65)).heap[w5.heap.size]? = some (.cells #[.int .i64 ((prN s S0).pos : Int), .int .i64 (prN s S0).e] 65 (0, 0))) := heap_alloc_new w5 _
            have B5 := Lib.hid (bthen hb5 (balloc w5 (.cells #[.int .i64 ((prN s S0).pos : Int), .int .i64 (prN s S0).e] 65)))
            have X5 := Lib.hid ((B5.out.block _ (lt_of_block HXB.out)).trans HXB.out)
            have hqx : X ≠ w5.heap.size := by have := lt_of_block HXB.out; have := hb5.size; omega
            have hqa : X ≠ tb := by have := MD2.out.lt2; omega
            clear hb5 y0 y1 yf
            obtain ⟨x0, x1, x2, x3, x4, x5, xf⟩ := six_cells X5.out
            have HOW := Lib.hid ((own_below G1.out B5.out).alloc (.cells #[.slice ar nr cr] 40))
            have HN := Lib.hid (news_cells (w5.alloc (.cells #[.int .i64 ((prN s S0).pos : Int), .int .i64 (prN s S0).e] 65)) #[.slice ar nr cr] 40)
            rw [World.size_alloc] at HN
            have HBS : Hid (V2.heap.size ≤ ((w5.alloc (.cells #[.int .i64 ((prN s S0).pos : Int), .int .i64 (prN s S0).e] 65)).alloc (.cells #[.slice ar nr cr] 40)).heap.size) := by show _ ≤ _; have := HSZ.out; have := B5.out.size; rw [World.size_alloc]; omega
            go_wp2_with (at_builtin; refine wpList_append_own _ rfl _ _ 24 rfl V2.heap.size 40 ip0 (.slice none 0 0) 1 24 Try.underlying24 hip hip0 hip1 hip2 rfl (by decide) _ j _ rfl HOW.out ⟨w5.heap.size + 1, 0, none⟩ 1 1 [.slice ar nr cr] rfl rfl HN.out (by simp [Value.oneCell']) (by unfold maxLen; omega) (by omega) HBS.out ?_)
            intro v1 w10 hown10 hgr hnn
            have Q10 := Lib.hid (grown_keep HOW.out hgr ((Below.heap_alloc _ _ _ (lt_of_block Q5.out)).trans Q5.out) (by decide))
            have R := Lib.hid (HST.out ar nr cr v1 _ w10 HR.out B5.out hown10 hgr)
            clear hown10 hgr hnn x0 x1 x2 x3 x4 x5 xf
            obtain ⟨av, nv, cv, rfl, X10, P10, RR⟩ := R.out
            have RR := Lib.hid RR
            obtain ⟨x0, x1, x2, x3, x4, x5, xf⟩ := six_cells X10
            have q0 : (w10.setCell ⟨X, 3, none⟩ (.slice av nv cv)).heap[w5.heap.size]? = some (.cells #[.int .i64 ((prN s S0).pos : Int), .int .i64 (prN s S0).e] 65 (0, 0)) := (Below.heap_setCell w10 ⟨X, 3, none⟩ _ _ (by show w5.heap.size ≠ X; omega)).trans Q10.out
            have p0 : (w10.setCell ⟨X, 3, none⟩ (.slice av nv cv)).heap[tb]? = some (.cells #[.int .i64 ((S0).pos : Int), .int .i64 (S0).e] 65 (0, 0)) := (Below.heap_setCell w10 ⟨X, 3, none⟩ _ _ (by show tb ≠ X; omega)).trans P10
            clear X10 P10 R
            obtain ⟨q0, q1, qf⟩ := two_cells q0
            obtain ⟨y0, y1, yf⟩ := two_cells p0
            go_wp2_with fail
            go_roundw
            case rel => exact ⟨j + 1, by omega, by go_num, _, _, _, RR.out⟩
            case measure => simp [intOf]; omega
          · have hend : j = lsN s (g3 s) ∨ (it (prN s) j (lsS s (g3 s))).e ≠ 0 := by
              rcases Nat.lt_or_ge j (lsN s (g3 s)) with h | h
              · exact .inr fun h0 => hgo ⟨h, h0⟩
              · exact .inl (by omega)
            have ME : Hid (Mid w tb X #[.int .i64 (stI s ⟨0, 0⟩), .float .f64 (stF s (g1 s)), (.slice a71 n71 c71), (.slice a72 n72 c72), .slice none 0 0, .slice none 0 0] (HasC s ((.slice a71 n71 c71)) ((.slice a72 n72 c72))) (g4 s) wr) := loopG_end (cs := fun v => #[.int .i64 (stI s ⟨0, 0⟩), .float .f64 (stF s (g1 s)), (.slice a71 n71 c71), v, .slice none 0 0, .slice none 0 0]) (keeps_b s _) (stick_pr s) MD2.out hl hj hend
            clear hl MD2
            generalize hej : (it (prN s) j (lsS s (g3 s))).e = ej at *
            clear hej
            go_upto_region 13 with fail
            go_cut [81] from 74 to 96 (fun c wx => c = .bool false ∧ wx = wr)
            case first =>
              by_cases hjn : j < lsN s (g3 s)
              · have d1 : decide ((j : Int) < ((lsN s (g3 s) : Nat) : Int)) = true := by rw [decide_eq_true_eq]; omega
                have d2 : (ej == 0) = false := by
                  rcases hend with h | h
                  · omega
                  · simp [h]
                clear hend hgo
                go_wp2_with fail
                go_meet
                exact ⟨rfl, rfl⟩
              · have d1 : decide ((j : Int) < ((lsN s (g3 s) : Nat) : Int)) = false := by rw [decide_eq_false_iff_not]; omega
                clear hend hgo
                go_wp2_with fail
                go_meet
                exact ⟨rfl, rfl⟩
            case rest =>
              obtain ⟨rfl, rfl⟩ := hcut
              clear hend hgo hj y0 y1 yf
              clear HC2 HK2 n5 h482
              have MA := Lib.hid ME.out
              clear ME
              obtain ⟨y0, y1, yf⟩ := two_cells MA.out.place
              go_wp2_with fail
              clear y0 y1 yf
              refine (HC3.out _).mono ?_
              rintro e c3 ⟨rfl, hb3⟩
              have MC3 := Lib.hid (Mid.call (keeps_c s _ _) MA.out hb3)
              have MD3 := Lib.hid (MC3.out.put (lsS s (g4 s)))
              clear hb3 MA
              obtain ⟨y0, y1, yf⟩ := two_cells MC3.out.place
              have n5 : lsN s (g4 s) ≤ 9223372036854775807 := by omega
              go_wp2_with fail
              change Code.wp _ _ _ _ (World.setCells c3 tb 0 [.int .i64 ((lsS s (g4 s)).pos : Int), .int .i64 (lsS s (g4 s)).e])
              clear y0 y1 yf MC3
              generalize World.setCells c3 tb 0 [.int .i64 ((lsS s (g4 s)).pos : Int), .int .i64 (lsS s (g4 s)).e] = V3 at *
              go_loopw [15] (fun i wr => ∃ j : Nat, j ≤ lsN s (g4 s) ∧ i = .int .i64 j ∧ ∃ a n c, LoopG tb X (fun v => #[.int .i64 (stI s ⟨0, 0⟩), .float .f64 (stF s (g1 s)), (.slice a71 n71 c71), (.slice a72 n72 c72), v, .slice none 0 0]) (lpN s) (RLpD s) 2 43 clA V3 (lsS s (g4 s)) j (.slice a n c) wr) (fun i _ => lsN s (g4 s) - (intOf i).toNat)
              case atStart => exact ⟨0, Nat.zero_le _, rfl, none, 0, 0, loopG_start MD3.out⟩
              case round =>
                obtain ⟨j, hj, rfl, a73, n73, c73, hl⟩ := hrel
                obtain ⟨y0, y1, yf⟩ := two_cells hl.place
                by_cases hgo : j < lsN s (g4 s) ∧ (it (lpN s) j (lsS s (g4 s))).e = 0
                · obtain ⟨hlt, he⟩ := hgo
                  have hx : wr.heap[X]? = some (.cells #[.int .i64 (stI s ⟨0, 0⟩), .float .f64 (stF s (g1 s)), (.slice a71 n71 c71), (.slice a72 n72 c72), (.slice a73 n73 c73), .slice none 0 0] 28 (0, 0)) := hl.box
                  have HXB := Lib.hid hx
                  obtain ⟨g, hg1, hg2⟩ := hl.own
                  have G1 := Lib.hid hg1
                  have HSZ := Lib.hid hl.size
                  have PL := Lib.hid hl.place
                  have d1 : decide ((j : Int) < ((lsN s (g4 s) : Nat) : Int)) = true := by rw [decide_eq_true_eq]; omega
                  have de : ((it (lpN s) j (lsS s (g4 s))).e == 0) = true := by simp [he]
                  have O0 := Lib.hid (HK3.out j)
                  have HST : Hid (∀ ar nr cr v' W2 W4, RLpD s (it (lpN s) j (lsS s (g4 s))) (.agg #[.int .i64 (stI s (it (lpN s) j (lsS s (g4 s)))), .slice ar nr cr]) W2 → Below wr.heap.size wr W2 → W4.ownsRow V3.heap.size 43 2 v' (j + 1) (rowCells 2 (fun i k => clA (g i) k) j ++ [.int .i64 (stI s (it (lpN s) j (lsS s (g4 s)))), .slice ar nr cr]) → (W2.alloc (.cells #[.int .i64 (stI s (it (lpN s) j (lsS s (g4 s)))), .slice ar nr cr] 43)).grownBy W4 (Value.slice a73 n73 c73).ownBlock →
                      ∃ a n c, v' = .slice a n c ∧ W4.heap[X]? = some (.cells #[.int .i64 (stI s ⟨0, 0⟩), .float .f64 (stF s (g1 s)), (.slice a71 n71 c71), (.slice a72 n72 c72), (.slice a73 n73 c73), .slice none 0 0] 28 (0, 0)) ∧ W4.heap[tb]? = some (.cells #[.int .i64 ((it (lpN s) j (lsS s (g4 s))).pos : Int), .int .i64 (it (lpN s) j (lsS s (g4 s))).e] 65 (0, 0)) ∧
                        LoopG tb X (fun v => #[.int .i64 (stI s ⟨0, 0⟩), .float .f64 (stF s (g1 s)), (.slice a71 n71 c71), (.slice a72 n72 c72), v, .slice none 0 0]) (lpN s) (RLpD s) 2 43 clA V3 (lsS s (g4 s)) (j + 1) (.slice a n c) ((W4.setCell ⟨X, 4, none⟩ (.slice a n c)).setCells tb 0 [.int .i64 ((lpN s (it (lpN s) j (lsS s (g4 s)))).pos : Int), .int .i64 (lpN s (it (lpN s) j (lsS s (g4 s)))).e])) :=
                    fun ar nr cr v' W2 W4 q b e f => loopG_step MD3.out (by decide) (stab_lpD (by decide) s) (by decide) (by decide) hl hg1 hg2 (r := .agg #[.int .i64 (stI s (it (lpN s) j (lsS s (g4 s)))), .slice ar nr cr]) (hl.hide b (stab_lpD (by decide) s) (stab_lpD (by decide) s) q) b (cs2 := #[.int .i64 (stI s (it (lpN s) j (lsS s (g4 s)))), .slice ar nr cr]) rfl (by intro k hk; have : k = 0 ∨ k = 1 := (by omega); rcases this with rfl | rfl <;> rfl) e f (ci := 4) (fun _ _ => rfl)
                  clear hg1 hg2 hl he hx HK4 HC4 HK3 OK6
                  generalize it (lpN s) j (lsS s (g4 s)) = S0 at *
                  go_wp2_with fail
                  refine (HL.out S0 O0.out _).mono ?_
                  rintro e w5 ⟨ar, nr, cr, rfl, hr5, hb5⟩
                  have HR := Lib.hid ((stab_lpD (E := 28) (by decide) s).below ((stab_lpD (E := 28) (by decide) s).below hr5 (balloc w5 (.cells #[.int .i64 (stI s (S0)), .slice ar nr cr] 43))) (balloc _ (.cells #[.int .i64 ((lpN s S0).pos : Int), .int .i64 (lpN s S0).e] 65)))
                  clear hr5
                  have Q5 : Hid (((w5.alloc (.cells #[.int .i64 (stI s (S0)), .slice ar nr cr] 43)).alloc (.cells #[.int .i64 ((lpN s S0).pos : Int), .int .i64 (lpN s S0).e] 65)).heap[w5.heap.size + 1]? = some (.cells #[.int .i64 ((lpN s S0).pos : Int), .int .i64 (lpN s S0).e] 65 (0, 0))) := by
                    have := heap_alloc_new (w5.alloc (.cells #[.int .i64 (stI s (S0)), .slice ar nr cr] 43)) (.cells #[.int .i64 ((lpN s S0).pos : Int), .int .i64 (lpN s S0).e] 65)
                    rw [World.size_alloc] at this
                    exact this
                  have T5 : Hid (((w5.alloc (.cells #[.int .i64 (stI s (S0)), .slice ar nr cr] 43)).alloc (.cells #[.int .i64 ((lpN s S0).pos : Int), .int .i64 (lpN s S0).e] 65)).heap[w5.heap.size]? = some (.cells #[.int .i64 (stI s (S0)), .slice ar nr cr] 43 (0, 0))) := (Below.heap_alloc _ _ _ (by rw [World.size_alloc]; omega)).trans (heap_alloc_new w5 (.cells #[.int .i64 (stI s (S0)), .slice ar nr cr] 43))
                  have B5 := Lib.hid (bthen (bthen hb5 (balloc w5 (.cells #[.int .i64 (stI s (S0)), .slice ar nr cr] 43))) (balloc _ (.cells #[.int .i64 ((lpN s S0).pos : Int), .int .i64 (lpN s S0).e] 65)))
                  have X5 := Lib.hid ((B5.out.block _ (lt_of_block HXB.out)).trans HXB.out)
                  have hqx : X ≠ w5.heap.size + 1 := by have := lt_of_block HXB.out; have := hb5.size; omega
                  have hqa : X ≠ tb := by have := MD3.out.lt2; omega
                  clear hb5 y0 y1 yf
                  obtain ⟨x0, x1, x2, x3, x4, x5, xf⟩ := six_cells X5.out
                  have HOW := Lib.hid ((own_below G1.out B5.out).alloc (.cells #[.int .i64 (stI s (S0)), .slice ar nr cr] 43))
                  have HN := Lib.hid (news_cells ((w5.alloc (.cells #[.int .i64 (stI s (S0)), .slice ar nr cr] 43)).alloc (.cells #[.int .i64 ((lpN s S0).pos : Int), .int .i64 (lpN s S0).e] 65)) #[.int .i64 (stI s (S0)), .slice ar nr cr] 43)
                  rw [World.size_alloc, World.size_alloc] at HN
                  have HBS : Hid (V3.heap.size ≤ (((w5.alloc (.cells #[.int .i64 (stI s (S0)), .slice ar nr cr] 43)).alloc (.cells #[.int .i64 ((lpN s S0).pos : Int), .int .i64 (lpN s S0).e] 65)).alloc (.cells #[.int .i64 (stI s (S0)), .slice ar nr cr] 43)).heap.size) := by show _ ≤ _; have := HSZ.out; have := B5.out.size; rw [World.size_alloc]; omega
                  go_wp2_with (at_builtin; refine wpList_append_own _ rfl _ _ 25 rfl V3.heap.size 43 il0 (.agg #[.int .i64 0, .slice none 0 0]) 2 32 Try.underlying25 hil hil0 hil1 hil2 rfl (by decide) _ j _ rfl HOW.out ⟨w5.heap.size + 1 + 1, 0, none⟩ 1 1 [.int .i64 (stI s (S0)), .slice ar nr cr] rfl rfl HN.out (by simp [Value.oneCell']) (by unfold maxLen; omega) (by omega) HBS.out ?_)
                  intro v1 w10 hown10 hgr hnn
                  have Q10 := Lib.hid (grown_keep HOW.out hgr ((Below.heap_alloc _ _ _ (lt_of_block Q5.out)).trans Q5.out) (by decide))
                  have R := Lib.hid (HST.out ar nr cr v1 _ w10 HR.out B5.out hown10 hgr)
                  clear hown10 hgr hnn x0 x1 x2 x3 x4 x5 xf
                  obtain ⟨av, nv, cv, rfl, X10, P10, RR⟩ := R.out
                  have RR := Lib.hid RR
                  obtain ⟨x0, x1, x2, x3, x4, x5, xf⟩ := six_cells X10
                  have q0 : (w10.setCell ⟨X, 4, none⟩ (.slice av nv cv)).heap[w5.heap.size + 1]? = some (.cells #[.int .i64 ((lpN s S0).pos : Int), .int .i64 (lpN s S0).e] 65 (0, 0)) := (Below.heap_setCell w10 ⟨X, 4, none⟩ _ _ (by show w5.heap.size + 1 ≠ X; omega)).trans Q10.out
                  have p0 : (w10.setCell ⟨X, 4, none⟩ (.slice av nv cv)).heap[tb]? = some (.cells #[.int .i64 ((S0).pos : Int), .int .i64 (S0).e] 65 (0, 0)) := (Below.heap_setCell w10 ⟨X, 4, none⟩ _ _ (by show tb ≠ X; omega)).trans P10
                  clear X10 P10 R
                  obtain ⟨q0, q1, qf⟩ := two_cells q0
                  obtain ⟨y0, y1, yf⟩ := two_cells p0
                  go_wp2_with fail
                  go_roundw
                  case rel => exact ⟨j + 1, by omega, by go_num, _, _, _, RR.out⟩
                  case measure => simp [intOf]; omega
                · have hend : j = lsN s (g4 s) ∨ (it (lpN s) j (lsS s (g4 s))).e ≠ 0 := by
                    rcases Nat.lt_or_ge j (lsN s (g4 s)) with h | h
                    · exact .inr fun h0 => hgo ⟨h, h0⟩
                    · exact .inl (by omega)
                  have ME : Hid (Mid w tb X #[.int .i64 (stI s ⟨0, 0⟩), .float .f64 (stF s (g1 s)), (.slice a71 n71 c71), (.slice a72 n72 c72), (.slice a73 n73 c73), .slice none 0 0] (HasD s ((.slice a71 n71 c71)) ((.slice a72 n72 c72)) ((.slice a73 n73 c73))) (g5 s) wr) := loopG_end (cs := fun v => #[.int .i64 (stI s ⟨0, 0⟩), .float .f64 (stF s (g1 s)), (.slice a71 n71 c71), (.slice a72 n72 c72), v, .slice none 0 0]) (keeps_c s _ _) (stick_lp s) MD3.out hl hj hend
                  clear hl MD3
                  generalize hej : (it (lpN s) j (lsS s (g4 s))).e = ej at *
                  clear hej
                  go_upto_region 20 with fail
                  go_cut [110] from 103 to 125 (fun c wx => c = .bool false ∧ wx = wr)
                  case first =>
                    by_cases hjn : j < lsN s (g4 s)
                    · have d1 : decide ((j : Int) < ((lsN s (g4 s) : Nat) : Int)) = true := by rw [decide_eq_true_eq]; omega
                      have d2 : (ej == 0) = false := by
                        rcases hend with h | h
                        · omega
                        · simp [h]
                      clear hend hgo
                      go_wp2_with fail
                      go_meet
                      exact ⟨rfl, rfl⟩
                    · have d1 : decide ((j : Int) < ((lsN s (g4 s) : Nat) : Int)) = false := by rw [decide_eq_false_iff_not]; omega
                      clear hend hgo
                      go_wp2_with fail
                      go_meet
                      exact ⟨rfl, rfl⟩
                  case rest =>
                    obtain ⟨rfl, rfl⟩ := hcut
                    clear hend hgo hj y0 y1 yf
                    clear HC3 HK3 n5 h483
                    have MA := Lib.hid ME.out
                    clear ME
                    obtain ⟨y0, y1, yf⟩ := two_cells MA.out.place
                    go_wp2_with fail
                    clear y0 y1 yf
                    refine (HC4.out _).mono ?_
                    rintro e c4 ⟨rfl, hb4⟩
                    have MC4 := Lib.hid (Mid.call (keeps_d s _ _ _) MA.out hb4)
                    have MD4 := Lib.hid (MC4.out.put (lsS s (g5 s)))
                    clear hb4 MA
                    obtain ⟨y0, y1, yf⟩ := two_cells MC4.out.place
                    have n5 : lsN s (g5 s) ≤ 9223372036854775807 := by omega
                    go_wp2_with fail
                    change Code.wp _ _ _ _ (World.setCells c4 tb 0 [.int .i64 ((lsS s (g5 s)).pos : Int), .int .i64 (lsS s (g5 s)).e])
                    clear y0 y1 yf MC4
                    generalize World.setCells c4 tb 0 [.int .i64 ((lsS s (g5 s)).pos : Int), .int .i64 (lsS s (g5 s)).e] = V4 at *
                    go_loopw [18] (fun i wr => ∃ j : Nat, j ≤ lsN s (g5 s) ∧ i = .int .i64 j ∧ ∃ a n c, LoopG tb X (fun v => #[.int .i64 (stI s ⟨0, 0⟩), .float .f64 (stF s (g1 s)), (.slice a71 n71 c71), (.slice a72 n72 c72), (.slice a73 n73 c73), v]) (evN s) (REv s) 3 55 clA V4 (lsS s (g5 s)) j (.slice a n c) wr) (fun i _ => lsN s (g5 s) - (intOf i).toNat)
                    case atStart => exact ⟨0, Nat.zero_le _, rfl, none, 0, 0, loopG_start MD4.out⟩
                    case round =>
                      obtain ⟨j, hj, rfl, a74, n74, c74, hl⟩ := hrel
                      obtain ⟨y0, y1, yf⟩ := two_cells hl.place
                      by_cases hgo : j < lsN s (g5 s) ∧ (it (evN s) j (lsS s (g5 s))).e = 0
                      · obtain ⟨hlt, he⟩ := hgo
                        have hx : wr.heap[X]? = some (.cells #[.int .i64 (stI s ⟨0, 0⟩), .float .f64 (stF s (g1 s)), (.slice a71 n71 c71), (.slice a72 n72 c72), (.slice a73 n73 c73), (.slice a74 n74 c74)] 28 (0, 0)) := hl.box
                        have HXB := Lib.hid hx
                        obtain ⟨g, hg1, hg2⟩ := hl.own
                        have G1 := Lib.hid hg1
                        have HSZ := Lib.hid hl.size
                        have PL := Lib.hid hl.place
                        have d1 : decide ((j : Int) < ((lsN s (g5 s) : Nat) : Int)) = true := by rw [decide_eq_true_eq]; omega
                        have de : ((it (evN s) j (lsS s (g5 s))).e == 0) = true := by simp [he]
                        have O0 := Lib.hid (HK4.out j)
                        have HST : Hid (∀ v' W2 W4, Below wr.heap.size wr W2 → W4.ownsRow V4.heap.size 55 3 v' (j + 1) (rowCells 3 (fun i k => clA (g i) k) j ++ [.float .f64 (stF s (it (evN s) j (lsS s (g5 s)))), .int .i64 (stI s (stN s (it (evN s) j (lsS s (g5 s))))), .int .i64 (stI s (stN s (stN s (it (evN s) j (lsS s (g5 s))))))]) → (W2.alloc (.cells #[.float .f64 (stF s (it (evN s) j (lsS s (g5 s)))), .int .i64 (stI s (stN s (it (evN s) j (lsS s (g5 s))))), .int .i64 (stI s (stN s (stN s (it (evN s) j (lsS s (g5 s))))))] 55)).grownBy W4 (Value.slice a74 n74 c74).ownBlock →
                            ∃ a n c, v' = .slice a n c ∧ W4.heap[X]? = some (.cells #[.int .i64 (stI s ⟨0, 0⟩), .float .f64 (stF s (g1 s)), (.slice a71 n71 c71), (.slice a72 n72 c72), (.slice a73 n73 c73), (.slice a74 n74 c74)] 28 (0, 0)) ∧ W4.heap[tb]? = some (.cells #[.int .i64 ((it (evN s) j (lsS s (g5 s))).pos : Int), .int .i64 (it (evN s) j (lsS s (g5 s))).e] 65 (0, 0)) ∧
                              LoopG tb X (fun v => #[.int .i64 (stI s ⟨0, 0⟩), .float .f64 (stF s (g1 s)), (.slice a71 n71 c71), (.slice a72 n72 c72), (.slice a73 n73 c73), v]) (evN s) (REv s) 3 55 clA V4 (lsS s (g5 s)) (j + 1) (.slice a n c) ((W4.setCell ⟨X, 5, none⟩ (.slice a n c)).setCells tb 0 [.int .i64 ((evN s (it (evN s) j (lsS s (g5 s)))).pos : Int), .int .i64 (evN s (it (evN s) j (lsS s (g5 s)))).e])) :=
                          fun v' W2 W4 b e f => loopG_step MD4.out (by decide) (stab_ev _ s) (by decide) (by decide) hl hg1 hg2 (r := .agg #[.float .f64 (stF s (it (evN s) j (lsS s (g5 s)))), .int .i64 (stI s (stN s (it (evN s) j (lsS s (g5 s))))), .int .i64 (stI s (stN s (stN s (it (evN s) j (lsS s (g5 s))))))]) rfl b (cs2 := #[.float .f64 (stF s (it (evN s) j (lsS s (g5 s)))), .int .i64 (stI s (stN s (it (evN s) j (lsS s (g5 s))))), .int .i64 (stI s (stN s (stN s (it (evN s) j (lsS s (g5 s))))))]) rfl (by intro k hk; have : k = 0 ∨ k = 1 ∨ k = 2 := (by omega); rcases this with rfl | rfl | rfl <;> rfl) e f (ci := 5) (fun _ _ => rfl)
                        clear hg1 hg2 hl he hx  HK4 OK6
                        generalize it (evN s) j (lsS s (g5 s)) = S0 at *
                        go_wp2_with fail
                        refine (HF.out S0 O0.out _).mono ?_
                        rintro e w5 ⟨rfl, hb5⟩
                        have Q5 : Hid ((w5.alloc (.cells #[.int .i64 ((stN s S0).pos : Int), .int .i64 (stN s S0).e] 65)).heap[w5.heap.size]? = some (.cells #[.int .i64 ((stN s S0).pos : Int), .int .i64 (stN s S0).e] 65 (0, 0))) := heap_alloc_new w5 _
                        have B5 := Lib.hid (bthen hb5 (balloc w5 (.cells #[.int .i64 ((stN s S0).pos : Int), .int .i64 (stN s S0).e] 65)))
                        have LQ := Lib.hid hb5.size
                        have hqx : X ≠ w5.heap.size := by have := lt_of_block HXB.out; have := hb5.size; omega
                        have hqa : X ≠ tb := by have := MD4.out.lt2; omega
                        clear hb5 y0 y1 yf
                        obtain ⟨q0, q1, qf⟩ := two_cells Q5.out
                        go_wp2_with fail
                        generalize hq : w5.heap.size = q at *
                        generalize w5.alloc (.cells #[.int .i64 ((stN s S0).pos : Int), .int .i64 (stN s S0).e] 65) = v5 at *
                        clear hq
                        refine (HI.out (stN s S0) O0.out.next _).mono ?_
                        rintro e w6 ⟨rfl, hb2⟩
                        have T2 := Lib.hid ((hb2.block _ (lt_of_block Q5.out)).trans Q5.out)
                        have C2 := Lib.hid (bthen B5.out hb2)
                        clear q0 q1 qf
                        obtain ⟨q0, q1, qf⟩ := two_cells T2.out
                        have Q6 := Lib.hid (put_two T2.out (.int .i64 ((stN s (stN s S0)).pos : Int)) (.int .i64 (stN s (stN s S0)).e))
                        have B6 := Lib.hid (C2.out.trans (putL_low LQ.out [.int .i64 ((stN s (stN s S0)).pos : Int), .int .i64 (stN s (stN s S0)).e] 0 w6))
                        clear hb2
                        go_wp2_with fail
                        change Calls _ _ _ (World.setCells w6 q 0 [.int .i64 ((stN s (stN s S0)).pos : Int), .int .i64 (stN s (stN s S0)).e]) _
                        clear q0 q1 qf
                        generalize World.setCells w6 q 0 [.int .i64 ((stN s (stN s S0)).pos : Int), .int .i64 (stN s (stN s S0)).e] = v6 at *
                        obtain ⟨q0, q1, qf⟩ := two_cells Q6.out
                        refine (HI.out (stN s (stN s S0)) O0.out.next.next _).mono ?_
                        rintro e w7 ⟨rfl, hb3⟩
                        have T3 := Lib.hid ((hb3.block _ (lt_of_block Q6.out)).trans Q6.out)
                        have C3 := Lib.hid (bthen B6.out hb3)
                        clear q0 q1 qf
                        obtain ⟨q0, q1, qf⟩ := two_cells T3.out
                        have Q7 := Lib.hid (put_two T3.out (.int .i64 ((stN s (stN s (stN s S0))).pos : Int)) (.int .i64 (stN s (stN s (stN s S0))).e))
                        have B7 := Lib.hid (C3.out.trans (putL_low LQ.out [.int .i64 ((stN s (stN s (stN s S0))).pos : Int), .int .i64 (stN s (stN s (stN s S0))).e] 0 w7))
                        clear hb3
                        have hs8 : (World.setCells w7 q 0 [.int .i64 ((stN s (stN s (stN s S0))).pos : Int), .int .i64 (stN s (stN s (stN s S0))).e]).heap.size = w7.heap.size := by simp [World.setCells]
                        have X5 := Lib.hid ((C3.out.block _ (lt_of_block HXB.out)).trans HXB.out)
                        obtain ⟨x0, x1, x2, x3, x4, x5, xf⟩ := six_cells X5.out
                        have HOW := Lib.hid ((own_below G1.out B7.out).alloc (.cells #[.float .f64 (stF s (S0)), .int .i64 (stI s (stN s (S0))), .int .i64 (stI s (stN s (stN s (S0))))] 55))
                        have HN := Lib.hid (news_cells (World.setCells w7 q 0 [.int .i64 ((stN s (stN s (stN s S0))).pos : Int), .int .i64 (stN s (stN s (stN s S0))).e]) #[.float .f64 (stF s (S0)), .int .i64 (stI s (stN s (S0))), .int .i64 (stI s (stN s (stN s (S0))))] 55)
                        rw [hs8] at HN
                        have HBS : Hid (V4.heap.size ≤ ((World.setCells w7 q 0 [.int .i64 ((stN s (stN s (stN s S0))).pos : Int), .int .i64 (stN s (stN s (stN s S0))).e]).alloc (.cells #[.float .f64 (stF s (S0)), .int .i64 (stI s (stN s (S0))), .int .i64 (stI s (stN s (stN s (S0))))] 55)).heap.size) := by show _ ≤ _; have := HSZ.out; have := B7.out.size; rw [World.size_alloc]; omega
                        go_wp2_with (at_builtin; refine wpList_append_own _ rfl _ _ 26 rfl V4.heap.size 55 ii0 (.agg #[.float .f64 0, .int .i64 0, .int .i64 0]) 3 24 Try.underlying26 hii hii0 hii1 hii2 rfl (by decide) _ j _ rfl HOW.out ⟨w7.heap.size, 0, none⟩ 1 1 [.float .f64 (stF s (S0)), .int .i64 (stI s (stN s (S0))), .int .i64 (stI s (stN s (stN s (S0))))] rfl rfl HN.out (by simp [Value.oneCell']) (by unfold maxLen; omega) (by omega) HBS.out ?_)
                        intro v1 w10 hown10 hgr hnn
                        have Q10 := Lib.hid (grown_keep HOW.out hgr ((Below.heap_alloc _ _ _ (lt_of_block Q7.out)).trans Q7.out) (by decide))
                        have R := Lib.hid (HST.out v1 (World.setCells w7 q 0 [.int .i64 ((stN s (stN s (stN s S0))).pos : Int), .int .i64 (stN s (stN s (stN s S0))).e]) w10 B7.out hown10 hgr)
                        clear hown10 hgr hnn x0 x1 x2 x3 x4 x5 xf q0 q1 qf hs8
                        obtain ⟨av, nv, cv, rfl, X10, P10, RR⟩ := R.out
                        have RR := Lib.hid RR
                        obtain ⟨x0, x1, x2, x3, x4, x5, xf⟩ := six_cells X10
                        have q0 : (w10.setCell ⟨X, 5, none⟩ (.slice av nv cv)).heap[q]? = some (.cells #[.int .i64 ((stN s (stN s (stN s S0))).pos : Int), .int .i64 (stN s (stN s (stN s S0))).e] 65 (0, 0)) := (Below.heap_setCell w10 ⟨X, 5, none⟩ _ _ (by show q ≠ X; omega)).trans Q10.out
                        have p0 : (w10.setCell ⟨X, 5, none⟩ (.slice av nv cv)).heap[tb]? = some (.cells #[.int .i64 ((S0).pos : Int), .int .i64 (S0).e] 65 (0, 0)) := (Below.heap_setCell w10 ⟨X, 5, none⟩ _ _ (by show tb ≠ X; omega)).trans P10
                        clear X10 P10 R
                        obtain ⟨q0, q1, qf⟩ := two_cells q0
                        obtain ⟨y0, y1, yf⟩ := two_cells p0
                        go_wp2_with fail
                        go_roundw
                        case rel => exact ⟨j + 1, by omega, by go_num, _, _, _, RR.out⟩
                        case measure => simp [intOf]; omega
                      · have hend : j = lsN s (g5 s) ∨ (it (evN s) j (lsS s (g5 s))).e ≠ 0 := by
                          rcases Nat.lt_or_ge j (lsN s (g5 s)) with h | h
                          · exact .inr fun h0 => hgo ⟨h, h0⟩
                          · exact .inl (by omega)
                        have ME : Hid (Mid w tb X #[.int .i64 (stI s ⟨0, 0⟩), .float .f64 (stF s (g1 s)), (.slice a71 n71 c71), (.slice a72 n72 c72), (.slice a73 n73 c73), (.slice a74 n74 c74)] (HasE s ((.slice a71 n71 c71)) ((.slice a72 n72 c72)) ((.slice a73 n73 c73)) ((.slice a74 n74 c74))) (g6 s) wr) := loopG_end (cs := fun v => #[.int .i64 (stI s ⟨0, 0⟩), .float .f64 (stF s (g1 s)), (.slice a71 n71 c71), (.slice a72 n72 c72), (.slice a73 n73 c73), v]) (keeps_d s _ _ _) (stick_ev s) MD4.out hl hj hend
                        clear hl MD4
                        generalize hej : (it (evN s) j (lsS s (g5 s))).e = ej at *
                        clear hej
                        go_upto_region 27 with fail
                        go_cut [139] from 132 to 169 (fun c wx => c = .bool false ∧ wx = wr)
                        case first =>
                          by_cases hjn : j < lsN s (g5 s)
                          · have d1 : decide ((j : Int) < ((lsN s (g5 s) : Nat) : Int)) = true := by rw [decide_eq_true_eq]; omega
                            have d2 : (ej == 0) = false := by
                              rcases hend with h | h
                              · omega
                              · simp [h]
                            clear hend hgo
                            go_wp2_with fail
                            go_meet
                            exact ⟨rfl, rfl⟩
                          · have d1 : decide ((j : Int) < ((lsN s (g5 s) : Nat) : Int)) = false := by rw [decide_eq_false_iff_not]; omega
                            clear hend hgo
                            go_wp2_with fail
                            go_meet
                            exact ⟨rfl, rfl⟩
                        case rest =>
                          obtain ⟨rfl, rfl⟩ := hcut
                          clear hend hgo hj y0 y1 yf
                          clear HC4 HK4 n5 h484
                          have MA := Lib.hid ME.out
                          clear ME
                          obtain ⟨y0, y1, yf⟩ := two_cells MA.out.place
                          clear HI HF HP HL 
                          have E : Hid (getE s = if (g6 s).e ≠ 0 then (g6 s).e else if (g6 s).pos ≠ s.size then 6 else chkN (getM s)) := rfl
                          by_cases he : (g6 s).e = 0
                          · have HE0 := Lib.hid he
                            have hp := OK6.out he
                            by_cases hpos : (g6 s).pos = s.size
                            · have dp : decide (((g6 s).pos : Int) < (s.size : Int)) = false := by rw [decide_eq_false_iff_not]; omega
                              have E2 : Hid (getE s = chkN (getM s)) := by show _ = _; rw [E.out, if_neg (by simp [he]), if_neg (by simp [hpos])]
                              have HCK : Hid (∀ w2, RMd s ⟨0, 0⟩ (.agg #[.int .i64 (stI s ⟨0, 0⟩), .float .f64 (stF s (g1 s)), (.slice a71 n71 c71), (.slice a72 n72 c72), (.slice a73 n73 c73), (.slice a74 n74 c74)]) (Hd tb (Hd X w2)) → Calls Try.prog 11 #[.agg #[.int .i64 (stI s ⟨0, 0⟩), .float .f64 (stF s (g1 s)), (.slice a71 n71 c71), (.slice a72 n72 c72), (.slice a73 n73 c73), (.slice a74 n74 c74)]] w2 fun e w' => e = .returned (.int .i64 (chkN (getM s))) ∧ Below w2.heap.size w2 w') := fun w2 h => by
                                obtain ⟨vd, vp, vl, vi, e, hm⟩ := rmd_mdl h
                                rw [e]
                                exact refCheck_any (getM s) vd vp vl vi w2 hm.show.show
                              have RM := Lib.hid (hasE_mdl he MA.out.has)
                              have hch : chkN (getM s) = 0 ∨ chkN (getM s) = 15 := by unfold chkN; cases mayB (getM s) <;> simp
                              rw [he] at y1
                              obtain ⟨x0, x1, x2, x3, x4, x5, xf⟩ := six_cells MA.out.box
                              clear he hp hpos E
                              generalize ((g6 s).pos : Int) = pos at *
                              rcases hch with hch | hch
                              · rw [hch] at HCK E2
                                clear hch
                                go_wp2_with (go_at_call 11; refine (HCK.out _ RM.out).mono ?_; rintro e w5 ⟨rfl, hb5⟩; have M5 := Lib.hid (Mid.call (keeps_e s _ _ _ _) MA.out hb5); clear hb5 x0 x1 x2 x3 x4 x5 xf; obtain ⟨x0, x1, x2, x3, x4, x5, xf⟩ := six_cells M5.out.box; obtain ⟨z0, z1, z2, z3, z4, z5, zf⟩ := six_cells M5.out.res)
                                have h5 : (World.setCells w5 w.heap.size 0 [Value.int .i64 (stI s ⟨0, 0⟩), Value.float .f64 (stF s (g1 s)), Value.slice a71 n71 c71, Value.slice a72 n72 c72, Value.slice a73 n73 c73, Value.slice a74 n74 c74]).heap[w.heap.size]? = some (.cells #[Value.int .i64 (stI s ⟨0, 0⟩), Value.float .f64 (stF s (g1 s)), Value.slice a71 n71 c71, Value.slice a72 n72 c72, Value.slice a73 n73 c73, Value.slice a74 n74 c74] 28 (0, 0)) := put_six M5.out.res _ _ _ _ _ _
                                have LZ : Hid (Below w.heap.size w (World.setCells w5 w.heap.size 0 [Value.int .i64 (stI s ⟨0, 0⟩), Value.float .f64 (stF s (g1 s)), Value.slice a71 n71 c71, Value.slice a72 n72 c72, Value.slice a73 n73 c73, Value.slice a74 n74 c74])) := M5.out.low.trans (put_low (Nat.le_refl w.heap.size) [Value.int .i64 (stI s ⟨0, 0⟩), Value.float .f64 (stF s (g1 s)), Value.slice a71 n71 c71, Value.slice a72 n72 c72, Value.slice a73 n73 c73, Value.slice a74 n74 c74] 0 w5)
                                have RZ : Hid (RMd s ⟨0, 0⟩ (.agg #[.int .i64 (stI s ⟨0, 0⟩), .float .f64 (stF s (g1 s)), (.slice a71 n71 c71), (.slice a72 n72 c72), (.slice a73 n73 c73), (.slice a74 n74 c74)]) (Hd tb (Hd X (World.setCells w5 w.heap.size 0 [Value.int .i64 (stI s ⟨0, 0⟩), Value.float .f64 (stF s (g1 s)), Value.slice a71 n71 c71, Value.slice a72 n72 c72, Value.slice a73 n73 c73, Value.slice a74 n74 c74])))) := mid_ret M5.out (hasE_mdl HE0.out M5.out.has) _
                                change bodyPost _ _ _ _ _ (World.setCells w5 w.heap.size 0 [Value.int .i64 (stI s ⟨0, 0⟩), Value.float .f64 (stF s (g1 s)), Value.slice a71 n71 c71, Value.slice a72 n72 c72, Value.slice a73 n73 c73, Value.slice a74 n74 c74])
                                obtain ⟨t0, t1, t2, t3, t4, t5, _⟩ := six_cells h5
                                clear h5
                                generalize (World.setCells w5 w.heap.size 0 [Value.int .i64 (stI s ⟨0, 0⟩), Value.float .f64 (stF s (g1 s)), Value.slice a71 n71 c71, Value.slice a72 n72 c72, Value.slice a73 n73 c73, Value.slice a74 n74 c74]) = w9 at *
                                exact bodyPost_ret (v := .tuple #[.agg #[.int .i64 (stI s ⟨0, 0⟩), .float .f64 (stF s (g1 s)), (.slice a71 n71 c71), (.slice a72 n72 c72), (.slice a73 n73 c73), (.slice a74 n74 c74)], .int .i64 0]) (by simp [results, Try.results14, go_sem, t0, t1, t2, t3, t4, t5]) rfl (getPost_fullD E2.out RZ.out LZ.out)
                              · rw [hch] at HCK E2
                                clear hch
                                go_wp2_with (go_at_call 11; refine (HCK.out _ RM.out).mono ?_; rintro e w5 ⟨rfl, hb5⟩; have M5 := Lib.hid (Mid.call (keeps_e s _ _ _ _) MA.out hb5); clear hb5 x0 x1 x2 x3 x4 x5 xf; obtain ⟨x0, x1, x2, x3, x4, x5, xf⟩ := six_cells M5.out.box; obtain ⟨z0, z1, z2, z3, z4, z5, zf⟩ := six_cells M5.out.res)
                                have h5 : (World.setCells w5 w.heap.size 0 [Value.int .i64 0, Value.float .f64 0, Value.slice none 0 0, Value.slice none 0 0, Value.slice none 0 0, Value.slice none 0 0]).heap[w.heap.size]? = some (.cells #[Value.int .i64 0, Value.float .f64 0, Value.slice none 0 0, Value.slice none 0 0, Value.slice none 0 0, Value.slice none 0 0] 28 (0, 0)) := put_six M5.out.res _ _ _ _ _ _
                                have LZ : Hid (Below w.heap.size w (World.setCells w5 w.heap.size 0 [Value.int .i64 0, Value.float .f64 0, Value.slice none 0 0, Value.slice none 0 0, Value.slice none 0 0, Value.slice none 0 0])) := M5.out.low.trans (put_low (Nat.le_refl w.heap.size) [Value.int .i64 0, Value.float .f64 0, Value.slice none 0 0, Value.slice none 0 0, Value.slice none 0 0, Value.slice none 0 0] 0 w5)
                                change bodyPost _ _ _ _ _ (World.setCells w5 w.heap.size 0 [Value.int .i64 0, Value.float .f64 0, Value.slice none 0 0, Value.slice none 0 0, Value.slice none 0 0, Value.slice none 0 0])
                                obtain ⟨t0, t1, t2, t3, t4, t5, _⟩ := six_cells h5
                                clear h5
                                generalize (World.setCells w5 w.heap.size 0 [Value.int .i64 0, Value.float .f64 0, Value.slice none 0 0, Value.slice none 0 0, Value.slice none 0 0, Value.slice none 0 0]) = w9 at *
                                exact bodyPost_ret (v := .tuple #[.agg #[.int .i64 0, .float .f64 0, .slice none 0 0, .slice none 0 0, .slice none 0 0, .slice none 0 0], .int .i64 15]) (by simp [results, Try.results14, go_sem, t0, t1, t2, t3, t4, t5]) rfl (getPost_zero E2.out (by decide) LZ.out)
                            · have dp : decide (((g6 s).pos : Int) < (s.size : Int)) = true := by rw [decide_eq_true_eq]; omega
                              have E2 : Hid (getE s = 6) := by show _ = _; rw [E.out, if_neg (by simp [he]), if_pos hpos]
                              rw [he] at y1
                              obtain ⟨z0, z1, z2, z3, z4, z5, zf⟩ := six_cells MA.out.res
                              clear he hp hpos E
                              generalize ((g6 s).pos : Int) = pos at *
                              go_wp2_with fail
                              have h5 : (World.setCells wc w.heap.size 0 [Value.int .i64 0, Value.float .f64 0, Value.slice none 0 0, Value.slice none 0 0, Value.slice none 0 0, Value.slice none 0 0]).heap[w.heap.size]? = some (.cells #[Value.int .i64 0, Value.float .f64 0, Value.slice none 0 0, Value.slice none 0 0, Value.slice none 0 0, Value.slice none 0 0] 28 (0, 0)) := put_six MA.out.res _ _ _ _ _ _
                              have LZ : Hid (Below w.heap.size w (World.setCells wc w.heap.size 0 [Value.int .i64 0, Value.float .f64 0, Value.slice none 0 0, Value.slice none 0 0, Value.slice none 0 0, Value.slice none 0 0])) := MA.out.low.trans (put_low (Nat.le_refl w.heap.size) [Value.int .i64 0, Value.float .f64 0, Value.slice none 0 0, Value.slice none 0 0, Value.slice none 0 0, Value.slice none 0 0] 0 wc)
                              change bodyPost _ _ _ _ _ (World.setCells wc w.heap.size 0 [Value.int .i64 0, Value.float .f64 0, Value.slice none 0 0, Value.slice none 0 0, Value.slice none 0 0, Value.slice none 0 0])
                              obtain ⟨t0, t1, t2, t3, t4, t5, _⟩ := six_cells h5
                              clear h5
                              generalize (World.setCells wc w.heap.size 0 [Value.int .i64 0, Value.float .f64 0, Value.slice none 0 0, Value.slice none 0 0, Value.slice none 0 0, Value.slice none 0 0]) = w9 at *
                              exact bodyPost_ret (v := .tuple #[.agg #[.int .i64 0, .float .f64 0, .slice none 0 0, .slice none 0 0, .slice none 0 0, .slice none 0 0], .int .i64 6]) (by simp [results, Try.results14, go_sem, t0, t1, t2, t3, t4, t5]) rfl (getPost_zero E2.out (by decide) LZ.out)
                          · have de : ((g6 s).e != 0) = true := by simp [he]
                            have E2 : Hid (getE s = (g6 s).e) := by show _ = _; rw [E.out, if_pos he]
                            have HNE := Lib.hid he
                            obtain ⟨z0, z1, z2, z3, z4, z5, zf⟩ := six_cells MA.out.res
                            clear he E OK6
                            generalize (g6 s).e = e9 at *
                            go_wp2_with fail
                            go_region
                            have h5 : (World.setCells wc w.heap.size 0 [Value.int .i64 0, Value.float .f64 0, Value.slice none 0 0, Value.slice none 0 0, Value.slice none 0 0, Value.slice none 0 0]).heap[w.heap.size]? = some (.cells #[Value.int .i64 0, Value.float .f64 0, Value.slice none 0 0, Value.slice none 0 0, Value.slice none 0 0, Value.slice none 0 0] 28 (0, 0)) := put_six MA.out.res _ _ _ _ _ _
                            have h5 : (World.setCells wc w.heap.size 0 [Value.int .i64 0, Value.float .f64 0, Value.slice none 0 0, Value.slice none 0 0, Value.slice none 0 0, Value.slice none 0 0]).drew.heap[w.heap.size]? = some (.cells #[Value.int .i64 0, Value.float .f64 0, Value.slice none 0 0, Value.slice none 0 0, Value.slice none 0 0, Value.slice none 0 0] 28 (0, 0)) := heap_drewK h5
                            have LZ : Hid (Below w.heap.size w (World.setCells wc w.heap.size 0 [Value.int .i64 0, Value.float .f64 0, Value.slice none 0 0, Value.slice none 0 0, Value.slice none 0 0, Value.slice none 0 0]).drew) := bthen (MA.out.low.trans (put_low (Nat.le_refl w.heap.size) [Value.int .i64 0, Value.float .f64 0, Value.slice none 0 0, Value.slice none 0 0, Value.slice none 0 0, Value.slice none 0 0] 0 wc)) (bdrew _)
                            change Exit.then _ _ _ _ (World.setCells wc w.heap.size 0 [Value.int .i64 0, Value.float .f64 0, Value.slice none 0 0, Value.slice none 0 0, Value.slice none 0 0, Value.slice none 0 0]).drew
                            obtain ⟨t0, t1, t2, t3, t4, t5, _⟩ := six_cells h5
                            clear h5
                            generalize (World.setCells wc w.heap.size 0 [Value.int .i64 0, Value.float .f64 0, Value.slice none 0 0, Value.slice none 0 0, Value.slice none 0 0, Value.slice none 0 0]).drew = w9 at *
                            go_wp2_with fail
                            exact bodyPost_ret (v := .tuple #[.agg #[.int .i64 0, .float .f64 0, .slice none 0 0, .slice none 0 0, .slice none 0 0, .slice none 0 0], .int .i64 e9]) (by simp [results, Try.results14, go_sem, t0, t1, t2, t3, t4, t5]) rfl (getPost_zero E2.out HNE.out LZ.out)

end Go.Proofs.Ytemhbcjpgapjkaa
