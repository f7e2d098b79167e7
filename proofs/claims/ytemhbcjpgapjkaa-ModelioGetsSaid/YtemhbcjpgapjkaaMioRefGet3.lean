/- The contract of the document's process. -/
import Derived.Test.YtemhbcjpgapjkaaMioLoopX
namespace Go.Proofs.Ytemhbcjpgapjkaa
open Go.RowKit
set_option linter.unusedVariables false
set_option maxRecDepth 100000

theorem loopX_start {tb : Nat} {s : ByteArray} {p : Int} {w : World} {S0 : St} (h : PlaceAt tb S0 w) : LoopX tb w.heap.size s p w S0 0 (w.alloc (.cells #[.int .i64 p, .slice none 0 0] 43)) := by
  refine ⟨none, 0, 0, ⟨⟨fun _ => undef, ?_, fun i hi => absurd hi (Nat.not_lt_zero i)⟩, h.low (balloc w _) (lt_of_block h), Kp.of (balloc w _)⟩, heap_alloc_new w _⟩
  have e : rowCells 1 (fun i k => cl1 undef k) 0 = [] := by simp [rowCells]
  rw [e]
  exact World.ownsRow_nil _ _ _ _

theorem info_proc6 : (Try.prog.info? 3).map (fun i => (i.zero, i.size, i.bytes)) = some (some (.int .i64 0), 1, 8) := by kernel_rfl
set_option maxHeartbeats 3200000 in
theorem process6_any (s : ByteArray) (st : St) (hok : okS s st) (w : World) :
    Calls Try.prog 35 #[.string s, atV st] w fun e w' => ∃ a n c, e = .returned (.tuple #[.agg #[.int .i64 (stI s st), .slice a n c], atV (lpN s st)]) ∧ ((lpN s st).e = 0 → RWd s (stN s st) (.slice a n c) w') ∧ Below w.heap.size w w' := by
  obtain ⟨i0, hi, hz0, hz1, hz2⟩ := info_parts info_proc6
  have HI0 := Lib.hid (int6_any s st hok)
  have HC := Lib.hid (count6_any s (stN s st) hok.next)
  have HI1 : Hid (∀ st2, okS s st2 → ∀ w, Calls Try.prog 31 #[.string s, .agg #[.int .i64 ((st2).pos : Int), .int .i64 (st2).e]] w fun e w' => e = .returned (.tuple #[.int .i64 (stI s st2), .agg #[.int .i64 ((stN s st2).pos : Int), .int .i64 (stN s st2).e]]) ∧ Below w.heap.size w w') := fun st2 h w => int6_any s st2 h w
  have HOK : Hid (∀ j, okS s (it (stN s) j (lsS s (stN s st)))) := fun j => hok.next.list.it (fun _ h => h.next) j
  have h48 : lsN s (stN s st) ≤ 48 := lsN_le s _
  have HE : Hid (∀ v wr w4 j, w.heap.size < w4.heap.size → LoopD w.heap.size (stN s) (RI s) 1 3 cl1 w4 (lsS s (stN s st)) j v wr → j ≤ lsN s (stN s st) → (j = lsN s (stN s st) ∨ (it (stN s) j (lsS s (stN s st))).e ≠ 0) → ((lpN s st).e = 0 → RWd s (stN s st) v (Hd w.heap.size wr)) ∧ PlaceAt w.heap.size (lpN s st) wr ∧ Kp w.heap.size w4 wr) :=
    fun v wr w4 j hl h hj he => loopD_end (stick_st s) hl h hj he
  unfold atV at HC HI0 ⊢
  generalize hx : (st.pos : Int) = x at *
  generalize he0 : st.e = e0 at *
  clear hx he0
  have A1 : ((((w.alloc (.cells #[.int .i64 x, .int .i64 e0] 65)).alloc (.cells #[.int .i64 0, .slice none 0 0] 43)).alloc (.cells #[.int .i64 0, .int .i64 0] 65))).heap[w.heap.size + 1 + 1]? = some (.cells #[.int .i64 0, .int .i64 0] 65 (0, 0)) := by
    have := heap_alloc_new ((w.alloc (.cells #[.int .i64 x, .int .i64 e0] 65)).alloc (.cells #[.int .i64 0, .slice none 0 0] 43)) (.cells #[.int .i64 0, .int .i64 0] 65)
    rwa [World.size_alloc, World.size_alloc] at this
  have A2 : ((((w.alloc (.cells #[.int .i64 x, .int .i64 e0] 65)).alloc (.cells #[.int .i64 0, .slice none 0 0] 43)).alloc (.cells #[.int .i64 0, .int .i64 0] 65))).heap[w.heap.size + 1]? = some (.cells #[.int .i64 0, .slice none 0 0] 43 (0, 0)) := by
    rw [Below.heap_alloc _ _ _ (by rw [World.size_alloc, World.size_alloc]; omega)]
    have := heap_alloc_new (w.alloc (.cells #[.int .i64 x, .int .i64 e0] 65)) (.cells #[.int .i64 0, .slice none 0 0] 43)
    rwa [World.size_alloc] at this
  have A3 : ((((w.alloc (.cells #[.int .i64 x, .int .i64 e0] 65)).alloc (.cells #[.int .i64 0, .slice none 0 0] 43)).alloc (.cells #[.int .i64 0, .int .i64 0] 65))).heap[w.heap.size]? = some (.cells #[.int .i64 x, .int .i64 e0] 65 (0, 0)) := by
    rw [Below.heap_alloc _ _ _ (by rw [World.size_alloc, World.size_alloc]; omega), Below.heap_alloc _ _ _ (by rw [World.size_alloc]; omega)]
    exact heap_alloc_new w (.cells #[.int .i64 x, .int .i64 e0] 65)
  have L2 := Lib.hid (bthen (bthen (balloc w (.cells #[.int .i64 x, .int .i64 e0] 65)) (balloc _ (.cells #[.int .i64 0, .slice none 0 0] 43))) (balloc _ (.cells #[.int .i64 0, .int .i64 0] 65)))
  have H1 := Lib.hid A1
  have H2 := Lib.hid A2
  have H3 := Lib.hid A3
  obtain ⟨y0, y1, yf⟩ := two_cells A3
  clear A1 A2 A3
  go_enter Try.func35, Try.ntmps35
  go_wp2_with fail
  generalize (((w.alloc (.cells #[.int .i64 x, .int .i64 e0] 65)).alloc (.cells #[.int .i64 0, .slice none 0 0] 43)).alloc (.cells #[.int .i64 0, .int .i64 0] 65)) = w2 at *
  refine (HI0.out _).mono ?_
  rintro e w3 ⟨rfl, hb3⟩
  have RA3 := Lib.hid ((hb3.block _ (lt_of_block H1.out)).trans H1.out)
  have RL3 := Lib.hid ((hb3.block _ (lt_of_block H2.out)).trans H2.out)
  have P3 := Lib.hid ((hb3.block _ (lt_of_block H3.out)).trans H3.out)
  have L3 := Lib.hid ((bthen L2.out hb3).trans (putL_low (Nat.le_refl w.heap.size) [.int .i64 ((stN s st).pos : Int), .int .i64 (stN s st).e] 0 w3))
  have RA3' : Hid ((w3.setCells w.heap.size 0 [.int .i64 ((stN s st).pos : Int), .int .i64 (stN s st).e]).heap[w.heap.size + 1 + 1]? = _) := (put_other (by omega) _ _ _).trans RA3.out
  have RL3' : Hid ((w3.setCells w.heap.size 0 [.int .i64 ((stN s st).pos : Int), .int .i64 (stN s st).e]).heap[w.heap.size + 1]? = _) := (put_other (by omega) _ _ _).trans RL3.out
  have P3' := Lib.hid (put_two P3.out (.int .i64 ((stN s st).pos : Int)) (.int .i64 (stN s st).e))
  clear hb3 y0 y1 yf
  obtain ⟨y0, y1, yf⟩ := two_cells P3.out
  go_wp2_with fail
  change Calls _ _ _ (w3.setCells w.heap.size 0 [.int .i64 ((stN s st).pos : Int), .int .i64 (stN s st).e]) _
  clear y0 y1 yf
  generalize w3.setCells w.heap.size 0 [.int .i64 ((stN s st).pos : Int), .int .i64 (stN s st).e] = v3 at *
  refine (HC.out _).mono ?_
  rintro e w4 ⟨rfl, hb4⟩
  have RA4 := Lib.hid ((hb4.block _ (lt_of_block RA3'.out)).trans RA3'.out)
  have RL4 := Lib.hid ((hb4.block _ (lt_of_block RL3'.out)).trans RL3'.out)
  have P4 := Lib.hid ((hb4.block _ (lt_of_block P3'.out)).trans P3'.out)
  have L4 := Lib.hid ((bthen L3.out hb4).trans (putL_low (Nat.le_refl w.heap.size) [.int .i64 ((lsS s (stN s st)).pos : Int), .int .i64 (lsS s (stN s st)).e] 0 w4))
  have RA5 : Hid ((w4.setCells w.heap.size 0 [.int .i64 ((lsS s (stN s st)).pos : Int), .int .i64 (lsS s (stN s st)).e]).heap[w.heap.size + 1 + 1]? = _) := (put_other (by omega) _ _ _).trans RA4.out
  have RL5 : Hid ((w4.setCells w.heap.size 0 [.int .i64 ((lsS s (stN s st)).pos : Int), .int .i64 (lsS s (stN s st)).e]).heap[w.heap.size + 1]? = _) := (put_other (by omega) _ _ _).trans RL4.out
  have P5 : Hid (PlaceAt w.heap.size (lsS s (stN s st)) (w4.setCells w.heap.size 0 [.int .i64 ((lsS s (stN s st)).pos : Int), .int .i64 (lsS s (stN s st)).e])) := put_two P4.out _ _
  have n5 : lsN s (stN s st) ≤ 9223372036854775807 := by omega
  have hs4 : (w4.setCells w.heap.size 0 [.int .i64 ((lsS s (stN s st)).pos : Int), .int .i64 (lsS s (stN s st)).e]).heap.size = w4.heap.size := by simp [World.setCells]
  clear hb4
  obtain ⟨y0, y1, yf⟩ := two_cells P4.out
  go_wp2_with fail
  change Code.wp _ _ _ _ ((w4.setCells w.heap.size 0 [.int .i64 ((lsS s (stN s st)).pos : Int), .int .i64 (lsS s (stN s st)).e]).alloc (.cells #[.int .i64 (stI s st), .slice none 0 0] 43))
  clear y0 y1 yf
  rw [← hs4]
  clear hs4
  generalize w4.setCells w.heap.size 0 [.int .i64 ((lsS s (stN s st)).pos : Int), .int .i64 (lsS s (stN s st)).e] = v4 at *
  have HLT := Lib.hid (lt_of_block P5.out)
  have LS := Lib.hid (loopX_start (s := s) (p := stI s st) P5.out)
  have RAX := Lib.hid RA5.out
  generalize hp : stI s st = p at *
  have HP := Lib.hid hp
  clear hp
  go_loopw [9] (fun i wr => ∃ j : Nat, j ≤ lsN s (stN s st) ∧ i = .int .i64 j ∧ LoopX w.heap.size v4.heap.size s p v4 (lsS s (stN s st)) j wr) (fun i _ => lsN s (stN s st) - (intOf i).toNat)
  case atStart => exact ⟨0, Nat.zero_le _, rfl, LS.out⟩
  case round =>
    obtain ⟨j, hj, rfl, a7, n7, c7, hl, hx⟩ := hrel
    obtain ⟨y0, y1, yf⟩ := two_cells hl.place
    obtain ⟨x0, x1, xf⟩ := two_cells hx
    have HXB := Lib.hid hx
    have hkp := hl.kp
    have hplace := hl.place
    by_cases hgo : j < lsN s (stN s st) ∧ (it (stN s) j (lsS s (stN s st))).e = 0
    · obtain ⟨hlt, he⟩ := hgo
      obtain ⟨g, hg1, hg2⟩ := hl.own
      have G1 := Lib.hid hg1
      have d1 : decide ((j : Int) < ((lsN s (stN s st) : Nat) : Int)) = true := by rw [decide_eq_true_eq]; omega
      have de : ((it (stN s) j (lsS s (stN s st))).e == 0) = true := by simp [he]
      have O0 := Lib.hid (HOK.out j)
      have PL := Lib.hid hplace
      have KP := Lib.hid hkp
      have HST : Hid (∀ v' W2 W4, Below wr.heap.size wr W2 → W4.ownsRow v4.heap.size 3 1 v' (j + 1) (rowCells 1 (fun i k => cl1 (g i) k) j ++ [.int .i64 (stI s (it (stN s) j (lsS s (stN s st))))]) → (W2.alloc (.cells #[.int .i64 (stI s (it (stN s) j (lsS s (stN s st))))] 3)).grownBy W4 (Value.slice a7 n7 c7).ownBlock →
          LoopX w.heap.size v4.heap.size s p v4 (lsS s (stN s st)) (j + 1) ((W4.setCell ⟨v4.heap.size, 1, none⟩ v').setCells w.heap.size 0 [.int .i64 ((stN s (it (stN s) j (lsS s (stN s st)))).pos : Int), .int .i64 (stN s (it (stN s) j (lsS s (stN s st)))).e]) ∧ W4.heap[v4.heap.size]? = some (.cells #[.int .i64 p, .slice a7 n7 c7] 43 (0, 0))) :=
        fun v' W2 W4 b e f => loopX_step HLT.out (Nat.le_refl _) hg1 hg2 hplace hkp hx b e f
      clear hg1 hg2 hl he hkp hplace hx
      generalize it (stN s) j (lsS s (stN s st)) = S0 at *
      go_wp2_with fail
      refine (HI1.out S0 O0.out _).mono ?_
      rintro e w5 ⟨rfl, hb5⟩
      have Q5 : Hid ((w5.alloc (.cells #[.int .i64 ((stN s S0).pos : Int), .int .i64 (stN s S0).e] 65)).heap[w5.heap.size]? = some (.cells #[.int .i64 ((stN s S0).pos : Int), .int .i64 (stN s S0).e] 65 (0, 0))) := heap_alloc_new w5 _
      have B5 := Lib.hid (bthen hb5 (balloc w5 (.cells #[.int .i64 ((stN s S0).pos : Int), .int .i64 (stN s S0).e] 65)))
      have X5 := Lib.hid ((B5.out.block _ (lt_of_block HXB.out)).trans HXB.out)
      have hqx : v4.heap.size ≠ w5.heap.size := by have := lt_of_block HXB.out; have := hb5.size; omega
      have hqa : v4.heap.size ≠ w.heap.size := by have := HLT.out; omega
      clear hb5 y0 y1 yf x0 x1 xf
      obtain ⟨x0, x1, xf⟩ := two_cells X5.out
      have HOW := Lib.hid ((own_below G1.out B5.out).alloc (.cells #[.int .i64 (stI s S0)] 3))
      have HN := Lib.hid (news_cells (w5.alloc (.cells #[.int .i64 ((stN s S0).pos : Int), .int .i64 (stN s S0).e] 65)) #[.int .i64 (stI s S0)] 3)
      rw [World.size_alloc] at HN
      have HBS : Hid (v4.heap.size ≤ ((w5.alloc (.cells #[.int .i64 ((stN s S0).pos : Int), .int .i64 (stN s S0).e] 65)).alloc (.cells #[.int .i64 (stI s S0)] 3)).heap.size) := by show _ ≤ _; have := KP.out.size; have := B5.out.size; rw [World.size_alloc]; omega
      go_wp2_with (at_builtin; refine wpList_append_own _ rfl _ _ 41 rfl v4.heap.size 3 i0 (.int .i64 0) 1 8 Try.underlying41 hi hz0 hz1 hz2 rfl (by decide) _ j _ rfl HOW.out ⟨w5.heap.size + 1, 0, none⟩ 1 1 [.int .i64 (stI s S0)] rfl rfl HN.out (by simp [Value.oneCell']) (by unfold maxLen; omega) (by omega) HBS.out ?_)
      intro v1 w10 hown10 hgr hnn
      have Q10 := Lib.hid (grown_keep HOW.out hgr ((Below.heap_alloc _ _ _ (lt_of_block Q5.out)).trans Q5.out) (by decide))
      have P8 := PL.out.low B5.out (lt_of_block PL.out)
      have P10 := Lib.hid (grown_keep HOW.out hgr ((Below.heap_alloc _ _ _ (lt_of_block P8)).trans P8) (by decide))
      have R := Lib.hid (HST.out v1 _ w10 B5.out hown10 hgr)
      obtain ⟨av, nv, cv, rfl⟩ : ∃ a n c, v1 = .slice a n c := by
        rcases hown10.2 with ⟨rfl, _⟩ | ⟨b, cap, cur, rfl, _⟩
        · exact ⟨_, _, _, rfl⟩
        · exact ⟨_, _, _, rfl⟩
      clear hown10 hgr hnn P8 x0 x1 xf
      obtain ⟨x0, x1, xf⟩ := two_cells R.out.2
      have q0 : (w10.setCell ⟨v4.heap.size, 1, none⟩ (.slice av nv cv)).heap[w5.heap.size]? = some (.cells #[.int .i64 ((stN s S0).pos : Int), .int .i64 (stN s S0).e] 65 (0, 0)) := (Below.heap_setCell w10 ⟨v4.heap.size, 1, none⟩ _ _ (by show w5.heap.size ≠ v4.heap.size; omega)).trans Q10.out
      have p0 : (w10.setCell ⟨v4.heap.size, 1, none⟩ (.slice av nv cv)).heap[w.heap.size]? = some (.cells #[.int .i64 ((S0).pos : Int), .int .i64 (S0).e] 65 (0, 0)) := (Below.heap_setCell w10 ⟨v4.heap.size, 1, none⟩ _ _ (by show w.heap.size ≠ v4.heap.size; omega)).trans P10.out
      obtain ⟨q0, q1, qf⟩ := two_cells q0
      obtain ⟨y0, y1, yf⟩ := two_cells p0
      go_wp2_with fail
      go_roundw
      case rel => exact ⟨j + 1, by omega, by go_num, R.out.1⟩
      case measure => simp [intOf]; omega
    · have hend : j = lsN s (stN s st) ∨ (it (stN s) j (lsS s (stN s st))).e ≠ 0 := by
        rcases Nat.lt_or_ge j (lsN s (stN s st)) with h | h
        · exact .inr fun h0 => hgo ⟨h, h0⟩
        · exact .inl (by omega)
      obtain ⟨r1, r2, r3⟩ := HE.out _ _ _ j HLT.out hl hj hend
      have RA9 : Hid (wr.heap[w.heap.size + 1 + 1]? = some (.cells #[.int .i64 0, .int .i64 0] 65 (0, 0))) := (hkp.blk (lt_of_block RA5.out) (by omega)).trans RA5.out
      have RL9 : Hid (wr.heap[w.heap.size + 1]? = some (.cells #[.int .i64 0, .slice none 0 0] 43 (0, 0))) := (hkp.blk (lt_of_block RL5.out) (by omega)).trans RL5.out
      have RR := Lib.hid r1
      have L9 := Lib.hid (L4.out.trans (r3.bot (Nat.le_of_lt HLT.out) (Nat.le_refl _)))
      have dd : (decide ((j : Int) < ((lsN s (stN s st) : Nat) : Int)) && ((it (stN s) j (lsS s (stN s st))).e == 0)) = false := by
        rcases hend with h | h
        · have : decide ((j : Int) < ((lsN s (stN s st) : Nat) : Int)) = false := by rw [decide_eq_false_iff_not]; omega
          rw [this]; rfl
        · have : ((it (stN s) j (lsS s (stN s st))).e == 0) = false := by simp [h]
          rw [this, Bool.and_false]
      have EQ : Hid ((it (stN s) j (lsS s (stN s st))).e = (lpN s st).e) := by
        show _ = _
        have h1 := hplace.symm.trans r2
        simp at h1
        exact h1.2
      clear y0 y1 yf
      obtain ⟨y0, y1, yf⟩ := two_cells r2
      obtain ⟨z0, z1, zf⟩ := two_cells RA9.out
      obtain ⟨l0, l1, lf⟩ := two_cells RL9.out
      rw [EQ.out] at dd
      clear r1 r2 r3 hl hkp hplace hend hgo HE hx
      generalize he9 : (lpN s st).e = e9 at *
      generalize hx9 : ((lpN s st).pos : Int) = x9 at *
      have E9 := Lib.hid he9
      have X9 := Lib.hid hx9
      clear he9 hx9
      generalize lsN s (stN s st) = n at *
      by_cases hjn : j < n
      · have d1 : decide ((j : Int) < (n : Int)) = true := by rw [decide_eq_true_eq]; omega
        rw [d1, Bool.true_and] at dd
        go_wp2_with fail
        go_region
        change Exit.then _ _ _ _ ((wr.setCells (w.heap.size + 1) 0 [.int .i64 p, .slice a7 n7 c7]).setCells (w.heap.size + 1 + 1) 0 [.int .i64 x9, .int .i64 e9]).drew
        have ra : (wr.setCells (w.heap.size + 1) 0 [.int .i64 p, .slice a7 n7 c7]).heap[w.heap.size + 1 + 1]? = some (.cells #[.int .i64 0, .int .i64 0] 65 (0, 0)) := (put_other (by omega) _ _ _).trans RA9.out
        have h5 : ((wr.setCells (w.heap.size + 1) 0 [.int .i64 p, .slice a7 n7 c7]).setCells (w.heap.size + 1 + 1) 0 [.int .i64 x9, .int .i64 e9]).drew.heap[w.heap.size + 1 + 1]? = some (.cells #[.int .i64 x9, .int .i64 e9] 65 (0, 0)) := put_two ra _ _
        have h6 : ((wr.setCells (w.heap.size + 1) 0 [.int .i64 p, .slice a7 n7 c7]).setCells (w.heap.size + 1 + 1) 0 [.int .i64 x9, .int .i64 e9]).drew.heap[w.heap.size + 1]? = some (.cells #[.int .i64 p, .slice a7 n7 c7] 43 (0, 0)) := (put_other (by omega) _ _ _).trans (put_two RL9.out _ _)
        have LZ := Lib.hid (bthen ((L9.out.trans (putL_low (show w.heap.size ≤ w.heap.size + 1 by omega) [.int .i64 p, .slice a7 n7 c7] 0 wr)).trans (putL_low (show w.heap.size ≤ w.heap.size + 1 + 1 by omega) [.int .i64 x9, .int .i64 e9] 0 _)) (bdrew _))
        have RZ : Hid (e9 = 0 → RWd s (stN s st) (.slice a7 n7 c7) ((wr.setCells (w.heap.size + 1) 0 [.int .i64 p, .slice a7 n7 c7]).setCells (w.heap.size + 1 + 1) 0 [.int .i64 x9, .int .i64 e9]).drew) := fun h0 => lst_show (tb := w.heap.size) (fun _ _ _ h => h) (stab_wd (E := 65) (by decide) s _ _ _ _ (stab_wd (E := 43) (by decide) s _ _ _ _ (RR.out h0) (put_types RL9.out)) (put_types ra))
        obtain ⟨t0, t1, _⟩ := two_cells h5
        obtain ⟨t2, t3, _⟩ := two_cells h6
        clear h5 h6 ra
        generalize ((wr.setCells (w.heap.size + 1) 0 [.int .i64 p, .slice a7 n7 c7]).setCells (w.heap.size + 1 + 1) 0 [.int .i64 x9, .int .i64 e9]).drew = w9 at *
        go_wp2_with fail
        exact bodyPost_ret (v := .tuple #[.agg #[.int .i64 p, .slice a7 n7 c7], .agg #[.int .i64 x9, .int .i64 e9]]) (by simp [results, Try.results35, go_sem, t0, t1, t2, t3]) rfl ⟨_, _, _, by rw [X9.out, E9.out, HP.out], by rw [E9.out]; exact RZ.out, LZ.out⟩
      · have d1 : decide ((j : Int) < (n : Int)) = false := by rw [decide_eq_false_iff_not]; omega
        clear dd
        go_wp2_with fail
        go_region
        change Exit.then _ _ _ _ ((wr.setCells (w.heap.size + 1) 0 [.int .i64 p, .slice a7 n7 c7]).setCells (w.heap.size + 1 + 1) 0 [.int .i64 x9, .int .i64 e9]).drew
        have ra : (wr.setCells (w.heap.size + 1) 0 [.int .i64 p, .slice a7 n7 c7]).heap[w.heap.size + 1 + 1]? = some (.cells #[.int .i64 0, .int .i64 0] 65 (0, 0)) := (put_other (by omega) _ _ _).trans RA9.out
        have h5 : ((wr.setCells (w.heap.size + 1) 0 [.int .i64 p, .slice a7 n7 c7]).setCells (w.heap.size + 1 + 1) 0 [.int .i64 x9, .int .i64 e9]).drew.heap[w.heap.size + 1 + 1]? = some (.cells #[.int .i64 x9, .int .i64 e9] 65 (0, 0)) := put_two ra _ _
        have h6 : ((wr.setCells (w.heap.size + 1) 0 [.int .i64 p, .slice a7 n7 c7]).setCells (w.heap.size + 1 + 1) 0 [.int .i64 x9, .int .i64 e9]).drew.heap[w.heap.size + 1]? = some (.cells #[.int .i64 p, .slice a7 n7 c7] 43 (0, 0)) := (put_other (by omega) _ _ _).trans (put_two RL9.out _ _)
        have LZ := Lib.hid (bthen ((L9.out.trans (putL_low (show w.heap.size ≤ w.heap.size + 1 by omega) [.int .i64 p, .slice a7 n7 c7] 0 wr)).trans (putL_low (show w.heap.size ≤ w.heap.size + 1 + 1 by omega) [.int .i64 x9, .int .i64 e9] 0 _)) (bdrew _))
        have RZ : Hid (e9 = 0 → RWd s (stN s st) (.slice a7 n7 c7) ((wr.setCells (w.heap.size + 1) 0 [.int .i64 p, .slice a7 n7 c7]).setCells (w.heap.size + 1 + 1) 0 [.int .i64 x9, .int .i64 e9]).drew) := fun h0 => lst_show (tb := w.heap.size) (fun _ _ _ h => h) (stab_wd (E := 65) (by decide) s _ _ _ _ (stab_wd (E := 43) (by decide) s _ _ _ _ (RR.out h0) (put_types RL9.out)) (put_types ra))
        obtain ⟨t0, t1, _⟩ := two_cells h5
        obtain ⟨t2, t3, _⟩ := two_cells h6
        clear h5 h6 ra
        generalize ((wr.setCells (w.heap.size + 1) 0 [.int .i64 p, .slice a7 n7 c7]).setCells (w.heap.size + 1 + 1) 0 [.int .i64 x9, .int .i64 e9]).drew = w9 at *
        go_wp2_with fail
        exact bodyPost_ret (v := .tuple #[.agg #[.int .i64 p, .slice a7 n7 c7], .agg #[.int .i64 x9, .int .i64 e9]]) (by simp [results, Try.results35, go_sem, t0, t1, t2, t3]) rfl ⟨_, _, _, by rw [X9.out, E9.out, HP.out], by rw [E9.out]; exact RZ.out, LZ.out⟩

end Go.Proofs.Ytemhbcjpgapjkaa
