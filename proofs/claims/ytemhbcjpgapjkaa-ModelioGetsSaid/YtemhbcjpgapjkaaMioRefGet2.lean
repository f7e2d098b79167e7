/- The contract of the document's code: a program. -/
import Derived.Test.YtemhbcjpgapjkaaMioLoopD
import Derived.Test.YtemhbcjpgapjkaaMioStruct
namespace Go.Proofs.Ytemhbcjpgapjkaa
open Go.RowKit
set_option linter.unusedVariables false
set_option maxRecDepth 100000

/-- an append turns no block of another type -/
theorem grown_keep {w w4 : World} {b C n q : Nat} {E t : TypeId} {v : Value} {xs : List Value} {c : Array Value} {f : Nat × Nat} (h : w.ownsRow b E C v n xs) (hg : w.grownBy w4 v.ownBlock) (hq : w.heap[q]? = some (.cells c t f)) (hne : t ≠ E) : w4.heap[q]? = some (.cells c t f) := by
  rw [hg.block q (lt_of_block hq) ?_]
  · exact hq
  · intro he
    rcases h.2 with ⟨rfl, _⟩ | ⟨g, cap, cur, rfl, _, r3, _⟩
    · simp [Value.ownBlock] at he
    · simp only [Value.ownBlock, Option.some.injEq] at he
      subst he
      rw [hq] at r3
      simp only [Option.some.injEq, Obj.cells.injEq] at r3
      exact hne r3.2.1
theorem lst_show {tb C : Nat} {E : TypeId} {cl : Value → Nat → Value} {s : ByteArray} {nx : St → St} {R : St → Value → World → Prop} (hR : ∀ st r w, R st r (Hd tb w) → R st r w) {st : St} {r : Value} {w : World} (h : Lst C E cl s nx R st r (Hd tb w)) : Lst C E cl s nx R st r w := by
  obtain ⟨g, h1, h2⟩ := h
  exact ⟨g, own_show h1, fun i hi => hR _ _ _ (h2 i hi)⟩
theorem rpr_show {tb : Nat} {s : ByteArray} {st : St} {r : Value} {w : World} (h : RPr s st r (Hd tb w)) : RPr s st r w := lst_show (fun _ _ _ h => h) h
theorem okS.it {s : ByteArray} {f : St → St} (hf : ∀ st, okS s st → okS s (f st)) {st : St} (h : okS s st) (n : Nat) : okS s (it f n st) := by
  induction n with
  | zero => exact h
  | succ n ih => exact hf _ ih
theorem okS.ins {s : ByteArray} {st : St} (h : okS s st) : okS s (insN s st) := h.next.next.next.next

theorem info_code6 : (Try.prog.info? 45).map (fun i => (i.zero, i.size, i.bytes)) = some (some (.agg #[.int .i64 0, .int .i64 0, .int .i64 0, .int .i64 0]), 4, 32) := by kernel_rfl
set_option maxHeartbeats 3200000 in
theorem code6_any (s : ByteArray) (st : St) (hok : okS s st) (w : World) :
    Calls Try.prog 34 #[.string s, atV st] w fun e w' => ∃ a n c, e = .returned (.tuple #[.slice a n c, atV (prN s st)]) ∧ ((prN s st).e = 0 → RPr s st (.slice a n c) w') ∧ Below w.heap.size w w' := by
  obtain ⟨i0, hi, hz0, hz1, hz2⟩ := info_parts info_code6
  have HC := Lib.hid (count6_any s st hok)
  have HI : Hid (∀ j w, Calls Try.prog 31 #[.string s, atV (it (insN s) j (lsS s st))] w fun e w' => e = .returned (.tuple #[.int .i64 (stI s (it (insN s) j (lsS s st))), atV (stN s (it (insN s) j (lsS s st)))]) ∧ Below w.heap.size w w') := fun j w => int6_any s _ (hok.list.it (fun _ h => h.ins) j) w
  have HI1 : Hid (∀ st2, okS s st2 → ∀ w, Calls Try.prog 31 #[.string s, .agg #[.int .i64 ((st2).pos : Int), .int .i64 (st2).e]] w fun e w' => e = .returned (.tuple #[.int .i64 (stI s st2), .agg #[.int .i64 ((stN s st2).pos : Int), .int .i64 (stN s st2).e]]) ∧ Below w.heap.size w w') := fun st2 h w => int6_any s st2 h w
  have HOK : Hid (∀ j, okS s (it (insN s) j (lsS s st))) := fun j => hok.list.it (fun _ h => h.ins) j
  have h48 : lsN s st ≤ 48 := lsN_le s st
  have HE : Hid (∀ v wr w4 j, w.heap.size < w4.heap.size → LoopD w.heap.size (insN s) (RIns s) 4 45 clA w4 (lsS s st) j v wr → j ≤ lsN s st → (j = lsN s st ∨ (it (insN s) j (lsS s st)).e ≠ 0) → ((prN s st).e = 0 → RPr s st v (Hd w.heap.size wr)) ∧ PlaceAt w.heap.size (prN s st) wr ∧ Kp w.heap.size w4 wr) :=
    fun v wr w4 j hl h hj he => loopD_end (stick_ins s) hl h hj he
  unfold atV at HC ⊢
  generalize (st.pos : Int) = x at *
  generalize st.e = e0 at *
  clear HI
  have A1 : (((w.alloc (.cells #[.int .i64 x, .int .i64 e0] 65)).alloc (.cells #[.int .i64 0, .int .i64 0] 65))).heap[w.heap.size + 1]? = some (.cells #[.int .i64 0, .int .i64 0] 65 (0, 0)) := by
    have := heap_alloc_new (w.alloc (.cells #[.int .i64 x, .int .i64 e0] 65)) (.cells #[.int .i64 0, .int .i64 0] 65)
    rwa [World.size_alloc] at this
  have A2 : (((w.alloc (.cells #[.int .i64 x, .int .i64 e0] 65)).alloc (.cells #[.int .i64 0, .int .i64 0] 65))).heap[w.heap.size]? = some (.cells #[.int .i64 x, .int .i64 e0] 65 (0, 0)) := by rw [Below.heap_alloc _ _ _ (by rw [World.size_alloc]; omega)]; exact heap_alloc_new w (.cells #[.int .i64 x, .int .i64 e0] 65)
  have L2 := Lib.hid (bthen (balloc w (.cells #[.int .i64 x, .int .i64 e0] 65)) (balloc _ (.cells #[.int .i64 0, .int .i64 0] 65)))
  have H1 := Lib.hid A1
  have H2 := Lib.hid A2
  obtain ⟨y0, y1, yf⟩ := two_cells A2
  clear A1 A2
  go_enter Try.func34, Try.ntmps34
  go_wp2_with fail
  generalize ((w.alloc (.cells #[.int .i64 x, .int .i64 e0] 65)).alloc (.cells #[.int .i64 0, .int .i64 0] 65)) = w2 at *
  refine (HC.out _).mono ?_
  rintro e w3 ⟨rfl, hb3⟩
  have l1 := lt_of_block H1.out
  have l2 := lt_of_block H2.out
  have R3 := Lib.hid ((hb3.block _ l1).trans H1.out)
  have P3 := Lib.hid ((hb3.block _ l2).trans H2.out)
  have L3 := Lib.hid (bthen L2.out hb3)
  clear hb3 y0 y1 yf l1 l2
  obtain ⟨y0, y1, yf⟩ := two_cells P3.out
  have P4 : Hid (PlaceAt w.heap.size (lsS s st) (w3.setCells w.heap.size 0 [.int .i64 ((lsS s st).pos : Int), .int .i64 (lsS s st).e])) := put_two P3.out _ _
  have R4 : Hid ((w3.setCells w.heap.size 0 [.int .i64 ((lsS s st).pos : Int), .int .i64 (lsS s st).e]).heap[w.heap.size + 1]? = some (.cells #[.int .i64 0, .int .i64 0] 65 (0, 0))) := (put_other (by omega) _ _ _).trans R3.out
  have L4 := Lib.hid (L3.out.trans (putL_low (Nat.le_refl w.heap.size) [.int .i64 ((lsS s st).pos : Int), .int .i64 (lsS s st).e] 0 w3))
  have n5 : lsN s st ≤ 9223372036854775807 := by omega
  go_wp2_with fail
  change Code.wp _ _ _ _ (w3.setCells w.heap.size 0 [.int .i64 ((lsS s st).pos : Int), .int .i64 (lsS s st).e])
  generalize w3.setCells w.heap.size 0 [.int .i64 ((lsS s st).pos : Int), .int .i64 (lsS s st).e] = w4 at *
  clear y0 y1 yf
  have HLT := Lib.hid (lt_of_block P4.out)
  go_loopw [7, 8] (fun v i wr => ∃ j : Nat, j ≤ lsN s st ∧ i = .int .i64 j ∧ LoopD w.heap.size (insN s) (RIns s) 4 45 clA w4 (lsS s st) j v wr) (fun _ i _ => lsN s st - (intOf i).toNat)
  case atStart => exact ⟨0, Nat.zero_le _, rfl, loopD_start P4.out⟩
  case round =>
    obtain ⟨j, hj, rfl, hl⟩ := hrel
    have HL := Lib.hid hl
    obtain ⟨y0, y1, yf⟩ := two_cells hl.place
    have hkp := hl.kp
    have hplace := hl.place
    by_cases hgo : j < lsN s st ∧ (it (insN s) j (lsS s st)).e = 0
    · obtain ⟨hlt, he⟩ := hgo
      obtain ⟨g, hg1, hg2⟩ := hl.own
      have G1 := Lib.hid hg1
      have G2 := Lib.hid hg2
      have d1 : decide ((j : Int) < ((lsN s st : Nat) : Int)) = true := by rw [decide_eq_true_eq]; omega
      have de : ((it (insN s) j (lsS s st)).e == 0) = true := by simp [he]
      have O0 := Lib.hid (HOK.out j)
      have PL := Lib.hid hplace
      have KP := Lib.hid hkp
      have HST : Hid (∀ v' W2 W4 cs r, RIns s (it (insN s) j (lsS s st)) r (Hd w.heap.size W2) → Below wr.heap.size wr W2 → cs.size = 4 → (∀ k, k < 4 → cs.toList[k]? = some (clA r k)) → W4.ownsRow w4.heap.size 45 4 v' (j + 1) (rowCells 4 (fun i k => clA (g i) k) j ++ cs.toList) → (W2.alloc (.cells cs 45)).grownBy W4 (u7).ownBlock →
          LoopD w.heap.size (insN s) (RIns s) 4 45 clA w4 (lsS s st) (j + 1) v' (W4.setCells w.heap.size 0 [.int .i64 ((insN s (it (insN s) j (lsS s st))).pos : Int), .int .i64 (insN s (it (insN s) j (lsS s st))).e])) :=
        fun v' W2 W4 cs r a b c d e f => loopD_step (by decide) HLT.out (stab_ins _ s) hg1 hg2 hplace hkp a b c d e f
      clear hg1 hg2 hl he hkp hplace
      generalize it (insN s) j (lsS s st) = S0 at *
      go_wp2_with fail
      refine (HI1.out S0 O0.out _).mono ?_
      rintro e w5 ⟨rfl, hb5⟩
      have Q5 : Hid ((w5.alloc (.cells #[.int .i64 (((stN s S0)).pos : Int), .int .i64 ((stN s S0)).e] 65)).heap[w5.heap.size]? = some (.cells #[.int .i64 (((stN s S0)).pos : Int), .int .i64 ((stN s S0)).e] 65 (0, 0))) := heap_alloc_new w5 _
      have B5 := Lib.hid (bthen hb5 (balloc w5 (.cells #[.int .i64 (((stN s S0)).pos : Int), .int .i64 ((stN s S0)).e] 65)))
      have LQ := Lib.hid hb5.size
      obtain ⟨q0, q1, qf⟩ := two_cells Q5.out
      clear hb5 y0 y1 yf
      go_wp2_with fail
      generalize hq : w5.heap.size = q at *
      generalize w5.alloc (.cells #[.int .i64 (((stN s S0)).pos : Int), .int .i64 ((stN s S0)).e] 65) = v5 at *
      clear hq
      refine (HI1.out (stN s S0) O0.out.next _).mono ?_
      rintro e w6 ⟨rfl, hb2⟩
      have T2 := Lib.hid ((hb2.block _ (lt_of_block Q5.out)).trans Q5.out)
      have C2 := Lib.hid (bthen B5.out hb2)
      obtain ⟨q0, q1, qf⟩ := two_cells T2.out
      have Q6 := Lib.hid (put_two T2.out (.int .i64 (((stN s (stN s S0))).pos : Int)) (.int .i64 ((stN s (stN s S0))).e))
      have B6 := Lib.hid (C2.out.trans (putL_low LQ.out [.int .i64 (((stN s (stN s S0))).pos : Int), .int .i64 ((stN s (stN s S0))).e] 0 w6))
      clear hb2
      go_wp2_with fail
      change Calls _ _ _ (w6.setCells q 0 [.int .i64 (((stN s (stN s S0))).pos : Int), .int .i64 ((stN s (stN s S0))).e]) _
      clear q0 q1 qf
      generalize w6.setCells q 0 [.int .i64 (((stN s (stN s S0))).pos : Int), .int .i64 ((stN s (stN s S0))).e] = v6 at *
      obtain ⟨q0, q1, qf⟩ := two_cells Q6.out
      refine (HI1.out (stN s (stN s S0)) O0.out.next.next _).mono ?_
      rintro e w7 ⟨rfl, hb3⟩
      have T3 := Lib.hid ((hb3.block _ (lt_of_block Q6.out)).trans Q6.out)
      have C3 := Lib.hid (bthen B6.out hb3)
      obtain ⟨q0, q1, qf⟩ := two_cells T3.out
      have Q7 := Lib.hid (put_two T3.out (.int .i64 (((stN s (stN s (stN s S0)))).pos : Int)) (.int .i64 ((stN s (stN s (stN s S0)))).e))
      have B7 := Lib.hid (C3.out.trans (putL_low LQ.out [.int .i64 (((stN s (stN s (stN s S0)))).pos : Int), .int .i64 ((stN s (stN s (stN s S0)))).e] 0 w7))
      clear hb3
      go_wp2_with fail
      change Calls _ _ _ (w7.setCells q 0 [.int .i64 (((stN s (stN s (stN s S0)))).pos : Int), .int .i64 ((stN s (stN s (stN s S0)))).e]) _
      clear q0 q1 qf
      generalize w7.setCells q 0 [.int .i64 (((stN s (stN s (stN s S0)))).pos : Int), .int .i64 ((stN s (stN s (stN s S0)))).e] = v7 at *
      obtain ⟨q0, q1, qf⟩ := two_cells Q7.out
      refine (HI1.out (stN s (stN s (stN s S0))) O0.out.next.next.next _).mono ?_
      rintro e w8 ⟨rfl, hb4⟩
      have T4 := Lib.hid ((hb4.block _ (lt_of_block Q7.out)).trans Q7.out)
      have C4 := Lib.hid (bthen B7.out hb4)
      obtain ⟨q0, q1, qf⟩ := two_cells T4.out
      have Q8 := Lib.hid (put_two T4.out (.int .i64 (((stN s (stN s (stN s (stN s S0))))).pos : Int)) (.int .i64 ((stN s (stN s (stN s (stN s S0))))).e))
      have B8 := Lib.hid (C4.out.trans (putL_low LQ.out [.int .i64 (((stN s (stN s (stN s (stN s S0))))).pos : Int), .int .i64 ((stN s (stN s (stN s (stN s S0))))).e] 0 w8))
      clear hb4
      have hown : ((w8.setCells q 0 [.int .i64 (((stN s (stN s (stN s (stN s S0))))).pos : Int), .int .i64 ((stN s (stN s (stN s (stN s S0))))).e]).alloc (.cells #[.int .i64 (stI s S0), .int .i64 (stI s (stN s S0)), .int .i64 (stI s (stN s (stN s S0))), .int .i64 (stI s (stN s (stN s (stN s S0))))] 45)).ownsRow w4.heap.size 45 4 u7 j (rowCells 4 (fun i k => clA (g i) k) j) := (own_below G1.out B8.out).alloc _
      have HOW := Lib.hid hown
      have hs8 : (w8.setCells q 0 [.int .i64 (((stN s (stN s (stN s (stN s S0))))).pos : Int), .int .i64 ((stN s (stN s (stN s (stN s S0))))).e]).heap.size = w8.heap.size := (by simp [World.setCells])
      have HN := Lib.hid (news_cells (w8.setCells q 0 [.int .i64 (((stN s (stN s (stN s (stN s S0))))).pos : Int), .int .i64 ((stN s (stN s (stN s (stN s S0))))).e]) #[.int .i64 (stI s S0), .int .i64 (stI s (stN s S0)), .int .i64 (stI s (stN s (stN s S0))), .int .i64 (stI s (stN s (stN s (stN s S0))))] 45)
      rw [hs8] at HN
      have HBS : Hid (w4.heap.size ≤ ((w8.setCells q 0 [.int .i64 (((stN s (stN s (stN s (stN s S0))))).pos : Int), .int .i64 ((stN s (stN s (stN s (stN s S0))))).e]).alloc (.cells #[.int .i64 (stI s S0), .int .i64 (stI s (stN s S0)), .int .i64 (stI s (stN s (stN s S0))), .int .i64 (stI s (stN s (stN s (stN s S0))))] 45)).heap.size) := by show _ ≤ _; have := KP.out.size; have := B8.out.size; rw [World.size_alloc]; omega
      clear hown
      go_wp2_with (at_builtin; refine wpList_append_own _ rfl _ _ 40 rfl w4.heap.size 45 i0 (.agg #[.int .i64 0, .int .i64 0, .int .i64 0, .int .i64 0]) 4 32 Try.underlying40 hi hz0 hz1 hz2 rfl (by decide) _ j _ rfl HOW.out ⟨w8.heap.size, 0, none⟩ 1 1 (#[.int .i64 (stI s S0), .int .i64 (stI s (stN s S0)), .int .i64 (stI s (stN s (stN s S0))), .int .i64 (stI s (stN s (stN s (stN s S0))))]).toList rfl rfl HN.out (by simp [Value.oneCell']) (by unfold maxLen; omega) (by omega) HBS.out ?_)
      intro v1 w10 hown10 hgr hnn
      have Q10 := Lib.hid (grown_keep HOW.out hgr ((Below.heap_alloc _ _ _ (lt_of_block Q8.out)).trans Q8.out) (by decide))
      have P8 := PL.out.low B8.out (lt_of_block PL.out)
      have P10 := Lib.hid (grown_keep HOW.out hgr ((Below.heap_alloc _ _ _ (lt_of_block P8)).trans P8) (by decide))
      have R := Lib.hid (HST.out v1 (w8.setCells q 0 [.int .i64 (((stN s (stN s (stN s (stN s S0))))).pos : Int), .int .i64 ((stN s (stN s (stN s (stN s S0))))).e]) w10 #[.int .i64 (stI s S0), .int .i64 (stI s (stN s S0)), .int .i64 (stI s (stN s (stN s S0))), .int .i64 (stI s (stN s (stN s (stN s S0))))] (.agg #[.int .i64 (stI s S0), .int .i64 (stI s (stN s S0)), .int .i64 (stI s (stN s (stN s S0))), .int .i64 (stI s (stN s (stN s (stN s S0))))]) rfl B8.out rfl (by
        intro k hk
        have : k = 0 ∨ k = 1 ∨ k = 2 ∨ k = 3 := by omega
        rcases this with rfl | rfl | rfl | rfl <;> rfl) hown10 hgr)
      clear hown10 hgr hnn P8 q0 q1 qf hs8
      obtain ⟨q0, q1, qf⟩ := two_cells Q10.out
      obtain ⟨y0, y1, yf⟩ := two_cells P10.out
      go_wp2_with fail
      go_roundw
      case rel => exact ⟨j + 1, by omega, by go_num, R.out⟩
      case measure => simp [intOf]; omega
    · have hend : j = lsN s st ∨ (it (insN s) j (lsS s st)).e ≠ 0 := by
        rcases Nat.lt_or_ge j (lsN s st) with h | h
        · exact .inr fun h0 => hgo ⟨h, h0⟩
        · exact .inl (by omega)
      obtain ⟨r1, r2, r3⟩ := HE.out _ _ _ j HLT.out hl hj hend
      obtain ⟨g, hg1, _⟩ := hl.own
      obtain ⟨a9, n9, c9, rfl⟩ : ∃ a n c, u7 = .slice a n c := by
        rcases hg1.2 with ⟨rfl, _⟩ | ⟨b, cap, cur, rfl, _⟩
        · exact ⟨_, _, _, rfl⟩
        · exact ⟨_, _, _, rfl⟩
      have R9 : Hid (wr.heap[w.heap.size + 1]? = some (.cells #[.int .i64 0, .int .i64 0] 65 (0, 0))) := (hkp.blk (lt_of_block R4.out) (by omega)).trans R4.out
      have RR := Lib.hid r1
      have L9 := Lib.hid (L4.out.trans (r3.bot (Nat.le_of_lt HLT.out) (Nat.le_refl _)))
      have dd : (decide ((j : Int) < ((lsN s st : Nat) : Int)) && ((it (insN s) j (lsS s st)).e == 0)) = false := by
        rcases hend with h | h
        · have : decide ((j : Int) < ((lsN s st : Nat) : Int)) = false := by rw [decide_eq_false_iff_not]; omega
          rw [this]; rfl
        · have : ((it (insN s) j (lsS s st)).e == 0) = false := by simp [h]
          rw [this, Bool.and_false]
      have EQ : Hid ((it (insN s) j (lsS s st)).e = (prN s st).e) := by
        show _ = _
        have h1 := hplace.symm.trans r2
        simp at h1
        exact h1.2
      clear y0 y1 yf
      obtain ⟨y0, y1, yf⟩ := two_cells r2
      obtain ⟨z0, z1, zf⟩ := two_cells R9.out
      rw [EQ.out] at dd
      clear r1 r2 r3 hg1 hl hkp hplace hend hgo HE
      generalize he9 : (prN s st).e = e9 at *
      generalize hx9 : ((prN s st).pos : Int) = x9 at *
      have E9 := Lib.hid he9
      have X9 := Lib.hid hx9
      clear he9 hx9
      generalize lsN s st = n at *
      by_cases hjn : j < n
      · have d1 : decide ((j : Int) < (n : Int)) = true := by rw [decide_eq_true_eq]; omega
        rw [d1, Bool.true_and] at dd
        go_wp2_with fail
        go_region
        change Exit.then _ _ _ _ (wr.setCells (w.heap.size + 1) 0 [.int .i64 x9, .int .i64 e9]).drew
        have h5 : (wr.setCells (w.heap.size + 1) 0 [.int .i64 x9, .int .i64 e9]).drew.heap[w.heap.size + 1]? = some (.cells #[.int .i64 x9, .int .i64 e9] 65 (0, 0)) := put_two R9.out _ _
        have LZ := Lib.hid (bthen (L9.out.trans (putL_low (show w.heap.size ≤ w.heap.size + 1 by omega) [.int .i64 x9, .int .i64 e9] 0 wr)) (bdrew _))
        have RZ : Hid (e9 = 0 → RPr s st (.slice a9 n9 c9) (wr.setCells (w.heap.size + 1) 0 [.int .i64 x9, .int .i64 e9]).drew) := fun h0 => rpr_show (tb := w.heap.size) (stab_pr (E := 65) (by decide) s _ _ _ _ (RR.out h0) (put_types R9.out))
        obtain ⟨t0, t1, _⟩ := two_cells h5
        clear h5
        generalize (wr.setCells (w.heap.size + 1) 0 [.int .i64 x9, .int .i64 e9]).drew = w9 at *
        go_wp2_with fail
        exact bodyPost_ret (v := .tuple #[.slice a9 n9 c9, .agg #[.int .i64 x9, .int .i64 e9]]) (by simp [results, Try.results34, go_sem, t0, t1]) rfl ⟨_, _, _, by rw [X9.out, E9.out], by rw [E9.out]; exact RZ.out, LZ.out⟩
      · have d1 : decide ((j : Int) < (n : Int)) = false := by rw [decide_eq_false_iff_not]; omega
        clear dd
        go_wp2_with fail
        go_region
        change Exit.then _ _ _ _ (wr.setCells (w.heap.size + 1) 0 [.int .i64 x9, .int .i64 e9]).drew
        have h5 : (wr.setCells (w.heap.size + 1) 0 [.int .i64 x9, .int .i64 e9]).drew.heap[w.heap.size + 1]? = some (.cells #[.int .i64 x9, .int .i64 e9] 65 (0, 0)) := put_two R9.out _ _
        have LZ := Lib.hid (bthen (L9.out.trans (putL_low (show w.heap.size ≤ w.heap.size + 1 by omega) [.int .i64 x9, .int .i64 e9] 0 wr)) (bdrew _))
        have RZ : Hid (e9 = 0 → RPr s st (.slice a9 n9 c9) (wr.setCells (w.heap.size + 1) 0 [.int .i64 x9, .int .i64 e9]).drew) := fun h0 => rpr_show (tb := w.heap.size) (stab_pr (E := 65) (by decide) s _ _ _ _ (RR.out h0) (put_types R9.out))
        obtain ⟨t0, t1, _⟩ := two_cells h5
        clear h5
        generalize (wr.setCells (w.heap.size + 1) 0 [.int .i64 x9, .int .i64 e9]).drew = w9 at *
        go_wp2_with fail
        exact bodyPost_ret (v := .tuple #[.slice a9 n9 c9, .agg #[.int .i64 x9, .int .i64 e9]]) (by simp [results, Try.results34, go_sem, t0, t1]) rfl ⟨_, _, _, by rw [X9.out, E9.out], by rw [E9.out]; exact RZ.out, LZ.out⟩

end Go.Proofs.Ytemhbcjpgapjkaa
