/- The program's map of pages: become, Commit, Abort, New. Takes out of a drawn region, said shortly: an operation that is not wanted, one that only reads. The contracts of the program's up, at, count, settle, Arm, and of what only looks. The contracts of the program's settle, Arm, Sync, Read, and of what only looks. A drawn region whose last operation writes what the region reads: S is asked behind each operation but that one (number X), for which all others wait. -/
import Derived.StillTailTactics
import Derived.WalkKit
import Derived.Deep.RegionHeld3
import Derived.Laws.BytesArg
import Derived.Test.YtmflkkkbahghgaaGreatYZ8
import Derived.Test.YtmflkkkbahghgaaGreatYZ7
namespace Go.Proofs.YtmflkkkbahghgaaGreat
open Go.RowKit Go.Deep
set_option linter.unusedVariables false
set_option linter.unusedSimpArgs false
set_option maxRecDepth 100000

section
variable {base P n : Nat} {K : Nat → Nat} {S T : Nat → Bool} {u u2 : World}
theorem PFm.apart (h : PFm base P n K S u) {b c : Nat} (x0 : u.cell? ⟨P, 0, none⟩ = some (.slice (some ⟨b, 0, none⟩) n c)) (hn : 0 < n) : b ≠ P := by
  obtain ⟨v, e, hr, hs⟩ := h.box
  rw [Lib.cell_of_heap e] at x0
  have hv : v = .slice (some ⟨b, 0, none⟩) n c := by simpa using x0
  subst hv
  rcases hr with ⟨h0, _⟩ | ⟨h0, b2, c2, e2, h1, hr⟩
  · omega
  simp only [Value.slice.injEq, Option.some.injEq, Addr.mk.injEq, and_true, true_and] at e2
  obtain ⟨rfl, rfl⟩ := e2
  rintro rfl
  obtain ⟨cs, e3⟩ := hr.b
  rw [e3] at e
  simp at e
/-- the first j pages turned -/
def mixK (K : Nat → Nat) (a b j : Nat) : Nat → Nat := fun i => if i < j then turnF K a b i else K i
theorem mixK_at (K : Nat → Nat) (a b j : Nat) : mixK K a b j j = K j := by unfold mixK; rw [if_neg (by omega)]
theorem mixK_succ (K : Nat → Nat) (a b j : Nat) : fupd (mixK K a b j) j (turnF K a b j) = mixK K a b (j + 1) := by
  funext i
  unfold fupd mixK
  by_cases c : i = j
  · subst c
    rw [if_pos rfl, if_pos (by omega)]
  · rw [if_neg c]
    by_cases d : i < j
    · rw [if_pos d, if_pos (by omega)]
    · rw [if_neg d, if_neg (by omega)]
theorem PFm.congr {K2 : Nat → Nat} (h : PFm base P n K S u) (e : ∀ i, i < n → K2 i = K i) : PFm base P n K2 S u := by
  obtain ⟨v, e1, hr, hs⟩ := h.box
  exact ⟨⟨v, e1, hr.congr e, hs⟩, h.lo, fun i hi => by rw [e i hi]; exact h.four i hi⟩
theorem turn_cell {w : World} {A a b k : Nat} {x : Nat} (h : w.heap[A]? = some (.cells #[.int .i64 0, .int .i64 1, .int .i64 (a : Int), .int .i64 (b : Int)] 151 (0, 0))) (hk : k < 4) (hx : x = if k = 2 then a else if k = 3 then b else k) : w.cell? ⟨A, k, none⟩ = some (.int .i64 (x : Int)) := by
  rw [Lib.cell_of_heap h]
  subst hx
  rcases k with _ | _ | _ | _ | k
  · rfl
  · rfl
  · rfl
  · rfl
  · omega
set_option maxHeartbeats 3200000 in
theorem pbecome12_any (h : PFm base P n K S u) (hn : n ≤ 1024) (a b : Nat) (ha : a < 4) (hb : b < 4) : Calls Tryz.prog 140 #[.pointer (some ⟨P, 0, none⟩), .agg #[.int .i64 0, .int .i64 1, .int .i64 (a : Int), .int .i64 (b : Int)]] u fun r u' => r = .returned (.bool true) ∧ Post12 PFm base P n (turnF K a b) S u u' := by
  have X1 := Lib.hid (heap_alloc_new u (.cells #[.int .i64 0, .int .i64 1, .int .i64 (a : Int), .int .i64 (b : Int)] 151))
  have B1 := Lib.hid (balloc u (.cells #[.int .i64 0, .int .i64 1, .int .i64 (a : Int), .int .i64 (b : Int)] 151))
  have R1 := Lib.hid (h.below B1.out)
  have SA : Hid (S u.heap.size = false) := Lib.hid (by
    cases c : S u.heap.size with
    | false => rfl
    | true => have := (h.s_lo _ c).2; omega)
  have HF := Lib.hid h.four
  have HT : Hid (∀ j, j < n → turnF K a b j < 4) := Lib.hid (fun j hj => by
    have := h.four j hj
    unfold turnF
    split
    · exact ha
    · split
      · exact hb
      · exact this)
  clear h
  go_enter Tryz.func140, Tryz.ntmps140
  go_upto_region 1 with fail
  generalize hA : u.heap.size = A at *
  generalize u.alloc (.cells #[.int .i64 0, .int .i64 1, .int .i64 (a : Int), .int .i64 (b : Int)] 151) = u1 at *
  have LA := Lib.hid (lt_of_block X1.out)
  obtain ⟨ao, c, x0, hr⟩ := R1.out.len
  clear hr
  have X0 := Lib.hid x0
  go_wp2_with fail
  clear x0
  go_loopw [14] (fun i wr => ∃ j : Nat, j ≤ n ∧ i = .int .i64 j ∧ Hid (PFm base P n (mixK K a b j) S wr) ∧ Hid (wr.cell? ⟨P, 0, none⟩ = some (.slice ao n c)) ∧ Hid (KpS S u1 wr)) (fun i _ => n - (intOf i).toNat)
  case atStart => exact ⟨0, Nat.zero_le _, rfl, Lib.hid (R1.out.congr fun i _ => by unfold mixK; rw [if_neg (by omega)]), X0, Lib.hid (KpS.refl _ _)⟩
  case round =>
    obtain ⟨j, hj, rfl, HR, HX, HK⟩ := hrel
    by_cases hlt : j < n
    · have hj1 : (j : Int) < (n : Int) := by omega
      have hj2 : (0 : Int) ≤ (j : Int) := by omega
      have d1 : decide ((j : Int) < (n : Int)) = true := by simp [hlt]
      have HD := Lib.hid (bdrew wr)
      have HR2 := Lib.hid (HR.out.below HD.out)
      have HK2 := Lib.hid (HK.out.on HD.out)
      have HX2 : Hid ((World.drew wr).cell? ⟨P, 0, none⟩ = some (.slice ao n c)) := Lib.hid HX.out
      obtain ⟨bb, cc, x0, x1, xf, hput⟩ := HR2.out.look hlt
      have hao : some (⟨bb, 0, none⟩ : Addr) = ao ∧ cc = c := by
        have := x0.symm.trans HX2.out
        simpa using this
      obtain ⟨rfl, rfl⟩ := hao
      have NE := Lib.hid (HR2.out.apart x0 (by omega))
      rw [mixK_at] at x1
      have hK4 := HF.out j hlt
      have y1 : (World.drew wr).cell? ⟨A, K j, none⟩ = some (.int .i64 (turnF K a b j : Int)) := turn_cell ((HK2.out.blk LA.out SA.out).trans X1.out) hK4 rfl
      have HP := Lib.hid (hput (turnF K a b j) (HT.out j hlt))
      rw [mixK_succ] at HP
      clear hput HR
      generalize turnF K a b j = t at *
      generalize K j = q at *
      have q1 : (0 : Int) ≤ (q : Int) := by omega
      have q2 : (q : Int) < 4 := by omega
      have XF := Lib.hid xf
      have X0 := Lib.hid x0
      have XC := Lib.hid x1
      change wr.cell? _ = _ at x0 x1 y1
      clear xf
      go_upto_region 6 with fail
      go_still_tail 9, (by kernel_rfl)
      change wpList _ _ _ _ _ (World.drew wr)
      have xf := XF.out
      have xc := XC.out
      clear x0 x1 y1 HX HK HD XF XC
      generalize World.drew wr = w2 at *
      have X9 : Hid ((w2.setCell ⟨bb, j, none⟩ (.int .i64 (t : Int))).cell? ⟨P, 0, none⟩ = some (.slice (some ⟨bb, 0, none⟩) n cc)) := Lib.hid ((World.cell?_of_block (set_else12 _ NE.out.symm)).trans X0.out)
      have K9 := Lib.hid (HK2.out.trans HP.out.2)
      go_wp2_with fail
      go_roundw
      case rel => exact ⟨j + 1, hlt, by go_num, Lib.hid HP.out.1, X9, K9⟩
      case measure => simp [intOf]; omega
    · obtain rfl : j = n := by omega
      have d1 : decide ((j : Int) < (j : Int)) = false := by simp
      have F := Lib.hid ((HR.out.congr (K2 := turnF K a b) (fun i hi => by unfold mixK; rw [if_pos hi])).post ((KpS.of (by rw [hA]; exact B1.out) : KpS S u u1).trans HK.out))
      go_wp2_with fail
      go_ret
      exact ⟨rfl, F.out⟩
theorem pcommit12_any (h : PFm base P n K S u) (hn : n ≤ 1024) : Calls Tryz.prog 139 #[.pointer (some ⟨P, 0, none⟩)] u fun r u' => r = .returned (.bool true) ∧ Post12 PFm base P n (turnF K 1 0) S u u' := by
  have H := Lib.hid (pbecome12_any h hn 1 0 (by omega) (by omega))
  change Hid (Calls _ _ #[_, .agg #[_, _, .int .i64 1, .int .i64 0]] _ _) at H
  clear h
  go_enter Tryz.func139, Tryz.ntmps139
  go_wp2_with fail
  refine (H.out).mono ?_
  rintro e w1 ⟨rfl, hp⟩
  have HP := Lib.hid hp
  clear hp
  go_wp2_with fail
  go_ret
  exact ⟨rfl, HP.out⟩
theorem pabort12_any (h : PFm base P n K S u) (hn : n ≤ 1024) : Calls Tryz.prog 99 #[.pointer (some ⟨P, 0, none⟩)] u fun r u' => r = .returned (.bool true) ∧ Post12 PFm base P n (turnF K 0 1) S u u' := by
  have H := Lib.hid (pbecome12_any h hn 0 1 (by omega) (by omega))
  change Hid (Calls _ _ #[_, .agg #[_, _, .int .i64 0, .int .i64 1]] _ _) at H
  clear h
  go_enter Tryz.func99, Tryz.ntmps99
  go_wp2_with fail
  refine (H.out).mono ?_
  rintro e w1 ⟨rfl, hp⟩
  have HP := Lib.hid hp
  clear hp
  go_wp2_with fail
  go_ret
  exact ⟨rfl, HP.out⟩
end
/-! ### New -/
theorem KRow.form {base n : Nat} {K : Nat → Nat} {v : Value} {u : World} (h : KRow base n K v u) : ∃ a c, v = .slice a n c := by
  rcases h with ⟨rfl, a, c, rfl, _⟩ | ⟨_, b, c, rfl, _⟩
  · exact ⟨_, _, rfl⟩
  · exact ⟨_, _, rfl⟩
set_option maxHeartbeats 800000 in
theorem pnew12_any (n : Nat) (u : World) (hn : n ≤ 1024) : Calls Tryz.prog 116 #[.int .i64 (n : Int)] u fun r u' => ∃ P S, r = .returned (.tuple #[.pointer (some ⟨P, 0, none⟩), .int .i64 0]) ∧ PFm u.heap.size P n (fun _ => 0) S u' ∧ Below u.heap.size u u' := by
  have d0 : decide ((n : Int) < 0) = false := decide_eq_false (by omega)
  have d1 : decide (1024 < (n : Int)) = false := decide_eq_false (by omega)
  have B1 := Lib.hid (balloc u (.cells #[.int .i64 0] 3))
  have H := Lib.hid (repeat0_any n hn u.heap.size 1 (u.alloc (.cells #[.int .i64 0] 3)) (by rw [Lib.cell_of_heap (heap_alloc_new u _)]; rfl))
  go_enter Tryz.func116, Tryz.ntmps116
  go_wp2_with fail
  refine (H.out).mono ?_
  rintro e w1 ⟨v, rfl, hr, hb⟩
  obtain ⟨a, c, rfl⟩ := hr.form
  have BB := Lib.hid (B1.out.trans (hb.mono B1.out.size))
  have SZ := Lib.hid B1.out.size
  have HR := Lib.hid hr
  have X2 := Lib.hid (heap_alloc_new w1 (.cells #[.slice a n c] 170))
  have B2 := Lib.hid (balloc w1 (.cells #[.slice a n c] 170))
  clear hr hb H
  have F : Hid (∃ P S, (Ending.returned (.tuple #[.pointer (some ⟨w1.heap.size, 0, none⟩), .int .i64 0]) : Ending) = .returned (.tuple #[.pointer (some ⟨P, 0, none⟩), .int .i64 0]) ∧ PFm u.heap.size P n (fun _ => 0) S (w1.alloc (.cells #[.slice a n c] 170)) ∧ Below u.heap.size u (w1.alloc (.cells #[.slice a n c] 170))) := Lib.hid ⟨w1.heap.size, fun k => decide (k = w1.heap.size) || decide ((Value.slice a n c).ownBlock = some k), rfl, ⟨⟨_, X2.out, KRow.mono (HR.out.below B2.out) SZ.out, fun k => by simp⟩, BB.out.size, fun i hi => by omega⟩, BB.out.trans (B2.out.mono BB.out.size)⟩
  go_wp2_with fail
  go_ret2
  exact F.out

end Go.Proofs.YtmflkkkbahghgaaGreat
namespace Go.Proofs.YtmflkkkbahghgaaGreat
open Go.RowKit
section
variable {P : Program} {ops : Array Oper} {Q : Exit → Act → World → Prop} {md : Region.Mode} {S : World → Prop}
theorem tk0 (i : Nat) {oi : Oper} {fuel : Nat} {listed : Array Bool} {a : Act} {w : World} (hi : ops[i]? = some oi)
    (h : wpAnyH P md ops Q S fuel (listed.setIfInBounds i true) (a.put oi.dst undef) w)
    (hs : Region.noSelect ops = true := by kernel_rfl) (hf : Region.free md ops listed i = true := by kernel_rfl) (hr : (Region.ready md ops listed).contains i = true := by kernel_rfl)
    (hQ : ∀ c a w, Q (.panic c) (a.put oi.dst undef) w → Q (.panic c) a w := by exact fun _ _ _ h => h)
    (hw : Region.wanted oi (yielded ops a.tmps) = false := by rfl) (hS : S w := by assumption) : wpAnyH P md ops Q S (fuel + 1) listed a w := wpAnyH_take hi hs hf hr hQ (.inr ⟨hw, rfl⟩) hS h
theorem tk1 (i : Nat) {oi : Oper} {v : Value} {fuel : Nat} {listed : Array Bool} {a : Act} {w : World} (hi : ops[i]? = some oi)
    (hy : ∀ w5, S w5 → (execOp a.eval oi).run P w5 = .ok (.value v) w5)
    (h : wpAnyH P md ops Q S fuel (listed.setIfInBounds i true) (a.put oi.dst v) w)
    (hs : Region.noSelect ops = true := by kernel_rfl) (hf : Region.free md ops listed i = true := by kernel_rfl) (hr : (Region.ready md ops listed).contains i = true := by kernel_rfl)
    (hQ : ∀ c a w, Q (.panic c) (a.put oi.dst v) w → Q (.panic c) a w := by exact fun _ _ _ h => h)
    (hw : Region.wanted oi (yielded ops a.tmps) = true := by rfl) (hS : S w := by assumption) : wpAnyH P md ops Q S (fuel + 1) listed a w := wpAnyH_take hi hs hf hr hQ (.inl ⟨hw, hy⟩) hS h
end
end Go.Proofs.YtmflkkkbahghgaaGreat
namespace Go.Proofs.YtmflkkkbahghgaaGreat
open Go.RowKit Go.Deep Go.Maps
set_option linter.unusedVariables false
set_option linter.unusedSimpArgs false
set_option maxRecDepth 100000

/-- a sector is written -/
def putD (d : Dk) (i : Nat) (s : ByteArray) : Dk := { d with nw := upd d.nw i (byD s), is := upd d.is i true }
structure BdD (d : Dk) : Prop where
  n : d.n ≤ 4096
  calls : d.calls < 1000000
  arm : d.arm ≤ 9223372036854775807
variable {base P bS bm cS : Nat} {d : Dk} {u : World}
theorem pup_any (h : PDk base P bS bm cS d u) : Calls Tryz.prog 114 #[.pointer (some ⟨P, 0, none⟩)] u fun r u' => r = .returned (.int .i64 (if d.down then 13 else 0)) ∧ u' = u := by
  obtain ⟨c0, c1, c2, c3, c4, cf⟩ := h.cells
  go_enter Tryz.func114, Tryz.ntmps114
  cases hd : d.down with
  | true =>
    rw [hd] at c4
    go_wp2_with fail
    go_ret
    exact ⟨rfl, rfl⟩
  | false =>
    rw [hd] at c4
    go_wp2_with fail
    go_ret
    exact ⟨rfl, rfl⟩
theorem pat_any (h : PDk base P bS bm cS d u) (i : Int) : Calls Tryz.prog 111 #[.pointer (some ⟨P, 0, none⟩), .int .i64 i] u fun r u' => r = .returned (.int .i64 (readE d i)) ∧ u' = u := by
  obtain ⟨c0, c1, c2, c3, c4, cf⟩ := h.cells
  have H := Lib.hid (pup_any h)
  unfold readE
  go_enter Tryz.func111, Tryz.ntmps111
  cases hd : d.down with
  | true =>
    rw [hd] at H
    go_wp2_with fail
    refine (H.out).mono ?_
    rintro e w1 ⟨rfl, rfl⟩
    go_wp2_with fail
    go_ret
    exact ⟨rfl, rfl⟩
  | false =>
    rw [hd] at H
    go_wp2_with fail
    refine (H.out).mono ?_
    rintro e w1 ⟨rfl, rfl⟩
    by_cases h1 : i < 0
    · have d1 : decide (i < 0) = true := by simp [h1]
      go_wp2_with fail
      go_ret
      refine ⟨?_, rfl⟩
      show Ending.returned (Value.int .i64 3) = _
      simp [h1]
    · have d1 : decide (i < 0) = false := by simp; omega
      by_cases h2 : (d.n : Int) ≤ i
      · have d2 : decide ((d.n : Int) ≤ i) = true := by simp [h2]
        go_wp2_with fail
        go_ret
        refine ⟨?_, rfl⟩
        show Ending.returned (Value.int .i64 3) = _
        simp [h2]
      · have d2 : decide ((d.n : Int) ≤ i) = false := by simp; omega
        go_wp2_with fail
        go_ret
        refine ⟨?_, rfl⟩
        show Ending.returned (Value.int .i64 0) = _
        simp [h1, h2]
theorem PDk.rebox (h : PDk base P bS bm cS d u) {d2 : Dk} {u2 : World} (hP : ∀ q, q ≠ P → u2.heap[q]? = u.heap[q]?) (hb : u2.heap[P]? = some (.cells (pbx bS cS bm d2) 122 (0, 0)))
    (hn : d2.n = d.n) (hi : d2.is = d.is) (hs : d2.sf = d.sf) (hw : d2.nw = d.nw) : PDk base P bS bm cS d2 u2 := by
  obtain ⟨n1, n2, n3⟩ := h.ne
  have e : nowD d2 = nowD d := by unfold nowD; rw [hi, hs, hw]
  refine ⟨hb, ?_, ?_, h.lo⟩
  · rw [hn, e]; exact h.row.kept (hP _ n1.symm)
  · rw [hn, hi, hs]; exact h.mp.kept (hP _ n2.symm)
theorem set_else {w : World} {P o q : Nat} (v : Value) (h : q ≠ P) : (w.setCell ⟨P, o, none⟩ v).heap[q]? = w.heap[q]? := Below.heap_setCell _ _ _ _ h
set_option maxHeartbeats 1600000 in
theorem pcount_any (h : PDk base P bS bm cS d u) (hb : BdD d) (hdn : d.down = false) : Calls Tryz.prog 113 #[.pointer (some ⟨P, 0, none⟩)] u fun r u' => r = .returned (.int .i64 (countE d)) ∧ PDk base P bS bm cS (countD d) u' ∧ KpS (P3 P bS bm) u u' := by
  obtain ⟨n, sf, nw, is, arm, calls, down⟩ := d
  have hc : calls < 1000000 := hb.calls
  have ha : arm ≤ 9223372036854775807 := hb.arm
  obtain rfl : down = false := hdn
  have R := Lib.hid h
  have HB := Lib.hid h.box
  obtain ⟨c0, c1, c2, c3, c4, cf⟩ := h.cells
  have hf2 := cf 2
  have hf3 := cf 3
  have hf4 := cf 4
  clear h cf hb c0 c1
  dsimp only at c2 c3 c4
  go_enter Tryz.func113, Tryz.ntmps113
  rcases arm with _ | _ | arm
  · have B1 := Lib.hid (show (u.setCell ⟨P, 2, none⟩ (.int .i64 ((calls : Int) + 1))).heap[P]? = some (.cells (pbx bS cS bm ⟨n, sf, nw, is, 0, calls + 1, false⟩) 122 (0, 0)) from Joins.block_setCell (i := 2) HB.out _)
    have R1 := Lib.hid (R.out.rebox (fun q hq => set_else _ hq) B1.out rfl rfl rfl rfl)
    have K1 := Lib.hid (KpS.set (P3.a P bS bm) 2 (.int .i64 ((calls : Int) + 1)) u)
    have H := Lib.hid (pup_any R1.out)
    go_wp2_with fail
    refine (H.out).mono ?_
    rintro e w1 ⟨rfl, rfl⟩
    go_wp2_with fail
    go_ret
    exact ⟨rfl, R1.out, K1.out⟩
  · have B1 := Lib.hid (show (((u.setCell ⟨P, 2, none⟩ (.int .i64 ((calls : Int) + 1))).setCell ⟨P, 3, none⟩ (.int .i64 0)).setCell ⟨P, 4, none⟩ (.bool true)).heap[P]? = some (.cells (pbx bS cS bm ⟨n, sf, nw, is, 0, calls + 1, true⟩) 122 (0, 0)) from Joins.block_setCell (i := 4) (Joins.block_setCell (i := 3) (Joins.block_setCell (i := 2) HB.out _) _) _)
    have R1 := Lib.hid (R.out.rebox (fun q hq => ((set_else _ hq).trans (set_else _ hq)).trans (set_else _ hq)) B1.out rfl rfl rfl rfl)
    have K1 := Lib.hid (((KpS.set (P3.a P bS bm) 2 (.int .i64 ((calls : Int) + 1)) u).trans (KpS.set (P3.a P bS bm) 3 (.int .i64 0) _)).trans (KpS.set (P3.a P bS bm) 4 (.bool true) _))
    have H := Lib.hid (pup_any R1.out)
    go_wp2_with fail
    refine (H.out).mono ?_
    rintro e w1 ⟨rfl, rfl⟩
    go_wp2_with fail
    go_ret
    exact ⟨rfl, R1.out, K1.out⟩
  · have e1 : ((arm + 1 + 1 : Nat) : Int) - 1 = ((arm + 1 : Nat) : Int) := by omega
    have B1 := Lib.hid (show (((u.setCell ⟨P, 2, none⟩ (.int .i64 ((calls : Int) + 1))).setCell ⟨P, 3, none⟩ (.int .i64 ((arm + 1 : Nat) : Int))).setCell ⟨P, 4, none⟩ (.bool false)).heap[P]? = some (.cells (pbx bS cS bm ⟨n, sf, nw, is, arm + 1, calls + 1, false⟩) 122 (0, 0)) from Joins.block_setCell (i := 4) (Joins.block_setCell (i := 3) (Joins.block_setCell (i := 2) HB.out _) _) _)
    have R1 := Lib.hid (R.out.rebox (fun q hq => ((set_else _ hq).trans (set_else _ hq)).trans (set_else _ hq)) B1.out rfl rfl rfl rfl)
    have K1 := Lib.hid (((KpS.set (P3.a P bS bm) 2 (.int .i64 ((calls : Int) + 1)) u).trans (KpS.set (P3.a P bS bm) 3 (.int .i64 ((arm + 1 : Nat) : Int)) _)).trans (KpS.set (P3.a P bS bm) 4 (.bool false) _))
    have H := Lib.hid (pup_any R1.out)
    have d1 : decide ((0 : Int) < ((arm + 1 + 1 : Nat) : Int)) = true := by simp; omega
    have d2 : (((arm + 1 : Nat) : Int) == 0) = false := by simp; omega
    generalize hq1 : ((arm + 1 + 1 : Nat) : Int) = q1 at *
    generalize hq2 : ((arm + 1 : Nat) : Int) = q2 at *
    have hq3 : q1 ≤ 9223372036854775807 ∧ 0 < q1 := by omega
    go_wp2_with fail
    refine (H.out).mono ?_
    rintro e w1 ⟨rfl, rfl⟩
    go_wp2_with fail
    go_ret
    exact ⟨rfl, R1.out, K1.out⟩

end Go.Proofs.YtmflkkkbahghgaaGreat
namespace Go.Proofs.YtmflkkkbahghgaaGreat
open Go.RowKit Go.Deep Go.Maps
set_option linter.unusedVariables false
set_option linter.unusedSimpArgs false
set_option maxRecDepth 100000

variable {base P bS bm cS : Nat} {d : Dk} {u : World}
/-- a block is the one that it was, or new -/
def NewOr (b : Nat) (u : World) (b2 : Nat) : Prop := b2 = b ∨ u.heap.size ≤ b2
theorem psettleB_any (h : PDk base P bS bm cS d u) : Calls Tryz.prog 115 #[.pointer (some ⟨P, 0, none⟩)] u fun r u' => r = .returned (.tuple #[]) ∧ (∃ bm2, NewOr bm u bm2 ∧ bm2 < u'.heap.size ∧ PDk base P bS bm2 cS (safeD d) u') ∧ KpS (P3 P bS bm) u u' := by
  have hmm := @run_makeMap Tryz.prog
  obtain ⟨n1, n2, n3⟩ := h.ne
  obtain ⟨l1, l2, l3⟩ := h.lt
  obtain ⟨o1, o2, o3⟩ := h.lo
  obtain ⟨c0, c1, c2, c3, c4, cf⟩ := h.cells
  have hf1 := cf 1
  have B1 := balloc (u.setCell ⟨P, 1, none⟩ (.map (some u.heap.size))) (.map #[] 0)
  have e9 : (u.setCell ⟨P, 1, none⟩ (.map (some u.heap.size))).heap.size = u.heap.size := World.size_setCell _ _ _
  have X1 := heap_alloc_new (u.setCell ⟨P, 1, none⟩ (.map (some u.heap.size))) (.map #[] 0)
  rw [e9] at X1 B1
  have S1 : Hid (PDk base P bS u.heap.size cS (safeD d) ((u.setCell ⟨P, 1, none⟩ (.map (some u.heap.size))).alloc (.map #[] 0))) := by
    refine ⟨?_, ?_, MpD.none X1 fun _ => rfl, o1, o2, by omega⟩
    · rw [B1.block _ l1]; exact Joins.block_setCell (i := 1) h.box _
    · exact h.row.kept ((B1.block _ l2).trans (set_else _ n1.symm))
  have SZ := Lib.hid (show u.heap.size < ((u.setCell ⟨P, 1, none⟩ (.map (some u.heap.size))).alloc (.map #[] 0)).heap.size by rw [World.size_alloc, e9]; omega)
  have K1 := Lib.hid ((KpS.set (P3.a P bS bm) 1 (.map (some u.heap.size)) u).on (balloc (u.setCell ⟨P, 1, none⟩ (.map (some u.heap.size))) (.map #[] 0)))
  clear h B1 X1 cf c0 c2 c3 c4 e9
  go_enter Tryz.func115, Tryz.ntmps115
  go_wp2_with fail
  exact bodyPost_end (v := .tuple #[]) (by simp [results, Tryz.results115, go_sem]) rfl ⟨rfl, ⟨_, .inr (Nat.le_refl _), SZ.out, S1.out⟩, K1.out⟩
theorem psyncB_any (h : PDk base P bS bm cS d u) (hb : BdD d) : Calls Tryz.prog 67 #[.pointer (some ⟨P, 0, none⟩)] u fun r u' => r = .returned (.int .i64 (syncE d)) ∧ (∃ bm2, NewOr bm u bm2 ∧ bm2 < u'.heap.size ∧ PDk base P bS bm2 cS (syncD d) u') ∧ KpS (P3 P bS bm) u u' := by
  have R := Lib.hid h
  have H := Lib.hid (pup_any h)
  unfold syncE syncD
  go_enter Tryz.func67, Tryz.ntmps67
  cases hd : d.down with
  | true =>
    rw [hd] at H
    clear h hb
    go_wp2_with fail
    refine (H.out).mono ?_
    rintro e w1 ⟨rfl, rfl⟩
    go_wp2_with fail
    go_ret
    exact ⟨rfl, ⟨_, .inl rfl, R.out.lt.2.2, R.out⟩, KpS.refl _ _⟩
  | false =>
    rw [hd] at H
    have H2 := Lib.hid (pcount_any h hb hd)
    clear h hb
    go_wp2_with fail
    refine (H.out).mono ?_
    rintro e w1 ⟨rfl, rfl⟩
    go_wp2_with fail
    refine (H2.out).mono ?_
    rintro e w2 ⟨rfl, r2, k2⟩
    have R2 := Lib.hid r2
    have K2 := Lib.hid k2
    clear r2 k2
    by_cases h1 : d.arm = 1
    · have e1 : countE d = 13 := by simp [countE, h1]
      rw [e1]
      go_wp2_with fail
      go_ret
      refine ⟨rfl, ?_, K2.out⟩
      first
        | exact ⟨_, .inl rfl, R2.out.lt.2.2, R2.out⟩
        | (rw [if_neg (by decide), if_pos h1]; exact ⟨_, .inl rfl, R2.out.lt.2.2, R2.out⟩)
    · have e1 : countE d = 0 := by simp [countE, h1]
      have H3 := Lib.hid (psettleB_any R2.out)
      rw [e1]
      go_wp2_with fail
      refine (H3.out).mono ?_
      rintro e w3 ⟨rfl, r3, k3⟩
      have R3 := Lib.hid (show ∃ bm2, NewOr bm w1 bm2 ∧ bm2 < w3.heap.size ∧ _ from r3.elim fun b h => ⟨b, Or.imp id (fun h => Nat.le_trans K2.out.size h) h.1, h.2⟩)
      have K3 := Lib.hid (K2.out.trans k3)
      clear r3 k3
      go_wp2_with fail
      go_ret
      refine ⟨rfl, ?_, K3.out⟩
      first
        | exact R3.out
        | (rw [if_neg (by decide), if_neg h1]; exact R3.out)
theorem pread_any (h : PDk base P bS bm cS d u) (hn : d.n ≤ 4096) (i : Int) : Calls Tryz.prog 197 #[.pointer (some ⟨P, 0, none⟩), .int .i64 i] u fun r u' => r = .returned (.tuple #[.string (readS d i), .int .i64 (readE d i)]) ∧ u' = u := by
  have R := Lib.hid h
  obtain ⟨c0, c1, c2, c3, c4, cf⟩ := h.cells
  have H := Lib.hid (pat_any h i)
  unfold readE at H
  unfold readE readS
  go_enter Tryz.func197, Tryz.ntmps197
  cases hd : d.down with
  | true =>
    rw [hd] at H
    clear h
    go_wp2_with fail
    refine (H.out).mono ?_
    rintro e w1 ⟨rfl, rfl⟩
    go_wp2_with fail
    go_ret2
    exact ⟨rfl, rfl⟩
  | false =>
    rw [hd] at H
    by_cases h1 : i < 0 ∨ (d.n : Int) ≤ i
    · rw [if_neg (by decide), if_pos h1] at H
      clear h
      go_wp2_with fail
      refine (H.out).mono ?_
      rintro e w1 ⟨rfl, rfl⟩
      go_wp2_with fail
      go_ret2
      refine ⟨?_, rfl⟩
      first
        | rfl
        | (simp only [if_pos h1]; rfl)
    · rw [if_neg (by decide), if_neg h1] at H
      obtain ⟨k, rfl⟩ : ∃ k : Nat, i = (k : Int) := ⟨i.toNat, by omega⟩
      have hk : k < d.n := by omega
      have hlt : (k : Int) < (d.n : Int) := by omega
      have hcv := run_convert_bytes_arg (P := Tryz.prog) u 71 5 Tryz.underlying71 Tryz.underlying5 bS (k * 64) 64 64 ((List.range 64).map (nowD d k)) (by simp)
        (fun j hj => by rw [h.row.c k hk j hj]; simp [gB, hj]) 9 Tryz.underlying9
      change _ = Result.ok (Value.string (sec (nowD d k))) u at hcv
      clear h
      go_wp2_with fail
      refine (H.out).mono ?_
      rintro e w1 ⟨rfl, rfl⟩
      go_wp2_with fail
      go_ret2
      refine ⟨?_, rfl⟩
      simp only [if_neg h1, Int.toNat_natCast]
      rfl
theorem psectors_any (h : PDk base P bS bm cS d u) : Calls Tryz.prog 104 #[.pointer (some ⟨P, 0, none⟩)] u fun r u' => r = .returned (.int .i64 (d.n : Int)) ∧ u' = u := by
  obtain ⟨c0, c1, c2, c3, c4, cf⟩ := h.cells
  go_enter Tryz.func104, Tryz.ntmps104
  go_wp2_with fail
  go_ret
  exact ⟨rfl, rfl⟩
end Go.Proofs.YtmflkkkbahghgaaGreat
namespace Go.Proofs.YtmflkkkbahghgaaGreat
open Go.RowKit
section
variable {P : Program} {ops : Array Oper} {Q : Exit → Act → World → Prop} {md : Region.Mode} {S : World → Prop} {X : Nat}
def wpAnyX (P : Program) (md : Region.Mode) (ops : Array Oper) (Q : Exit → Act → World → Prop) (S : World → Prop) (X : Nat) : Nat → Array Bool → Act → World → Prop
  | 0, l, a, w => Region.ready md ops l = [] ∧ Q .normal a w
  | n + 1, l, a, w => (Region.ready md ops l = [] → Q .normal a w) ∧ ∀ i ∈ Region.ready md ops l, wpOp P ops Q i (fun a2 w2 => (i = X ∨ S w2) ∧ wpAnyX P md ops Q S X n (l.setIfInBounds i true) a2 w2) a w
theorem wpAny_of_x : ∀ (n : Nat) (l : Array Bool) (a : Act) (w : World), wpAnyX P md ops Q S X n l a w → wpAny P md ops Q n l a w
  | 0, _, _, _, h => h
  | n + 1, _, _, _, h => ⟨h.1, fun i hi => wpOp_mono (fun a2 w2 h2 => wpAny_of_x n _ a2 w2 h2.2) (h.2 i hi)⟩
/-- operation X waits for operation i -/
def awaits (md : Region.Mode) (ops : Array Oper) (X i : Nat) : Bool := match ops[X]? with
  | some o => o.after.any fun e => Region.binds md e && e.on == i
  | none => false
theorem wpAnyX_first {i : Nat} {oi : Oper} {v : Value} (hi : ops[i]? = some oi) (hsel : ∀ (j : Nat) (o : Oper) cs b, ops[j]? = some o → o.op ≠ .select cs b)
    (hQ : ∀ c a w, Q (.panic c) (a.put oi.dst v) w → Q (.panic c) a w) (hX : awaits md ops X i = true) :
    ∀ (n : Nat) (l : Array Bool) (a : Act) (w : World),
      (∀ j oj, ops[j]? = some oj → j ≠ i → l.getD j true = false → (∀ e ∈ oj.after, Region.binds md e = true → e.on ≠ i) → oi.apart ops oj = true) →
      i ∈ Region.ready md ops l → YieldsIf P ops S oi v a → S w →
      wpAnyX P md ops Q S X n (l.setIfInBounds i true) (a.put oi.dst v) w → wpAnyX P md ops Q S X (n + 1) l a w := by
  intro n
  induction n with
  | zero =>
    intro l a w _ hr hy hS H
    refine ⟨fun h => (by rw [h] at hr; cases hr), fun j hj => ?_⟩
    by_cases hji : j = i
    · subst hji; exact hy.wpOp hi hS ⟨.inr hS, H⟩
    · have := ready_mono hj hji
      rw [H.1] at this
      cases this
  | succ n ih =>
    intro l a w hfree hr hy hS H
    refine ⟨fun h => (by rw [h] at hr; cases hr), fun j hj => ?_⟩
    by_cases hji : j = i
    · subst hji; exact hy.wpOp hi hS ⟨.inr hS, H⟩
    · have h1 := H.2 j (ready_mono hj hji)
      obtain ⟨hjun, oj, hoj, hall⟩ := mem_ready.1 hj
      have hnot : ∀ e ∈ oj.after, Region.binds md e = true → e.on ≠ i := fun e he hb heq => by
        have h1 := hall e he hb
        have h0 := (mem_ready.1 hr).1
        rw [heq] at h1
        rcases Nat.lt_or_ge i l.size with h' | h'
        · simp [h'] at h0 h1; rw [h0] at h1; cases h1
        · simp [Array.getElem?_eq_none h'] at h1
      have hjX : j ≠ X := fun e => by
        subst e
        unfold awaits at hX
        rw [hoj] at hX
        simp only [Array.any_eq_true, Bool.and_eq_true, beq_iff_eq] at hX
        obtain ⟨k, hk, hb, hon⟩ := hX
        exact hnot _ (Array.getElem_mem hk) hb hon
      have h2 := wpOp_putIf hoj (hfree j oj hoj hji hjun hnot) (fun cs b => hsel i oi cs b hi) (fun cs b => hsel j oj cs b hoj) hQ hy h1
      have hfree2 : ∀ k ok, ops[k]? = some ok → k ≠ i → (l.setIfInBounds j true).getD k true = false →
          (∀ e ∈ ok.after, Region.binds md e = true → e.on ≠ i) → oi.apart ops ok = true := fun k ok hk hki hun hno => by
        refine hfree k ok hk hki ?_ hno
        by_cases hjk : j = k
        · subst hjk; exact hjun
        · rw [getD_set_ne true hjk] at hun; exact hun
      refine wpOp_mono (fun a2 w2 h3 => ?_) h2
      have hS2 : S w2 := h3.2.1.resolve_left hjX
      refine ⟨.inr hS2, ih (l.setIfInBounds j true) a2 w2 hfree2 (ready_mono hr (Ne.symm hji)) h3.1 hS2 ?_⟩
      rw [Array.setIfInBounds_comm _ _ hji]
      exact h3.2.2
theorem wpAnyX_take {i : Nat} {oi : Oper} {v : Value} {n : Nat} {l : Array Bool} {a : Act} {w : World} (hi : ops[i]? = some oi)
    (hs : Region.noSelect ops = true) (hf : Region.free md ops l i = true) (hr : (Region.ready md ops l).contains i = true) (hX : awaits md ops X i = true)
    (hQ : ∀ c a w, Q (.panic c) (a.put oi.dst v) w → Q (.panic c) a w) (hy : YieldsIf P ops S oi v a) (hS : S w)
    (h : wpAnyX P md ops Q S X n (l.setIfInBounds i true) (a.put oi.dst v) w) : wpAnyX P md ops Q S X (n + 1) l a w :=
  wpAnyX_first hi (Region.noSelect_spec hs) hQ hX n l a w (Region.free_spec hi hf) (by simpa using hr) hy hS h
theorem tx0 (i : Nat) {oi : Oper} {n : Nat} {l : Array Bool} {a : Act} {w : World} (hi : ops[i]? = some oi)
    (h : wpAnyX P md ops Q S X n (l.setIfInBounds i true) (a.put oi.dst undef) w)
    (hs : Region.noSelect ops = true := by kernel_rfl) (hf : Region.free md ops l i = true := by kernel_rfl) (hr : (Region.ready md ops l).contains i = true := by kernel_rfl) (hX : awaits md ops X i = true := by kernel_rfl)
    (hQ : ∀ c a w, Q (.panic c) (a.put oi.dst undef) w → Q (.panic c) a w := by exact fun _ _ _ h => h)
    (hw : Region.wanted oi (yielded ops a.tmps) = false := by rfl) (hS : S w := by assumption) : wpAnyX P md ops Q S X (n + 1) l a w := wpAnyX_take hi hs hf hr hX hQ (.inr ⟨hw, rfl⟩) hS h
theorem tx1 (i : Nat) {oi : Oper} {v : Value} {n : Nat} {l : Array Bool} {a : Act} {w : World} (hi : ops[i]? = some oi)
    (hy : ∀ w5, S w5 → (execOp a.eval oi).run P w5 = .ok (.value v) w5)
    (h : wpAnyX P md ops Q S X n (l.setIfInBounds i true) (a.put oi.dst v) w)
    (hs : Region.noSelect ops = true := by kernel_rfl) (hf : Region.free md ops l i = true := by kernel_rfl) (hr : (Region.ready md ops l).contains i = true := by kernel_rfl) (hX : awaits md ops X i = true := by kernel_rfl)
    (hQ : ∀ c a w, Q (.panic c) (a.put oi.dst v) w → Q (.panic c) a w := by exact fun _ _ _ h => h)
    (hw : Region.wanted oi (yielded ops a.tmps) = true := by rfl) (hS : S w := by assumption) : wpAnyX P md ops Q S X (n + 1) l a w := wpAnyX_take hi hs hf hr hX hQ (.inl ⟨hw, hy⟩) hS h
/-- each of the operations rs comes up next -/
def AllReadyX (P : Program) (md : Region.Mode) (ops : Array Oper) (Q : Exit → Act → World → Prop) (S : World → Prop) (X n : Nat) (l : Array Bool) (a : Act) (w : World) (rs : List Nat) : Prop :=
  ∀ i ∈ rs, wpOp P ops Q i (fun a2 w2 => (i = X ∨ S w2) ∧ wpAnyX P md ops Q S X n (l.setIfInBounds i true) a2 w2) a w
theorem AllReadyX.nil {n : Nat} {l : Array Bool} {a : Act} {w : World} : AllReadyX P md ops Q S X n l a w [] := fun _ h => by cases h
theorem AllReadyX.cons {n : Nat} {l : Array Bool} {a : Act} {w : World} {i : Nat} {o : Oper} {rs : List Nat} (ho : ops[i]? = some o)
    (h : ∀ K2 : Act → World → Prop, Shut (∀ a w, S w → (S w → wpAnyX P md ops Q S X n (l.setIfInBounds i true) a w) → K2 a w) → if Region.wanted o (yielded ops a.tmps) = true then Oper.wp P o a w K2 Q else K2 (a.put o.dst undef) w)
    (hs : AllReadyX P md ops Q S X n l a w rs) : AllReadyX P md ops Q S X n l a w (i :: rs) := fun j hj => by
  rcases List.mem_cons.1 hj with rfl | hj
  · exact wpOp_step ho (fun K2 hK => h K2 (fun a w hS hW => hK a w ⟨.inr hS, hW hS⟩))
  · exact hs j hj
theorem wpAnyX_ready {rs : List Nat} {n : Nat} {l : Array Bool} {a : Act} {w : World} (hr : Region.ready md ops l = rs) (hne : rs ≠ [])
    (h : AllReadyX P md ops Q S X n l a w rs) : wpAnyX P md ops Q S X (n + 1) l a w := ⟨fun h0 => absurd (hr ▸ h0) hne, hr ▸ h⟩
/-- the last one, X, and then the end -/
theorem wpAnyX_last {n : Nat} {l : Array Bool} {a : Act} {w : World} {o : Oper} (hr : Region.ready md ops l = [X]) (ho : ops[X]? = some o)
    (h : ∀ K2 : Act → World → Prop, Shut (∀ a w, Q .normal a w → K2 a w) → if Region.wanted o (yielded ops a.tmps) = true then Oper.wp P o a w K2 Q else K2 (a.put o.dst undef) w)
    (hr2 : Region.ready md ops (l.setIfInBounds X true) = []) : wpAnyX P md ops Q S X (n + 1) l a w := by
  refine ⟨fun h0 => absurd (hr ▸ h0) (by simp), fun j hj => ?_⟩
  rw [hr] at hj
  obtain rfl := List.mem_singleton.1 hj
  refine wpOp_step ho (fun K2 hK => h K2 (fun a w hq => hK a w ⟨.inl rfl, ?_⟩))
  cases n with
  | zero => exact ⟨hr2, hq⟩
  | succ n => exact ⟨fun _ => hq, by rw [hr2]; simp⟩
theorem wp_region_x_drew (X : Nat) {id : Nat} {a : Act} {w : World} (hm : P.follows .mixedOrders = true) (hS : S w.drew)
    (h : S w.drew → wpAnyX P .any ops Q S X ops.size (Array.replicate ops.size false) a w.drew) : (Code.region id ops true).wp P Q a w :=
  wp_region_any hm (wpAny_of_x _ _ _ _ (h hS))
end
end Go.Proofs.YtmflkkkbahghgaaGreat
