/- The contract of the document's Of: a whole run. -/
import Derived.Deep.DeepCutAuto
import Derived.Deep.Upon
import Derived.Test.YthkfaeplmmlnlaaGreatRZ4
import Derived.Test.YthkfaeplmmlnlaaGreatRZ0
import Derived.Test.YthkfaeplmmlnlaaGreatRZ3
namespace Go.Proofs.YthkfaeplmmlnlaaGreat
open Go.RowKit Go.Deep
set_option linter.unusedVariables false
set_option maxRecDepth 100000

theorem oneR_n (x : I4) (seed me : Int) (r : Mch) : (oneR x seed me r).n = r.n := by
  unfold oneR
  repeat' split
  all_goals rfl
theorem runM_end {pr : Nat → I4} {pl : Nat} {lps seed me : Int} {k : Nat} {r : Mch} (h : pl ≤ r.pc) : runM pr pl lps seed me k r = r := by
  cases k <;> (unfold runM; rw [if_pos h])
theorem runM_fuel {pr : Nat → I4} {pl : Nat} {lps seed me : Int} {r : Mch} (h : r.pc < pl) : runM pr pl lps seed me 0 r = { r with f := 1 } := by
  unfold runM; rw [if_neg (by omega)]
theorem runM_halt {pr : Nat → I4} {pl : Nat} {lps seed me : Int} {k : Nat} {r : Mch} (h : r.pc < pl) (h0 : (pr r.pc).op = 0) : runM pr pl lps seed me (k + 1) r = { r with n := r.n + 1, pc := r.pc + 1 } := by
  unfold runM; rw [if_neg (by omega)]; simp only [h0, if_pos]
theorem runM_bad {pr : Nat → I4} {pl : Nat} {lps seed me : Int} {k : Nat} {r : Mch} (h : r.pc < pl) (h0 : (pr r.pc).op ≠ 0) (hf : oneF (pr r.pc) lps { r with n := r.n + 1, pc := r.pc + 1 } ≠ 0) :
    runM pr pl lps seed me (k + 1) r = { r with n := r.n + 1, pc := r.pc + 1, f := oneF (pr r.pc) lps { r with n := r.n + 1, pc := r.pc + 1 } } := by
  conv => lhs; unfold runM
  rw [if_neg (by omega)]; simp only [if_neg h0, if_neg hf]
theorem runM_on {pr : Nat → I4} {pl : Nat} {lps seed me : Int} {k : Nat} {r : Mch} (h : r.pc < pl) (h0 : (pr r.pc).op ≠ 0) (hf : oneF (pr r.pc) lps { r with n := r.n + 1, pc := r.pc + 1 } = 0) :
    runM pr pl lps seed me (k + 1) r = runM pr pl lps seed me k (oneR (pr r.pc) seed me { r with n := r.n + 1, pc := r.pc + 1 }) := by
  conv => lhs; unfold runM
  rw [if_neg (by omega)]; simp only [if_neg h0, if_pos hf]

theorem info_int7 : (Tryz.prog.info? 3).map (fun i => (i.zero, i.size, i.bytes)) = some (some (.int .i64 0), 1, 8) := by kernel_rfl
/-- append of nothing, as a step of a region -/
theorem step_append_nothing7 {P : Program} {ops : Array Oper} {o : Oper} {a : Act} {w : World} {K : Act → World → Prop} {Q : Exit → Act → World → Prop} {E : Prop}
    (hg : o.guard = none) (s x : Operand) (t : TypeId) (hop : o.op = Op.call { callee := Callee.builtin Builtin.append, args := #[s, x], argTypes := #[t, t] })
    (e : TypeId) (i : TypeInfo) (h1 : P.underlying t = some (.slice e)) (h2 : P.info? e = some i) (ao : Option Addr) (n cap : Nat) (hs : a.eval s = .slice ao n cap) (hle : n ≤ cap)
    (xv : Value) (hx : a.eval x = xv) (hsrc : Src P i.size t xv 0 [] w) (hK : K (a.put o.dst (.slice ao n cap)) w) :
    if Region.wanted o (yielded ops a.tmps) = true then Oper.wp P o a w K Q else E := by
  have hw : Region.wanted o (yielded ops a.tmps) = true := by simp [Region.wanted, hg]
  rw [if_pos hw]
  have hrun := run_append_nothing (P := P) w t t o.type e i h1 h2 ao n cap hle xv hsrc
  unfold Oper.wp
  simp [execOp, hop, resolve, invoke, builtin, hs, hx, hrun, Result.andThen]
  exact hK
theorem at_news {g : Nat → Nat → Value} {n b o : Nat} {w : World} (h : At 1 g n b o w) : ∀ j u, (rowCells 1 g n)[j]? = some u → w.cell? ((⟨b, o, none⟩ : Addr).add j) = some u := by
  intro j u hj
  have hlt : j < n * 1 := by
    rcases Nat.lt_or_ge j (n * 1) with h1 | h1
    · exact h1
    · rw [List.getElem?_eq_none (by rw [rowCells_len]; exact h1)] at hj; cases hj
  have e := rowCells_at g (C := 1) (n := n) (i := j) (j := 0) (by omega) (by omega)
  rw [show j * 1 + 0 = j by omega, hj] at e
  have := h.2 j (by omega) 0 (by omega)
  rw [add_plain]
  rw [show o + j * 1 + 0 = o + j by omega] at this
  rw [this]
  exact e.symm
theorem row_one (f : Nat → Int) (n : Nat) : ∀ u ∈ rowCells 1 (gW f) n, u.oneCell' = true := by
  intro u hu
  unfold rowCells gW at hu
  simp only [List.mem_map] at hu
  obtain ⟨k, _, rfl⟩ := hu
  rfl
theorem rowCells_zero (C : Nat) (g : Nat → Nat → Value) : rowCells C g 0 = [] := by simp [rowCells]
theorem begin_regs (i : Inp) : regs (beginM i).g = #[.int .i64 i.pay, .int .i64 i.me, .int .i64 i.lps, .int .i64 (i.nw : Int), .int .i64 0, .int .i64 0, .int .i64 0, .int .i64 0] := rfl

/-- what Of hands back -/
def OfPost (pr : Nat → I4) (pl : Nat) (i : Inp) (w : World) (e : Ending) (w' : World) : Prop :=
  ∃ P bg vw vs, e = .returned (.pointer (some ⟨P, 0, none⟩)) ∧ RunAt (w.heap.size + 1) P bg vw vs (wholeM pr pl i) w' ∧ Below w.heap.size w w'

set_option maxHeartbeats 3200000 in
theorem of7_any (pr : Nat → I4) (pl : Nat) (vp : Value) (i : Inp) (vI : Value) (w : World) (hp : Sl 4 (gI pr) pl vp w) (hw : Sl 1 (gW i.w) i.nw vI w) (hpl : pl ≤ 48) (hnw : i.nw ≤ 8)
    (hins : ∀ k, k < pl → insB (pr k) pl = true) (hbd : Bd (beginM i)) (hb : ∀ k, r64v (pr k).b) :
    Calls Tryz.prog 69 #[vp, .agg #[vI, .int .i64 i.pay, .int .i64 i.me, .int .i64 i.lps, .int .i64 i.seed, .int .i64 i.dice]] w (OfPost pr pl i w) := by
  obtain ⟨i0, hi0, hz0, hz1, hz2⟩ := info_parts info_int7
  obtain ⟨ap, cp, rfl, hcp, hcp2, hpc⟩ := hp
  obtain ⟨aw, cw, rfl, hcw, hcw2, hwc⟩ := hw
  have X1 := Lib.hid (heap_alloc_new w (.cells #[.slice aw i.nw cw, .int .i64 i.pay, .int .i64 i.me, .int .i64 i.lps, .int .i64 i.seed, .int .i64 i.dice] 87))
  have B1 := Lib.hid (balloc w (.cells #[.slice aw i.nw cw, .int .i64 i.pay, .int .i64 i.me, .int .i64 i.lps, .int .i64 i.seed, .int .i64 i.dice] 87))
  have HP := Lib.hid hpc
  have HIN := Lib.hid hins
  have HBD := Lib.hid hbd
  have HBB := Lib.hid hb
  clear hpc hins hbd hb
  go_enter Tryz.func69, Tryz.ntmps69
  go_upto_region 1 with fail
  generalize w.alloc (.cells #[.slice aw i.nw cw, .int .i64 i.pay, .int .i64 i.me, .int .i64 i.lps, .int .i64 i.seed, .int .i64 i.dice] 87) = u at *
  go_cut [5] (fun p wx => ∃ P bg vw vs, p = .pointer (some ⟨P, 0, none⟩) ∧ RunAt (w.heap.size + 1) P bg vw vs (beginM i) wx ∧ Below w.heap.size w wx ∧ wx.heap[w.heap.size]? = some (.cells #[.slice aw i.nw cw, .int .i64 i.pay, .int .i64 i.me, .int .i64 i.lps, .int .i64 i.seed, .int .i64 i.dice] 87))
  case first =>
    rcases Nat.eq_zero_or_pos i.nw with hz | hnz
    · have HZ := Lib.hid hz
      clear hwc hz
      have ss : (fun w' => w'.cell? ⟨w.heap.size, 0, none⟩ = some (.slice aw i.nw cw) ∧ w'.cell? ⟨w.heap.size, 1, none⟩ = some (.int .i64 i.pay) ∧ w'.cell? ⟨w.heap.size, 2, none⟩ = some (.int .i64 i.me) ∧ w'.cell? ⟨w.heap.size, 3, none⟩ = some (.int .i64 i.lps) ∧ w'.cell? ⟨w.heap.size, 4, none⟩ = some (.int .i64 i.seed) ∧ w'.cell? ⟨w.heap.size, 5, none⟩ = some (.int .i64 i.dice)) u.drew := six_cells7 X1.out
      have X2 : Hid (u.drew.heap[w.heap.size]? = some (.cells #[.slice aw i.nw cw, .int .i64 i.pay, .int .i64 i.me, .int .i64 i.lps, .int .i64 i.seed, .int .i64 i.dice] 87)) := X1.out
      have L2 := Lib.hid B1.out.drew
      refine wp_region_held_drew (S := (fun w' => w'.cell? ⟨w.heap.size, 0, none⟩ = some (.slice aw i.nw cw) ∧ w'.cell? ⟨w.heap.size, 1, none⟩ = some (.int .i64 i.pay) ∧ w'.cell? ⟨w.heap.size, 2, none⟩ = some (.int .i64 i.me) ∧ w'.cell? ⟨w.heap.size, 3, none⟩ = some (.int .i64 i.lps) ∧ w'.cell? ⟨w.heap.size, 4, none⟩ = some (.int .i64 i.seed) ∧ w'.cell? ⟨w.heap.size, 5, none⟩ = some (.int .i64 i.dice))) (by kernel_rfl) ?_ (fun hHeld => ?_)
      · exact ss
      change wpAnyH _ _ _ _ _ _ _ _ (World.drew u)
      clear ss X1 B1
      generalize u.drew = u0 at *
      first | refine tq0 0 rfl ?_ | refine tq1 0 rfl ?_
      try go_frame
      first | refine tq0 1 rfl ?_ | refine tq1 1 rfl ?_
      try go_frame
      first | refine tq0 2 rfl ?_ | refine tq1 2 rfl ?_
      try go_frame
      first | refine tq0 3 rfl ?_ | refine tq1 3 rfl ?_
      try go_frame
      first | refine tq0 4 rfl ?_ | refine tq1 4 rfl ?_
      try go_frame
      first | refine tq0 5 rfl ?_ | refine tq1 5 rfl ?_
      try go_frame
      first | refine tq0 6 rfl ?_ | refine tq1 6 rfl ?_
      try go_frame
      first | refine tq0 7 rfl ?_ | refine tq1 7 rfl ?_
      try go_frame
      first | refine tq0 8 rfl ?_ | refine tq1 8 rfl ?_
      try go_frame
      first | refine tq0 11 rfl ?_ | refine tq1 11 rfl ?_
      try go_frame
      first | refine tq0 12 rfl ?_ | refine tq1 12 rfl ?_
      try go_frame
      first | refine tq0 14 rfl ?_ | refine tq1 14 rfl ?_
      try go_frame
      first | refine tq0 15 rfl ?_ | refine tq1 15 rfl ?_
      try go_frame
      refine wpAnyH_ready (rs := [9, 10]) (by kernel_rfl) (by simp) ?_
      refine AllReadyH.cons (o := ⟨_, _, _, _, _, _⟩) rfl (fun K hK => ?_) (AllReadyH.cons (o := ⟨_, _, _, _, _, _⟩) rfl (fun K hK => ?_) AllReadyH.nil)
      · have XN := Lib.hid ((Below.heap_alloc u0 (.cells #[.int .i64 i.pay, .int .i64 i.me, .int .i64 i.lps, .int .i64 (i.nw : Int), .int .i64 0, .int .i64 0, .int .i64 0, .int .i64 0] 3) _ (lt_of_block X2.out)).trans X2.out)
        have L11 := Lib.hid (L2.out.trans ((balloc u0 (.cells #[.int .i64 i.pay, .int .i64 i.me, .int .i64 i.lps, .int .i64 (i.nw : Int), .int .i64 0, .int .i64 0, .int .i64 0, .int .i64 0] 3)).mono L2.out.size))
        have G11 := Lib.hid (heap_alloc_new u0 (.cells #[.int .i64 i.pay, .int .i64 i.me, .int .i64 i.lps, .int .i64 (i.nw : Int), .int .i64 0, .int .i64 0, .int .i64 0, .int .i64 0] 3))
        have lG := lt_of_block X2.out
        go_simp
        refine hK.out _ _ ?_ (fun hHeld => ?_)
        · exact six_cells7 XN.out
        clear hK K
        try go_frame
        have X11 := XN
        clear XN
        generalize u0.alloc (.cells #[.int .i64 i.pay, .int .i64 i.me, .int .i64 i.lps, .int .i64 (i.nw : Int), .int .i64 0, .int .i64 0, .int .i64 0, .int .i64 0] 3) = u1 at *
        refine wpAnyH_ready (rs := [10]) (by kernel_rfl) (by simp) ?_
        refine AllReadyH.cons (o := ⟨_, _, _, _, _, _⟩) rfl (fun K hK => ?_) AllReadyH.nil
        have XN := Lib.hid ((Below.heap_alloc u1 (.cells #[] 3) _ (lt_of_block X11.out)).trans X11.out)
        have L12 := Lib.hid (L11.out.trans ((balloc u1 (.cells #[] 3)).mono L11.out.size))
        have G12 := Lib.hid ((Below.heap_alloc u1 (.cells #[] 3) _ (lt_of_block G11.out)).trans G11.out)
        have E12 := Lib.hid (World.ownsRow_lit (base := w.heap.size + 1) (e := 3) (size := 1) u1 #[] 0 (lt_of_block X11.out) (by decide) rfl)
        have hne : u1.heap.size ≠ u0.heap.size := by have := lt_of_block G11.out; omega
        go_simp
        refine hK.out _ _ ?_ (fun hHeld => ?_)
        · exact six_cells7 XN.out
        clear hK K
        try go_frame
        have X12 := XN
        clear XN
        generalize u1.alloc (.cells #[] 3) = u2 at *
        refine wpAnyH_ready (rs := [13]) (by kernel_rfl) (by simp) ?_
        refine AllReadyH.cons (o := ⟨_, _, _, _, _, _⟩) rfl (fun K hK => ?_) AllReadyH.nil
        have XN := X12
        have hsrc : Src Tryz.prog i0.size 53 (.slice aw i.nw cw) 0 [] u2 := by
          rw [HZ.out]
          cases aw with
          | none => exact Src.ofNil u2 Tryz.underlying53 cw
          | some ad => exact Src.ofSlice u2 Tryz.underlying53 ad 0 cw [] (by simp) (by simp) (by simp)
        refine step_append_nothing7 rfl (.tmp 18) (.tmp 20) 53 rfl 3 i0 Tryz.underlying53 hi0 (some ⟨u1.heap.size, 0, none⟩) 0 0 (by simp [Act.eval]) (Nat.le_refl _) (.slice aw i.nw cw) (by simp [Act.eval]) hsrc ?_
        refine hK.out _ _ ?_ (fun hHeld => ?_)
        · exact six_cells7 XN.out
        clear hK K
        try go_frame
        clear XN hsrc
        first | refine tq0 16 rfl ?_ | refine tq1 16 rfl ?_
        try go_frame
        refine wpAnyH_ready (rs := [17]) (by kernel_rfl) (by simp) ?_
        refine AllReadyH.cons (o := ⟨_, _, _, _, _, _⟩) rfl (fun K hK => ?_) AllReadyH.nil
        have XN := Lib.hid ((Below.heap_alloc u2 (.cells #[.slice (some ⟨u0.heap.size, 0, none⟩) 8 8, .slice (some ⟨u1.heap.size, 0, none⟩) 0 0, .slice none 0 0, .int .i64 i.dice, .int .i64 0, .int .i64 0, .int .i64 0] 131) _ (lt_of_block X12.out)).trans X12.out)
        have LZ := Lib.hid (L12.out.trans ((balloc u2 (.cells #[.slice (some ⟨u0.heap.size, 0, none⟩) 8 8, .slice (some ⟨u1.heap.size, 0, none⟩) 0 0, .slice none 0 0, .int .i64 i.dice, .int .i64 0, .int .i64 0, .int .i64 0] 131)).mono L12.out.size))
        have RZ : Hid (RunAt (w.heap.size + 1) u2.heap.size (u0.heap.size) (.slice (some ⟨u1.heap.size, 0, none⟩) 0 0) (.slice none 0 0) (beginM i) (u2.alloc (.cells #[.slice (some ⟨u0.heap.size, 0, none⟩) 8 8, .slice (some ⟨u1.heap.size, 0, none⟩) 0 0, .slice none 0 0, .int .i64 i.dice, .int .i64 0, .int .i64 0, .int .i64 0] 131))) :=
          ⟨lt_of_block X12.out, lG, (Below.heap_alloc u2 (.cells #[.slice (some ⟨u0.heap.size, 0, none⟩) 8 8, .slice (some ⟨u1.heap.size, 0, none⟩) 0 0, .slice none 0 0, .int .i64 i.dice, .int .i64 0, .int .i64 0, .int .i64 0] 131) _ (lt_of_block G12.out)).trans G12.out, heap_alloc_new u2 (.cells #[.slice (some ⟨u0.heap.size, 0, none⟩) 8 8, .slice (some ⟨u1.heap.size, 0, none⟩) 0 0, .slice none 0 0, .int .i64 i.dice, .int .i64 0, .int .i64 0, .int .i64 0] 131), by have hh := World.ownsRow.alloc E12.out (.cells #[.slice (some ⟨u0.heap.size, 0, none⟩) 8 8, .slice (some ⟨u1.heap.size, 0, none⟩) 0 0, .slice none 0 0, .int .i64 i.dice, .int .i64 0, .int .i64 0, .int .i64 0] 131); rw [show (beginM i).nw = 0 from HZ.out, rowCells_zero]; exact hh, (by simp only [Value.ownBlock]; exact fun h => hne (Option.some.inj h)), by rw [show (beginM i).ns = 0 from rfl, rowCells_zero]; exact World.ownsRow_nil _ _ _ _⟩
        go_simp
        refine hK.out _ _ ?_ (fun hHeld => ?_)
        · exact six_cells7 XN.out
        clear hK K
        try go_frame
        first | refine tq0 18 rfl ?_ | refine tq1 18 rfl ?_
        try go_frame
        refine wpAnyH_done (by kernel_rfl) ?_ _
        go_wp2_with fail
        go_meet
        exact ⟨_, _, _, _, rfl, RZ.out, LZ.out, XN.out⟩
      · have XN := Lib.hid ((Below.heap_alloc u0 (.cells #[] 3) _ (lt_of_block X2.out)).trans X2.out)
        have L11 := Lib.hid (L2.out.trans ((balloc u0 (.cells #[] 3)).mono L2.out.size))
        have E11 := Lib.hid (World.ownsRow_lit (base := w.heap.size + 1) (e := 3) (size := 1) u0 #[] 0 (lt_of_block X2.out) (by decide) rfl)
        go_simp
        refine hK.out _ _ ?_ (fun hHeld => ?_)
        · exact six_cells7 XN.out
        clear hK K
        try go_frame
        have X11 := XN
        clear XN
        generalize u0.alloc (.cells #[] 3) = u1 at *
        refine wpAnyH_ready (rs := [9, 13]) (by kernel_rfl) (by simp) ?_
        refine AllReadyH.cons (o := ⟨_, _, _, _, _, _⟩) rfl (fun K hK => ?_) (AllReadyH.cons (o := ⟨_, _, _, _, _, _⟩) rfl (fun K hK => ?_) AllReadyH.nil)
        · have XN := Lib.hid ((Below.heap_alloc u1 (.cells #[.int .i64 i.pay, .int .i64 i.me, .int .i64 i.lps, .int .i64 (i.nw : Int), .int .i64 0, .int .i64 0, .int .i64 0, .int .i64 0] 3) _ (lt_of_block X11.out)).trans X11.out)
          have L12 := Lib.hid (L11.out.trans ((balloc u1 (.cells #[.int .i64 i.pay, .int .i64 i.me, .int .i64 i.lps, .int .i64 (i.nw : Int), .int .i64 0, .int .i64 0, .int .i64 0, .int .i64 0] 3)).mono L11.out.size))
          have E12 := Lib.hid (World.ownsRow.alloc E11.out (.cells #[.int .i64 i.pay, .int .i64 i.me, .int .i64 i.lps, .int .i64 (i.nw : Int), .int .i64 0, .int .i64 0, .int .i64 0, .int .i64 0] 3))
          have G12 := Lib.hid (heap_alloc_new u1 (.cells #[.int .i64 i.pay, .int .i64 i.me, .int .i64 i.lps, .int .i64 (i.nw : Int), .int .i64 0, .int .i64 0, .int .i64 0, .int .i64 0] 3))
          have lG := lt_of_block X11.out
          have hne : u0.heap.size ≠ u1.heap.size := by have := own_lt (g := u0.heap.size) E11.out rfl; omega
          go_simp
          refine hK.out _ _ ?_ (fun hHeld => ?_)
          · exact six_cells7 XN.out
          clear hK K
          try go_frame
          have X12 := XN
          clear XN
          generalize u1.alloc (.cells #[.int .i64 i.pay, .int .i64 i.me, .int .i64 i.lps, .int .i64 (i.nw : Int), .int .i64 0, .int .i64 0, .int .i64 0, .int .i64 0] 3) = u2 at *
          refine wpAnyH_ready (rs := [13]) (by kernel_rfl) (by simp) ?_
          refine AllReadyH.cons (o := ⟨_, _, _, _, _, _⟩) rfl (fun K hK => ?_) AllReadyH.nil
          have XN := X12
          have hsrc : Src Tryz.prog i0.size 53 (.slice aw i.nw cw) 0 [] u2 := by
            rw [HZ.out]
            cases aw with
            | none => exact Src.ofNil u2 Tryz.underlying53 cw
            | some ad => exact Src.ofSlice u2 Tryz.underlying53 ad 0 cw [] (by simp) (by simp) (by simp)
          refine step_append_nothing7 rfl (.tmp 18) (.tmp 20) 53 rfl 3 i0 Tryz.underlying53 hi0 (some ⟨u0.heap.size, 0, none⟩) 0 0 (by simp [Act.eval]) (Nat.le_refl _) (.slice aw i.nw cw) (by simp [Act.eval]) hsrc ?_
          refine hK.out _ _ ?_ (fun hHeld => ?_)
          · exact six_cells7 XN.out
          clear hK K
          try go_frame
          clear XN hsrc
          first | refine tq0 16 rfl ?_ | refine tq1 16 rfl ?_
          try go_frame
          refine wpAnyH_ready (rs := [17]) (by kernel_rfl) (by simp) ?_
          refine AllReadyH.cons (o := ⟨_, _, _, _, _, _⟩) rfl (fun K hK => ?_) AllReadyH.nil
          have XN := Lib.hid ((Below.heap_alloc u2 (.cells #[.slice (some ⟨u1.heap.size, 0, none⟩) 8 8, .slice (some ⟨u0.heap.size, 0, none⟩) 0 0, .slice none 0 0, .int .i64 i.dice, .int .i64 0, .int .i64 0, .int .i64 0] 131) _ (lt_of_block X12.out)).trans X12.out)
          have LZ := Lib.hid (L12.out.trans ((balloc u2 (.cells #[.slice (some ⟨u1.heap.size, 0, none⟩) 8 8, .slice (some ⟨u0.heap.size, 0, none⟩) 0 0, .slice none 0 0, .int .i64 i.dice, .int .i64 0, .int .i64 0, .int .i64 0] 131)).mono L12.out.size))
          have RZ : Hid (RunAt (w.heap.size + 1) u2.heap.size (u1.heap.size) (.slice (some ⟨u0.heap.size, 0, none⟩) 0 0) (.slice none 0 0) (beginM i) (u2.alloc (.cells #[.slice (some ⟨u1.heap.size, 0, none⟩) 8 8, .slice (some ⟨u0.heap.size, 0, none⟩) 0 0, .slice none 0 0, .int .i64 i.dice, .int .i64 0, .int .i64 0, .int .i64 0] 131))) :=
            ⟨lt_of_block X12.out, lG, (Below.heap_alloc u2 (.cells #[.slice (some ⟨u1.heap.size, 0, none⟩) 8 8, .slice (some ⟨u0.heap.size, 0, none⟩) 0 0, .slice none 0 0, .int .i64 i.dice, .int .i64 0, .int .i64 0, .int .i64 0] 131) _ (lt_of_block G12.out)).trans G12.out, heap_alloc_new u2 (.cells #[.slice (some ⟨u1.heap.size, 0, none⟩) 8 8, .slice (some ⟨u0.heap.size, 0, none⟩) 0 0, .slice none 0 0, .int .i64 i.dice, .int .i64 0, .int .i64 0, .int .i64 0] 131), by have hh := World.ownsRow.alloc E12.out (.cells #[.slice (some ⟨u1.heap.size, 0, none⟩) 8 8, .slice (some ⟨u0.heap.size, 0, none⟩) 0 0, .slice none 0 0, .int .i64 i.dice, .int .i64 0, .int .i64 0, .int .i64 0] 131); rw [show (beginM i).nw = 0 from HZ.out, rowCells_zero]; exact hh, (by simp only [Value.ownBlock]; exact fun h => hne (Option.some.inj h)), by rw [show (beginM i).ns = 0 from rfl, rowCells_zero]; exact World.ownsRow_nil _ _ _ _⟩
          go_simp
          refine hK.out _ _ ?_ (fun hHeld => ?_)
          · exact six_cells7 XN.out
          clear hK K
          try go_frame
          first | refine tq0 18 rfl ?_ | refine tq1 18 rfl ?_
          try go_frame
          refine wpAnyH_done (by kernel_rfl) ?_ _
          go_wp2_with fail
          go_meet
          exact ⟨_, _, _, _, rfl, RZ.out, LZ.out, XN.out⟩
        · have XN := X11
          have hsrc : Src Tryz.prog i0.size 53 (.slice aw i.nw cw) 0 [] u1 := by
            rw [HZ.out]
            cases aw with
            | none => exact Src.ofNil u1 Tryz.underlying53 cw
            | some ad => exact Src.ofSlice u1 Tryz.underlying53 ad 0 cw [] (by simp) (by simp) (by simp)
          refine step_append_nothing7 rfl (.tmp 18) (.tmp 20) 53 rfl 3 i0 Tryz.underlying53 hi0 (some ⟨u0.heap.size, 0, none⟩) 0 0 (by simp [Act.eval]) (Nat.le_refl _) (.slice aw i.nw cw) (by simp [Act.eval]) hsrc ?_
          refine hK.out _ _ ?_ (fun hHeld => ?_)
          · exact six_cells7 XN.out
          clear hK K
          try go_frame
          clear XN hsrc
          refine wpAnyH_ready (rs := [9]) (by kernel_rfl) (by simp) ?_
          refine AllReadyH.cons (o := ⟨_, _, _, _, _, _⟩) rfl (fun K hK => ?_) AllReadyH.nil
          have XN := Lib.hid ((Below.heap_alloc u1 (.cells #[.int .i64 i.pay, .int .i64 i.me, .int .i64 i.lps, .int .i64 (i.nw : Int), .int .i64 0, .int .i64 0, .int .i64 0, .int .i64 0] 3) _ (lt_of_block X11.out)).trans X11.out)
          have L12 := Lib.hid (L11.out.trans ((balloc u1 (.cells #[.int .i64 i.pay, .int .i64 i.me, .int .i64 i.lps, .int .i64 (i.nw : Int), .int .i64 0, .int .i64 0, .int .i64 0, .int .i64 0] 3)).mono L11.out.size))
          have E12 := Lib.hid (World.ownsRow.alloc E11.out (.cells #[.int .i64 i.pay, .int .i64 i.me, .int .i64 i.lps, .int .i64 (i.nw : Int), .int .i64 0, .int .i64 0, .int .i64 0, .int .i64 0] 3))
          have W12 := Lib.hid (World.ownsRow.alloc E11.out (.cells #[.int .i64 i.pay, .int .i64 i.me, .int .i64 i.lps, .int .i64 (i.nw : Int), .int .i64 0, .int .i64 0, .int .i64 0, .int .i64 0] 3))
          have G12 := Lib.hid (heap_alloc_new u1 (.cells #[.int .i64 i.pay, .int .i64 i.me, .int .i64 i.lps, .int .i64 (i.nw : Int), .int .i64 0, .int .i64 0, .int .i64 0, .int .i64 0] 3))
          have lG := lt_of_block X11.out
          have hne : u0.heap.size ≠ u1.heap.size := by have := own_lt (g := u0.heap.size) E11.out rfl; omega
          have hwne : some u0.heap.size ≠ some u1.heap.size := by have := own_lt (g := u0.heap.size) E11.out rfl; intro h; have := Option.some.inj h; omega
          go_simp
          refine hK.out _ _ ?_ (fun hHeld => ?_)
          · exact six_cells7 XN.out
          clear hK K
          try go_frame
          have X12 := XN
          clear XN
          generalize u1.alloc (.cells #[.int .i64 i.pay, .int .i64 i.me, .int .i64 i.lps, .int .i64 (i.nw : Int), .int .i64 0, .int .i64 0, .int .i64 0, .int .i64 0] 3) = u2 at *
          first | refine tq0 16 rfl ?_ | refine tq1 16 rfl ?_
          try go_frame
          refine wpAnyH_ready (rs := [17]) (by kernel_rfl) (by simp) ?_
          refine AllReadyH.cons (o := ⟨_, _, _, _, _, _⟩) rfl (fun K hK => ?_) AllReadyH.nil
          have XN := Lib.hid ((Below.heap_alloc u2 (.cells #[.slice (some ⟨u1.heap.size, 0, none⟩) 8 8, .slice (some ⟨u0.heap.size, 0, none⟩) 0 0, .slice none 0 0, .int .i64 i.dice, .int .i64 0, .int .i64 0, .int .i64 0] 131) _ (lt_of_block X12.out)).trans X12.out)
          have LZ := Lib.hid (L12.out.trans ((balloc u2 (.cells #[.slice (some ⟨u1.heap.size, 0, none⟩) 8 8, .slice (some ⟨u0.heap.size, 0, none⟩) 0 0, .slice none 0 0, .int .i64 i.dice, .int .i64 0, .int .i64 0, .int .i64 0] 131)).mono L12.out.size))
          have RZ : Hid (RunAt (w.heap.size + 1) u2.heap.size (u1.heap.size) (.slice (some ⟨u0.heap.size, 0, none⟩) 0 0) (.slice none 0 0) (beginM i) (u2.alloc (.cells #[.slice (some ⟨u1.heap.size, 0, none⟩) 8 8, .slice (some ⟨u0.heap.size, 0, none⟩) 0 0, .slice none 0 0, .int .i64 i.dice, .int .i64 0, .int .i64 0, .int .i64 0] 131))) :=
            ⟨lt_of_block X12.out, lG, (Below.heap_alloc u2 (.cells #[.slice (some ⟨u1.heap.size, 0, none⟩) 8 8, .slice (some ⟨u0.heap.size, 0, none⟩) 0 0, .slice none 0 0, .int .i64 i.dice, .int .i64 0, .int .i64 0, .int .i64 0] 131) _ (lt_of_block G12.out)).trans G12.out, heap_alloc_new u2 (.cells #[.slice (some ⟨u1.heap.size, 0, none⟩) 8 8, .slice (some ⟨u0.heap.size, 0, none⟩) 0 0, .slice none 0 0, .int .i64 i.dice, .int .i64 0, .int .i64 0, .int .i64 0] 131), by have hh := World.ownsRow.alloc W12.out (.cells #[.slice (some ⟨u1.heap.size, 0, none⟩) 8 8, .slice (some ⟨u0.heap.size, 0, none⟩) 0 0, .slice none 0 0, .int .i64 i.dice, .int .i64 0, .int .i64 0, .int .i64 0] 131); rw [show (beginM i).nw = 0 from HZ.out, rowCells_zero]; exact hh, hwne, by rw [show (beginM i).ns = 0 from rfl, rowCells_zero]; exact World.ownsRow_nil _ _ _ _⟩
          go_simp
          refine hK.out _ _ ?_ (fun hHeld => ?_)
          · exact six_cells7 XN.out
          clear hK K
          try go_frame
          first | refine tq0 18 rfl ?_ | refine tq1 18 rfl ?_
          try go_frame
          refine wpAnyH_done (by kernel_rfl) ?_ _
          go_wp2_with fail
          go_meet
          exact ⟨_, _, _, _, rfl, RZ.out, LZ.out, XN.out⟩
    · obtain ⟨bw, ow, rfl, hat⟩ := hwc hnz
      have HWA := Lib.hid hat
      clear hat hwc
      have ss : (fun w' => w'.cell? ⟨w.heap.size, 0, none⟩ = some (.slice (some ⟨bw, ow, none⟩) i.nw cw) ∧ w'.cell? ⟨w.heap.size, 1, none⟩ = some (.int .i64 i.pay) ∧ w'.cell? ⟨w.heap.size, 2, none⟩ = some (.int .i64 i.me) ∧ w'.cell? ⟨w.heap.size, 3, none⟩ = some (.int .i64 i.lps) ∧ w'.cell? ⟨w.heap.size, 4, none⟩ = some (.int .i64 i.seed) ∧ w'.cell? ⟨w.heap.size, 5, none⟩ = some (.int .i64 i.dice)) u.drew := six_cells7 X1.out
      have X2 : Hid (u.drew.heap[w.heap.size]? = some (.cells #[.slice (some ⟨bw, ow, none⟩) i.nw cw, .int .i64 i.pay, .int .i64 i.me, .int .i64 i.lps, .int .i64 i.seed, .int .i64 i.dice] 87)) := X1.out
      have L2 := Lib.hid B1.out.drew
      refine wp_region_held_drew (S := (fun w' => w'.cell? ⟨w.heap.size, 0, none⟩ = some (.slice (some ⟨bw, ow, none⟩) i.nw cw) ∧ w'.cell? ⟨w.heap.size, 1, none⟩ = some (.int .i64 i.pay) ∧ w'.cell? ⟨w.heap.size, 2, none⟩ = some (.int .i64 i.me) ∧ w'.cell? ⟨w.heap.size, 3, none⟩ = some (.int .i64 i.lps) ∧ w'.cell? ⟨w.heap.size, 4, none⟩ = some (.int .i64 i.seed) ∧ w'.cell? ⟨w.heap.size, 5, none⟩ = some (.int .i64 i.dice))) (by kernel_rfl) ?_ (fun hHeld => ?_)
      · exact ss
      change wpAnyH _ _ _ _ _ _ _ _ (World.drew u)
      clear ss X1 B1
      generalize u.drew = u0 at *
      first | refine tq0 0 rfl ?_ | refine tq1 0 rfl ?_
      try go_frame
      first | refine tq0 1 rfl ?_ | refine tq1 1 rfl ?_
      try go_frame
      first | refine tq0 2 rfl ?_ | refine tq1 2 rfl ?_
      try go_frame
      first | refine tq0 3 rfl ?_ | refine tq1 3 rfl ?_
      try go_frame
      first | refine tq0 4 rfl ?_ | refine tq1 4 rfl ?_
      try go_frame
      first | refine tq0 5 rfl ?_ | refine tq1 5 rfl ?_
      try go_frame
      first | refine tq0 6 rfl ?_ | refine tq1 6 rfl ?_
      try go_frame
      first | refine tq0 7 rfl ?_ | refine tq1 7 rfl ?_
      try go_frame
      first | refine tq0 8 rfl ?_ | refine tq1 8 rfl ?_
      try go_frame
      first | refine tq0 11 rfl ?_ | refine tq1 11 rfl ?_
      try go_frame
      first | refine tq0 12 rfl ?_ | refine tq1 12 rfl ?_
      try go_frame
      first | refine tq0 14 rfl ?_ | refine tq1 14 rfl ?_
      try go_frame
      first | refine tq0 15 rfl ?_ | refine tq1 15 rfl ?_
      try go_frame
      refine wpAnyH_ready (rs := [9, 10]) (by kernel_rfl) (by simp) ?_
      refine AllReadyH.cons (o := ⟨_, _, _, _, _, _⟩) rfl (fun K hK => ?_) (AllReadyH.cons (o := ⟨_, _, _, _, _, _⟩) rfl (fun K hK => ?_) AllReadyH.nil)
      · have XN := Lib.hid ((Below.heap_alloc u0 (.cells #[.int .i64 i.pay, .int .i64 i.me, .int .i64 i.lps, .int .i64 (i.nw : Int), .int .i64 0, .int .i64 0, .int .i64 0, .int .i64 0] 3) _ (lt_of_block X2.out)).trans X2.out)
        have L11 := Lib.hid (L2.out.trans ((balloc u0 (.cells #[.int .i64 i.pay, .int .i64 i.me, .int .i64 i.lps, .int .i64 (i.nw : Int), .int .i64 0, .int .i64 0, .int .i64 0, .int .i64 0] 3)).mono L2.out.size))
        have G11 := Lib.hid (heap_alloc_new u0 (.cells #[.int .i64 i.pay, .int .i64 i.me, .int .i64 i.lps, .int .i64 (i.nw : Int), .int .i64 0, .int .i64 0, .int .i64 0, .int .i64 0] 3))
        have lG := lt_of_block X2.out
        go_simp
        refine hK.out _ _ ?_ (fun hHeld => ?_)
        · exact six_cells7 XN.out
        clear hK K
        try go_frame
        have X11 := XN
        clear XN
        generalize u0.alloc (.cells #[.int .i64 i.pay, .int .i64 i.me, .int .i64 i.lps, .int .i64 (i.nw : Int), .int .i64 0, .int .i64 0, .int .i64 0, .int .i64 0] 3) = u1 at *
        refine wpAnyH_ready (rs := [10]) (by kernel_rfl) (by simp) ?_
        refine AllReadyH.cons (o := ⟨_, _, _, _, _, _⟩) rfl (fun K hK => ?_) AllReadyH.nil
        have XN := Lib.hid ((Below.heap_alloc u1 (.cells #[] 3) _ (lt_of_block X11.out)).trans X11.out)
        have L12 := Lib.hid (L11.out.trans ((balloc u1 (.cells #[] 3)).mono L11.out.size))
        have G12 := Lib.hid ((Below.heap_alloc u1 (.cells #[] 3) _ (lt_of_block G11.out)).trans G11.out)
        have E12 := Lib.hid (World.ownsRow_lit (base := w.heap.size + 1) (e := 3) (size := 1) u1 #[] 0 (lt_of_block X11.out) (by decide) rfl)
        have hne : u1.heap.size ≠ u0.heap.size := by have := lt_of_block G11.out; omega
        go_simp
        refine hK.out _ _ ?_ (fun hHeld => ?_)
        · exact six_cells7 XN.out
        clear hK K
        try go_frame
        have X12 := XN
        clear XN
        generalize u1.alloc (.cells #[] 3) = u2 at *
        refine wpAnyH_ready (rs := [13]) (by kernel_rfl) (by simp) ?_
        refine AllReadyH.cons (o := ⟨_, _, _, _, _, _⟩) rfl (fun K hK => ?_) AllReadyH.nil
        refine step_append_lies _ rfl (.tmp 18) (.tmp 20) 53 rfl (w.heap.size + 1) 3 i0 (.int .i64 0) 1 8 Tryz.underlying53 hi0 hz0 hz1 hz2 rfl (by decide) (.slice (some ⟨u1.heap.size, 0, none⟩) 0 0) 0 [] (by simp [Act.eval]) E12.out ⟨bw, ow, none⟩ i.nw cw (rowCells 1 (gW i.w) i.nw) (by simp [Act.eval]) (rowCells_len _ _ _) (at_news (HWA.out.below L12.out)) (row_one _ _) hnz (by unfold maxLen; omega) (by omega) (lt_of_block X12.out) _ rfl ?_
        intro g1 cap1 u3 hown hgr hor hgl
        rw [Nat.zero_add, List.nil_append] at hown
        rw [show 0 + i.nw = i.nw from Nat.zero_add _]
        have W13 := Lib.hid hown
        have L13 := Lib.hid (L12.out.trans ((below_grown E12.out (lt_of_block X12.out) hgr).mono (Nat.le_succ _)))
        have XN := Lib.hid (grown_keep7 E12.out hgr X12.out (by decide))
        have G13 := Lib.hid ((hgr.block _ (lt_of_block G12.out) (by simp only [Value.ownBlock]; exact fun h => hne (Option.some.inj h).symm)).trans G12.out)
        have hwne : some g1 ≠ some u0.heap.size := by
          have lg := lt_of_block G12.out
          intro h
          have h := Option.some.inj h
          rcases hor with h2 | h2
          · exact hne ((Option.some.inj h2).trans h)
          · omega
        refine hK.out _ _ ?_ (fun hHeld => ?_)
        · exact six_cells7 XN.out
        clear hK K
        try go_frame
        have X13 := XN
        clear XN hown hgr hor hgl
        first | refine tq0 16 rfl ?_ | refine tq1 16 rfl ?_
        try go_frame
        refine wpAnyH_ready (rs := [17]) (by kernel_rfl) (by simp) ?_
        refine AllReadyH.cons (o := ⟨_, _, _, _, _, _⟩) rfl (fun K hK => ?_) AllReadyH.nil
        have XN := Lib.hid ((Below.heap_alloc u3 (.cells #[.slice (some ⟨u0.heap.size, 0, none⟩) 8 8, .slice (some ⟨g1, 0, none⟩) i.nw cap1, .slice none 0 0, .int .i64 i.dice, .int .i64 0, .int .i64 0, .int .i64 0] 131) _ (lt_of_block X13.out)).trans X13.out)
        have LZ := Lib.hid (L13.out.trans ((balloc u3 (.cells #[.slice (some ⟨u0.heap.size, 0, none⟩) 8 8, .slice (some ⟨g1, 0, none⟩) i.nw cap1, .slice none 0 0, .int .i64 i.dice, .int .i64 0, .int .i64 0, .int .i64 0] 131)).mono L13.out.size))
        have RZ : Hid (RunAt (w.heap.size + 1) u3.heap.size (u0.heap.size) (.slice (some ⟨g1, 0, none⟩) i.nw cap1) (.slice none 0 0) (beginM i) (u3.alloc (.cells #[.slice (some ⟨u0.heap.size, 0, none⟩) 8 8, .slice (some ⟨g1, 0, none⟩) i.nw cap1, .slice none 0 0, .int .i64 i.dice, .int .i64 0, .int .i64 0, .int .i64 0] 131))) :=
          ⟨lt_of_block X13.out, lG, (Below.heap_alloc u3 (.cells #[.slice (some ⟨u0.heap.size, 0, none⟩) 8 8, .slice (some ⟨g1, 0, none⟩) i.nw cap1, .slice none 0 0, .int .i64 i.dice, .int .i64 0, .int .i64 0, .int .i64 0] 131) _ (lt_of_block G13.out)).trans G13.out, heap_alloc_new u3 (.cells #[.slice (some ⟨u0.heap.size, 0, none⟩) 8 8, .slice (some ⟨g1, 0, none⟩) i.nw cap1, .slice none 0 0, .int .i64 i.dice, .int .i64 0, .int .i64 0, .int .i64 0] 131),  World.ownsRow.alloc W13.out (.cells #[.slice (some ⟨u0.heap.size, 0, none⟩) 8 8, .slice (some ⟨g1, 0, none⟩) i.nw cap1, .slice none 0 0, .int .i64 i.dice, .int .i64 0, .int .i64 0, .int .i64 0] 131), hwne, by rw [show (beginM i).ns = 0 from rfl, rowCells_zero]; exact World.ownsRow_nil _ _ _ _⟩
        go_simp
        refine hK.out _ _ ?_ (fun hHeld => ?_)
        · exact six_cells7 XN.out
        clear hK K
        try go_frame
        first | refine tq0 18 rfl ?_ | refine tq1 18 rfl ?_
        try go_frame
        refine wpAnyH_done (by kernel_rfl) ?_ _
        go_wp2_with fail
        go_meet
        exact ⟨_, _, _, _, rfl, RZ.out, LZ.out, XN.out⟩
      · have XN := Lib.hid ((Below.heap_alloc u0 (.cells #[] 3) _ (lt_of_block X2.out)).trans X2.out)
        have L11 := Lib.hid (L2.out.trans ((balloc u0 (.cells #[] 3)).mono L2.out.size))
        have E11 := Lib.hid (World.ownsRow_lit (base := w.heap.size + 1) (e := 3) (size := 1) u0 #[] 0 (lt_of_block X2.out) (by decide) rfl)
        go_simp
        refine hK.out _ _ ?_ (fun hHeld => ?_)
        · exact six_cells7 XN.out
        clear hK K
        try go_frame
        have X11 := XN
        clear XN
        generalize u0.alloc (.cells #[] 3) = u1 at *
        refine wpAnyH_ready (rs := [9, 13]) (by kernel_rfl) (by simp) ?_
        refine AllReadyH.cons (o := ⟨_, _, _, _, _, _⟩) rfl (fun K hK => ?_) (AllReadyH.cons (o := ⟨_, _, _, _, _, _⟩) rfl (fun K hK => ?_) AllReadyH.nil)
        · have XN := Lib.hid ((Below.heap_alloc u1 (.cells #[.int .i64 i.pay, .int .i64 i.me, .int .i64 i.lps, .int .i64 (i.nw : Int), .int .i64 0, .int .i64 0, .int .i64 0, .int .i64 0] 3) _ (lt_of_block X11.out)).trans X11.out)
          have L12 := Lib.hid (L11.out.trans ((balloc u1 (.cells #[.int .i64 i.pay, .int .i64 i.me, .int .i64 i.lps, .int .i64 (i.nw : Int), .int .i64 0, .int .i64 0, .int .i64 0, .int .i64 0] 3)).mono L11.out.size))
          have E12 := Lib.hid (World.ownsRow.alloc E11.out (.cells #[.int .i64 i.pay, .int .i64 i.me, .int .i64 i.lps, .int .i64 (i.nw : Int), .int .i64 0, .int .i64 0, .int .i64 0, .int .i64 0] 3))
          have G12 := Lib.hid (heap_alloc_new u1 (.cells #[.int .i64 i.pay, .int .i64 i.me, .int .i64 i.lps, .int .i64 (i.nw : Int), .int .i64 0, .int .i64 0, .int .i64 0, .int .i64 0] 3))
          have lG := lt_of_block X11.out
          have hne : u0.heap.size ≠ u1.heap.size := by have := own_lt (g := u0.heap.size) E11.out rfl; omega
          go_simp
          refine hK.out _ _ ?_ (fun hHeld => ?_)
          · exact six_cells7 XN.out
          clear hK K
          try go_frame
          have X12 := XN
          clear XN
          generalize u1.alloc (.cells #[.int .i64 i.pay, .int .i64 i.me, .int .i64 i.lps, .int .i64 (i.nw : Int), .int .i64 0, .int .i64 0, .int .i64 0, .int .i64 0] 3) = u2 at *
          refine wpAnyH_ready (rs := [13]) (by kernel_rfl) (by simp) ?_
          refine AllReadyH.cons (o := ⟨_, _, _, _, _, _⟩) rfl (fun K hK => ?_) AllReadyH.nil
          refine step_append_lies _ rfl (.tmp 18) (.tmp 20) 53 rfl (w.heap.size + 1) 3 i0 (.int .i64 0) 1 8 Tryz.underlying53 hi0 hz0 hz1 hz2 rfl (by decide) (.slice (some ⟨u0.heap.size, 0, none⟩) 0 0) 0 [] (by simp [Act.eval]) E12.out ⟨bw, ow, none⟩ i.nw cw (rowCells 1 (gW i.w) i.nw) (by simp [Act.eval]) (rowCells_len _ _ _) (at_news (HWA.out.below L12.out)) (row_one _ _) hnz (by unfold maxLen; omega) (by omega) (lt_of_block X12.out) _ rfl ?_
          intro g1 cap1 u3 hown hgr hor hgl
          rw [Nat.zero_add, List.nil_append] at hown
          rw [show 0 + i.nw = i.nw from Nat.zero_add _]
          have W13 := Lib.hid hown
          have L13 := Lib.hid (L12.out.trans ((below_grown E12.out (lt_of_block X12.out) hgr).mono (Nat.le_succ _)))
          have XN := Lib.hid (grown_keep7 E12.out hgr X12.out (by decide))
          have G13 := Lib.hid ((hgr.block _ (lt_of_block G12.out) (by simp only [Value.ownBlock]; exact fun h => hne (Option.some.inj h).symm)).trans G12.out)
          have hwne : some g1 ≠ some u1.heap.size := by
            have lg := lt_of_block G12.out
            intro h
            have h := Option.some.inj h
            rcases hor with h2 | h2
            · exact hne ((Option.some.inj h2).trans h)
            · omega
          refine hK.out _ _ ?_ (fun hHeld => ?_)
          · exact six_cells7 XN.out
          clear hK K
          try go_frame
          have X13 := XN
          clear XN hown hgr hor hgl
          first | refine tq0 16 rfl ?_ | refine tq1 16 rfl ?_
          try go_frame
          refine wpAnyH_ready (rs := [17]) (by kernel_rfl) (by simp) ?_
          refine AllReadyH.cons (o := ⟨_, _, _, _, _, _⟩) rfl (fun K hK => ?_) AllReadyH.nil
          have XN := Lib.hid ((Below.heap_alloc u3 (.cells #[.slice (some ⟨u1.heap.size, 0, none⟩) 8 8, .slice (some ⟨g1, 0, none⟩) i.nw cap1, .slice none 0 0, .int .i64 i.dice, .int .i64 0, .int .i64 0, .int .i64 0] 131) _ (lt_of_block X13.out)).trans X13.out)
          have LZ := Lib.hid (L13.out.trans ((balloc u3 (.cells #[.slice (some ⟨u1.heap.size, 0, none⟩) 8 8, .slice (some ⟨g1, 0, none⟩) i.nw cap1, .slice none 0 0, .int .i64 i.dice, .int .i64 0, .int .i64 0, .int .i64 0] 131)).mono L13.out.size))
          have RZ : Hid (RunAt (w.heap.size + 1) u3.heap.size (u1.heap.size) (.slice (some ⟨g1, 0, none⟩) i.nw cap1) (.slice none 0 0) (beginM i) (u3.alloc (.cells #[.slice (some ⟨u1.heap.size, 0, none⟩) 8 8, .slice (some ⟨g1, 0, none⟩) i.nw cap1, .slice none 0 0, .int .i64 i.dice, .int .i64 0, .int .i64 0, .int .i64 0] 131))) :=
            ⟨lt_of_block X13.out, lG, (Below.heap_alloc u3 (.cells #[.slice (some ⟨u1.heap.size, 0, none⟩) 8 8, .slice (some ⟨g1, 0, none⟩) i.nw cap1, .slice none 0 0, .int .i64 i.dice, .int .i64 0, .int .i64 0, .int .i64 0] 131) _ (lt_of_block G13.out)).trans G13.out, heap_alloc_new u3 (.cells #[.slice (some ⟨u1.heap.size, 0, none⟩) 8 8, .slice (some ⟨g1, 0, none⟩) i.nw cap1, .slice none 0 0, .int .i64 i.dice, .int .i64 0, .int .i64 0, .int .i64 0] 131),  World.ownsRow.alloc W13.out (.cells #[.slice (some ⟨u1.heap.size, 0, none⟩) 8 8, .slice (some ⟨g1, 0, none⟩) i.nw cap1, .slice none 0 0, .int .i64 i.dice, .int .i64 0, .int .i64 0, .int .i64 0] 131), hwne, by rw [show (beginM i).ns = 0 from rfl, rowCells_zero]; exact World.ownsRow_nil _ _ _ _⟩
          go_simp
          refine hK.out _ _ ?_ (fun hHeld => ?_)
          · exact six_cells7 XN.out
          clear hK K
          try go_frame
          first | refine tq0 18 rfl ?_ | refine tq1 18 rfl ?_
          try go_frame
          refine wpAnyH_done (by kernel_rfl) ?_ _
          go_wp2_with fail
          go_meet
          exact ⟨_, _, _, _, rfl, RZ.out, LZ.out, XN.out⟩
        · refine step_append_lies _ rfl (.tmp 18) (.tmp 20) 53 rfl (w.heap.size + 1) 3 i0 (.int .i64 0) 1 8 Tryz.underlying53 hi0 hz0 hz1 hz2 rfl (by decide) (.slice (some ⟨u0.heap.size, 0, none⟩) 0 0) 0 [] (by simp [Act.eval]) E11.out ⟨bw, ow, none⟩ i.nw cw (rowCells 1 (gW i.w) i.nw) (by simp [Act.eval]) (rowCells_len _ _ _) (at_news (HWA.out.below L11.out)) (row_one _ _) hnz (by unfold maxLen; omega) (by omega) (lt_of_block X11.out) _ rfl ?_
          intro g1 cap1 u2 hown hgr hor hgl
          rw [Nat.zero_add, List.nil_append] at hown
          rw [show 0 + i.nw = i.nw from Nat.zero_add _]
          have W12 := Lib.hid hown
          have L12 := Lib.hid (L11.out.trans ((below_grown E11.out (lt_of_block X11.out) hgr).mono (Nat.le_succ _)))
          have XN := Lib.hid (grown_keep7 E11.out hgr X11.out (by decide))
          refine hK.out _ _ ?_ (fun hHeld => ?_)
          · exact six_cells7 XN.out
          clear hK K
          try go_frame
          have X12 := XN
          clear XN hown hgr hor hgl
          refine wpAnyH_ready (rs := [9]) (by kernel_rfl) (by simp) ?_
          refine AllReadyH.cons (o := ⟨_, _, _, _, _, _⟩) rfl (fun K hK => ?_) AllReadyH.nil
          have XN := Lib.hid ((Below.heap_alloc u2 (.cells #[.int .i64 i.pay, .int .i64 i.me, .int .i64 i.lps, .int .i64 (i.nw : Int), .int .i64 0, .int .i64 0, .int .i64 0, .int .i64 0] 3) _ (lt_of_block X12.out)).trans X12.out)
          have L13 := Lib.hid (L12.out.trans ((balloc u2 (.cells #[.int .i64 i.pay, .int .i64 i.me, .int .i64 i.lps, .int .i64 (i.nw : Int), .int .i64 0, .int .i64 0, .int .i64 0, .int .i64 0] 3)).mono L12.out.size))
          have W13 := Lib.hid (World.ownsRow.alloc W12.out (.cells #[.int .i64 i.pay, .int .i64 i.me, .int .i64 i.lps, .int .i64 (i.nw : Int), .int .i64 0, .int .i64 0, .int .i64 0, .int .i64 0] 3))
          have G13 := Lib.hid (heap_alloc_new u2 (.cells #[.int .i64 i.pay, .int .i64 i.me, .int .i64 i.lps, .int .i64 (i.nw : Int), .int .i64 0, .int .i64 0, .int .i64 0, .int .i64 0] 3))
          have lG := lt_of_block X12.out
          have hwne : some g1 ≠ some u2.heap.size := by have := own_lt (g := g1) W12.out rfl; intro h; have := Option.some.inj h; omega
          go_simp
          refine hK.out _ _ ?_ (fun hHeld => ?_)
          · exact six_cells7 XN.out
          clear hK K
          try go_frame
          have X13 := XN
          clear XN
          generalize u2.alloc (.cells #[.int .i64 i.pay, .int .i64 i.me, .int .i64 i.lps, .int .i64 (i.nw : Int), .int .i64 0, .int .i64 0, .int .i64 0, .int .i64 0] 3) = u3 at *
          first | refine tq0 16 rfl ?_ | refine tq1 16 rfl ?_
          try go_frame
          refine wpAnyH_ready (rs := [17]) (by kernel_rfl) (by simp) ?_
          refine AllReadyH.cons (o := ⟨_, _, _, _, _, _⟩) rfl (fun K hK => ?_) AllReadyH.nil
          have XN := Lib.hid ((Below.heap_alloc u3 (.cells #[.slice (some ⟨u2.heap.size, 0, none⟩) 8 8, .slice (some ⟨g1, 0, none⟩) i.nw cap1, .slice none 0 0, .int .i64 i.dice, .int .i64 0, .int .i64 0, .int .i64 0] 131) _ (lt_of_block X13.out)).trans X13.out)
          have LZ := Lib.hid (L13.out.trans ((balloc u3 (.cells #[.slice (some ⟨u2.heap.size, 0, none⟩) 8 8, .slice (some ⟨g1, 0, none⟩) i.nw cap1, .slice none 0 0, .int .i64 i.dice, .int .i64 0, .int .i64 0, .int .i64 0] 131)).mono L13.out.size))
          have RZ : Hid (RunAt (w.heap.size + 1) u3.heap.size (u2.heap.size) (.slice (some ⟨g1, 0, none⟩) i.nw cap1) (.slice none 0 0) (beginM i) (u3.alloc (.cells #[.slice (some ⟨u2.heap.size, 0, none⟩) 8 8, .slice (some ⟨g1, 0, none⟩) i.nw cap1, .slice none 0 0, .int .i64 i.dice, .int .i64 0, .int .i64 0, .int .i64 0] 131))) :=
            ⟨lt_of_block X13.out, lG, (Below.heap_alloc u3 (.cells #[.slice (some ⟨u2.heap.size, 0, none⟩) 8 8, .slice (some ⟨g1, 0, none⟩) i.nw cap1, .slice none 0 0, .int .i64 i.dice, .int .i64 0, .int .i64 0, .int .i64 0] 131) _ (lt_of_block G13.out)).trans G13.out, heap_alloc_new u3 (.cells #[.slice (some ⟨u2.heap.size, 0, none⟩) 8 8, .slice (some ⟨g1, 0, none⟩) i.nw cap1, .slice none 0 0, .int .i64 i.dice, .int .i64 0, .int .i64 0, .int .i64 0] 131),  World.ownsRow.alloc W13.out (.cells #[.slice (some ⟨u2.heap.size, 0, none⟩) 8 8, .slice (some ⟨g1, 0, none⟩) i.nw cap1, .slice none 0 0, .int .i64 i.dice, .int .i64 0, .int .i64 0, .int .i64 0] 131), hwne, by rw [show (beginM i).ns = 0 from rfl, rowCells_zero]; exact World.ownsRow_nil _ _ _ _⟩
          go_simp
          refine hK.out _ _ ?_ (fun hHeld => ?_)
          · exact six_cells7 XN.out
          clear hK K
          try go_frame
          first | refine tq0 18 rfl ?_ | refine tq1 18 rfl ?_
          try go_frame
          refine wpAnyH_done (by kernel_rfl) ?_ _
          go_wp2_with fail
          go_meet
          exact ⟨_, _, _, _, rfl, RZ.out, LZ.out, XN.out⟩
  case rest =>
    obtain ⟨P, bg, vw, vs, rfl, hr, hl, hx⟩ := hcut
    clear X1 B1
    go_wp2_with fail
    go_loopg [] 120 (fun k wr => ∃ r vs, RunAt (w.heap.size + 1) P bg vw vs r wr ∧ Below w.heap.size w wr ∧ wr.heap[w.heap.size]? = some (.cells #[.slice aw i.nw cw, .int .i64 i.pay, .int .i64 i.me, .int .i64 i.lps, .int .i64 i.seed, .int .i64 i.dice] 87) ∧ r.n + k = 120 ∧ runM pr pl i.lps i.seed i.me k r = wholeM pr pl i ∧ Bd r)
    case atStart => exact ⟨beginM i, vs, hr, hl, hx, rfl, rfl, HBD.out⟩
    case round =>
      clear hr hl hx
      obtain ⟨r, vs, hr, hl, hx, hk, he, hbd⟩ := hrel
      have RU := Lib.hid hr
      have LU := Lib.hid hl
      have XU := Lib.hid hx
      have HE := Lib.hid he
      have HB := Lib.hid hbd
      obtain ⟨p0, p1, p2, p3, p4, p5, p6, pf⟩ := hr.cells
      obtain ⟨n0, n1, n2, n3, n4, n5⟩ := six_cells7 hx
      clear hr hl hx he hbd
      by_cases hpc : r.pc < pl
      · have d1 : decide ((r.pc : Int) < (pl : Int)) = true := by rw [decide_eq_true_eq]; omega
        cases gk with
        | zero =>
          have dn : ((r.n : Int) == 120) = true := by simp; omega
          have HPC := Lib.hid hpc
          clear hpc hk
          go_wp2_with fail
          go_ret
          exact ⟨P, bg, vw, vs, rfl, by rw [← HE.out, runM_fuel HPC.out]; exact RU.out.setF 1, LU.out.setCell (p := ⟨P, 6, none⟩) (Nat.le_of_succ_le RU.out.lo) _⟩
        | succ k =>
          have dn : ((r.n : Int) == 120) = false := by simp; omega
          have hn : r.n < 120 := by omega
          have bpc : ((r.pc : Nat) : Int) < (pl : Int) := by omega
          have lpc : (0 : Int) ≤ ((r.pc : Nat) : Int) := by omega
          have tpc : ((r.pc : Nat) : Int).toNat = r.pc := by omega
          obtain ⟨b, o, rfl, hat⟩ := HP.out (by omega)
          have HAT := Lib.hid (hat.below LU.out)
          have hwP : w.heap.size ≠ P := by have := RU.out.lo; omega
          have HK := Lib.hid hk
          have hPlo : w.heap.size ≤ P := Nat.le_of_succ_le RU.out.lo
          have R5 : Hid (RunAt (w.heap.size + 1) P bg vw vs { r with n := r.n + 1 } (wr.setCell ⟨P, 5, none⟩ (.int .i64 ((r.n : Int) + 1)))) := RU.out.setN (r.n + 1)
          have L5 : Hid (Below w.heap.size w (wr.setCell ⟨P, 5, none⟩ (.int .i64 ((r.n : Int) + 1)))) := LU.out.setCell (p := ⟨P, 5, none⟩) hPlo _
          have X5 : Hid ((wr.setCell ⟨P, 5, none⟩ (.int .i64 ((r.n : Int) + 1))).heap[w.heap.size]? = some (.cells #[.slice aw i.nw cw, .int .i64 i.pay, .int .i64 i.me, .int .i64 i.lps, .int .i64 i.seed, .int .i64 i.dice] 87)) := (Below.heap_setCell wr ⟨P, 5, none⟩ _ _ hwP).trans XU.out
          have C5 := Lib.hid (hat.below L5.out)
          have HHPC := Lib.hid hpc
          clear hk HAT hat
          go_upto_region 7 with fail
          generalize wr.setCell ⟨P, 5, none⟩ (.int .i64 ((r.n : Int) + 1)) = w5 at *
          clear p0 p1 p2 p3 p4 p5 p6 pf n0 n1 n2 n3 n4 n5 RU LU XU
          obtain ⟨p0, p1, p2, p3, p4, p5, p6, pf⟩ := R5.out.cells
          have c0 : w5.cell? ⟨b, o + r.pc * 4, none⟩ = some (.int .i64 (pr r.pc).op) := C5.out.2 r.pc HHPC.out 0 (by omega)
          have c1 : w5.cell? ⟨b, o + r.pc * 4 + 1, none⟩ = some (.int .i64 (pr r.pc).a) := C5.out.2 r.pc HHPC.out 1 (by omega)
          have c2 : w5.cell? ⟨b, o + r.pc * 4 + 2, none⟩ = some (.int .i64 (pr r.pc).b) := C5.out.2 r.pc HHPC.out 2 (by omega)
          have c3 : w5.cell? ⟨b, o + r.pc * 4 + 3, none⟩ = some (.int .i64 (pr r.pc).c) := C5.out.2 r.pc HHPC.out 3 (by omega)
          have R6 := Lib.hid (R5.out.below (balloc w5 (.cells #[.int .i64 (pr r.pc).op, .int .i64 (pr r.pc).a, .int .i64 (pr r.pc).b, .int .i64 (pr r.pc).c] 99)))
          have L6 := Lib.hid (L5.out.trans ((balloc w5 (.cells #[.int .i64 (pr r.pc).op, .int .i64 (pr r.pc).a, .int .i64 (pr r.pc).b, .int .i64 (pr r.pc).c] 99)).mono L5.out.size))
          have X6 := Lib.hid ((Below.heap_alloc w5 (.cells #[.int .i64 (pr r.pc).op, .int .i64 (pr r.pc).a, .int .i64 (pr r.pc).b, .int .i64 (pr r.pc).c] 99) _ (lt_of_block X5.out)).trans X5.out)
          have XB6 := Lib.hid (heap_alloc_new w5 (.cells #[.int .i64 (pr r.pc).op, .int .i64 (pr r.pc).a, .int .i64 (pr r.pc).b, .int .i64 (pr r.pc).c] 99))
          have hxP : w5.heap.size ≠ P := by have := lt_of_block R5.out.box; omega
          go_upto_region 8 with fail
          clear p0 p1 p2 p3 p4 p5 p6 pf c0 c1 c2 c3 C5 R5 L5 X5
          generalize w5.alloc (.cells #[.int .i64 (pr r.pc).op, .int .i64 (pr r.pc).a, .int .i64 (pr r.pc).b, .int .i64 (pr r.pc).c] 99) = w6 at *
          generalize w5.heap.size = xb at *
          obtain ⟨p0, p1, p2, p3, p4, p5, p6, pf⟩ := R6.out.cells
          have R8 : Hid (RunAt (w.heap.size + 1) P bg vw vs { r with n := r.n + 1, pc := r.pc + 1 } (w6.setCell ⟨P, 4, none⟩ (.int .i64 ((r.pc : Int) + 1)))) := R6.out.setPc (r.pc + 1)
          have L8 : Hid (Below w.heap.size w (w6.setCell ⟨P, 4, none⟩ (.int .i64 ((r.pc : Int) + 1)))) := L6.out.setCell (p := ⟨P, 4, none⟩) hPlo _
          have X8 := Lib.hid ((Below.heap_setCell w6 ⟨P, 4, none⟩ (.int .i64 ((r.pc : Int) + 1)) _ hwP).trans X6.out)
          have XB := Lib.hid ((Below.heap_setCell w6 ⟨P, 4, none⟩ (.int .i64 ((r.pc : Int) + 1)) _ hxP).trans XB6.out)
          go_upto_region 9 with fail
          clear p0 p1 p2 p3 p4 p5 p6 pf R6 L6 X6 XB6
          generalize w6.setCell ⟨P, 4, none⟩ (.int .i64 ((r.pc : Int) + 1)) = w8 at *
          obtain ⟨p0, p1, p2, p3, p4, p5, p6, pf⟩ := R8.out.cells
          obtain ⟨n0, n1, n2, n3, n4, n5⟩ := six_cells7 X8.out
          obtain ⟨x0, x1, x2, x3⟩ := four_cells XB.out
          by_cases h0 : (pr r.pc).op = 0
          · have e0 := Lib.hid (runM_halt (lps := i.lps) (seed := i.seed) (me := i.me) (k := k) HHPC.out h0)
            rw [h0] at x0
            clear h0
            go_wp2_with fail
            go_ret
            exact ⟨P, bg, vw, vs, rfl, by rw [← HE.out, e0.out]; exact R8.out, L8.out⟩
          · have d0 : ((pr r.pc).op == 0) = false := by simp [h0]
            have HO := Lib.hid (one7_any (pr r.pc) pl (HIN.out r.pc HHPC.out) h0 (r := { r with n := r.n + 1, pc := r.pc + 1 }) ⟨HB.out.g, HB.out.w⟩ (.slice aw i.nw cw) i.pay i.me i.lps i.seed i.dice w8 R8.out (lt_of_block X8.out))
            have H0 := Lib.hid h0
            clear h0
            by_cases hf : oneF (pr r.pc) i.lps { r with n := r.n + 1, pc := r.pc + 1 } = 0
            · have HF := Lib.hid hf
              rw [hf, if_pos rfl] at HO
              clear hf
              go_wp2_with (go_at_call 89; refine HO.out.mono ?_; rintro e w9 ⟨rfl, hrun, hb9⟩; obtain ⟨vs9, hrun⟩ := hrun; have R9 := Lib.hid hrun; have L9 := Lib.hid (L8.out.trans (hb9.mono (Nat.le_succ _))); have X9 := Lib.hid ((hb9.block _ (Nat.lt_succ_self _)).trans X8.out); clear hb9 hrun)
              go_roundg k
              case measure => omega
              case rel => exact ⟨_, vs9, R9.out, L9.out, X9.out, by rw [oneR_n]; have := HK.out; show r.n + 1 + k = 120; omega, (runM_on HHPC.out H0.out HF.out).symm.trans HE.out, oneR_bd (HBB.out _) ⟨HB.out.g, HB.out.w⟩⟩
            · have HF := Lib.hid hf
              have df : (oneF (pr r.pc) i.lps { r with n := r.n + 1, pc := r.pc + 1 } != 0) = true := by simp [hf]
              rw [if_neg hf] at HO
              have e1 := Lib.hid (runM_bad (lps := i.lps) (seed := i.seed) (me := i.me) (k := k) HHPC.out H0.out HF.out)
              clear hf
              generalize oneF (pr r.pc) i.lps { r with n := r.n + 1, pc := r.pc + 1 } = fv at *
              go_wp2_with (go_at_call 89; refine HO.out.mono ?_; rintro e w9 ⟨rfl, hrun, hb9⟩; obtain ⟨vs9, hrun⟩ := hrun; have R9 := Lib.hid hrun; have L9 := Lib.hid (L8.out.trans (hb9.mono (Nat.le_succ _))); have X9 := Lib.hid ((hb9.block _ (Nat.lt_succ_self _)).trans X8.out); clear hb9 hrun; clear p0 p1 p2 p3 p4 p5 p6 pf; obtain ⟨p0, p1, p2, p3, p4, p5, p6, pf⟩ := R9.out.cells)
              go_ret
              exact ⟨P, bg, vw, vs9, rfl, by rw [← HE.out, e1.out]; exact R9.out.setF fv, L9.out.setCell (p := ⟨P, 6, none⟩) hPlo _⟩
      · have d1 : decide ((r.pc : Int) < (pl : Int)) = false := by rw [decide_eq_false_iff_not]; omega
        have HPC := Lib.hid (Nat.le_of_not_lt hpc)
        have d2 : decide (r.pc < pl) = false := by simp [hpc]
        clear hk
        go_wp2_with fail
        go_ret
        exact ⟨P, bg, vw, vs, rfl, by rw [← HE.out, runM_end HPC.out]; exact RU.out, LU.out⟩

end Go.Proofs.YthkfaeplmmlnlaaGreat
